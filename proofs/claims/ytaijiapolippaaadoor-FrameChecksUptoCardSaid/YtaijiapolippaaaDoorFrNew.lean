/-
  A builder of the program as it lies in memory; walks: New, made, Size, checkRow, Cursor.
-/
import Derived.Test.YtaijiapolippaaaDoorFrFns
import Derived.Test.YtaijiapolippaaaDoorGfG
import Derived.Test.YtaijiapolippaaaDoorGfI
namespace Go.Proofs.YtaijiapolippaaaDoor
open Go.RowKit Go.Sort
set_option linter.unusedVariables false
set_option linter.unusedSimpArgs false

def bdC (b g : Nat) (row col : Int) (sn : Bool) : List Value := [.pointer (some ⟨b, 0, none⟩), .pointer (some ⟨g, 0, none⟩), .int .i64 row, .int .i64 col, .bool sn]
/-- A builder at block b, whose grid at block g shows the rows L; its blocks are from lo on. -/
structure BdAt (w : World) (lo b g rb : Nat) (bs : List Nat) (W : Nat) (L : List (List Cl)) (row col : Int) (sn : Bool) : Prop where
  head : Blk w b 168 (bdC b g row col sn)
  grid : GrAt w lo g rb bs W L
  lob : lo ≤ b
  nb : ¬ GrOwn g rb bs b
  h60 : L.length ≤ 60
  ok : OkL L
  r0 : 0 ≤ row ∧ row < L.length
  c0 : 0 ≤ col ∧ col < W
def BdOwn (b g rb : Nat) (bs : List Nat) (k : Nat) : Prop := k = b ∨ GrOwn g rb bs k
namespace BdAt
variable {w w' : World} {lo b g rb W : Nat} {bs : List Nat} {L L' : List (List Cl)} {row col : Int} {sn : Bool}
theorem keep {S : Nat → Prop} (h : BdAt w lo b g rb bs W L row col sn) (hc : Chg S w w') (hn : ∀ k, BdOwn b g rb bs k → ¬ S k) : BdAt w' lo b g rb bs W L row col sn :=
  ⟨h.head.chg hc (hn _ (.inl rfl)), h.grid.keep hc (fun k hk => hn k (.inr hk)), h.lob, h.nb, h.h60, h.ok, h.r0, h.c0⟩
theorem below (h : BdAt w lo b g rb bs W L row col sn) (hb : Below w.heap.size w w') : BdAt w' lo b g rb bs W L row col sn := h.keep (Chg.of_below (S := noB) hb) (fun _ _ h => h)
theorem drewN (h : BdAt w lo b g rb bs W L row col sn) (n : Nat) : BdAt (w.drewN n) lo b g rb bs W L row col sn := h.below (below_drewN w n)
theorem own_lt (h : BdAt w lo b g rb bs W L row col sn) (k : Nat) (hk : BdOwn b g rb bs k) : k < w.heap.size := by
  rcases hk with rfl | hk
  · exact h.head.lt
  · exact h.grid.own_lt k hk
theorem lo_le (h : BdAt w lo b g rb bs W L row col sn) (k : Nat) (hk : BdOwn b g rb bs k) : lo ≤ k := by
  rcases hk with rfl | hk
  · exact h.lob
  · exact h.grid.lo k hk
/-- Its rows have turned. -/
theorem turned (h : BdAt w lo b g rb bs W L row col sn) (hg : GrAt w' lo g rb bs W L') (hc : Chg (GrOwn g rb bs) w w') (hl : L'.length = L.length) (ho : OkL L') : BdAt w' lo b g rb bs W L' row col sn :=
  ⟨h.head.chg hc h.nb, hg, h.lob, h.nb, by rw [hl]; exact h.h60, ho, by rw [hl]; exact h.r0, h.c0⟩
theorem ptr (h : BdAt w lo b g rb bs W L row col sn) : w.cell? ⟨b, 0, none⟩ = some (.pointer (some ⟨b, 0, none⟩)) := h.head.cell 0
theorem cells (h : BdAt w lo b g rb bs W L row col sn) : w.cell? ⟨b, 1, none⟩ = some (.pointer (some ⟨g, 0, none⟩)) := h.head.cell 1
end BdAt

theorem fptr_info : (Tryd.prog.info? 168).isSome = true := by kernel_rfl
theorem frun_eql_self (a : Addr) (w : World) : Sem.run Tryd.prog (binOp .eql 127 (.pointer (some a)) (.pointer (some a))) w = .ok (.bool true) w := by
  obtain ⟨j, hj⟩ := Option.isSome_iff_exists.1 fptr_info
  have h : ∀ d : Nat, (Op.equalIn (d + 1) 127 (.pointer (some a)) (.pointer (some a))).run Tryd.prog w = .ok true w := fun d => by
    simp [Op.equalIn, run_underlying Tryd.underlying127, sizeOf, typeInfo, hj, run_sameAddr_same]
  simp only [binOp]
  simp [Op.equal, Op.maxDepth, h 9999]
theorem frun_eql_none (a : Addr) (w : World) : Sem.run Tryd.prog (binOp .eql 127 (.pointer none) (.pointer (some a))) w = .ok (.bool false) w := by
  have h : ∀ d : Nat, (Op.equalIn (d + 1) 127 (.pointer none) (.pointer (some a))).run Tryd.prog w = .ok false w := fun d => by
    simp [Op.equalIn, run_underlying Tryd.underlying127]
  simp only [binOp]
  simp [Op.equal, Op.maxDepth, h 9999]
set_option maxHeartbeats 400000 in
theorem fmade_yes (g : Nat) (w : World) (hp : w.cell? ⟨g, 0, none⟩ = some (.pointer (some ⟨g, 0, none⟩))) :
    Calls Tryd.prog 113 #[.pointer (some ⟨g, 0, none⟩)] w fun e w' => e = .returned (.bool true) ∧ w = w' := by
  have he := frun_eql_self ⟨g, 0, none⟩
  go_enter Tryd.func113, Tryd.ntmps113
  go_wp2
  go_ret
  exact ⟨rfl, rfl⟩
set_option maxHeartbeats 400000 in
theorem fmade_nil (w : World) : Calls Tryd.prog 113 #[.pointer none] w fun e w' => e = .returned (.bool false) ∧ w = w' := by
  go_enter Tryd.func113, Tryd.ntmps113
  go_wp2
  go_ret
  exact ⟨rfl, rfl⟩
set_option maxHeartbeats 400000 in
theorem fmade_no (g : Nat) (w : World) (hp : w.cell? ⟨g, 0, none⟩ = some (.pointer none)) :
    Calls Tryd.prog 113 #[.pointer (some ⟨g, 0, none⟩)] w fun e w' => e = .returned (.bool false) ∧ w = w' := by
  have he := frun_eql_none ⟨g, 0, none⟩
  go_enter Tryd.func113, Tryd.ntmps113
  go_wp2
  go_ret
  exact ⟨rfl, rfl⟩
/-- A builder that nobody made. -/
def BdNo (w : World) (p : Option Addr) : Prop := p = none ∨ ∃ g, p = some ⟨g, 0, none⟩ ∧ w.cell? ⟨g, 0, none⟩ = some (.pointer none)
theorem BdNo.below {w w' : World} {p : Option Addr} (h : BdNo w p) (hb : Below w.heap.size w w') : BdNo w' p := by
  rcases h with h | ⟨g, h1, h2⟩
  · exact .inl h
  · exact .inr ⟨g, h1, (hb.cell (p := ⟨g, 0, none⟩) (World.block_lt_of_cell? w _ h2)).trans h2⟩
theorem fmade_not {w : World} {p : Option Addr} (h : BdNo w p) : Calls Tryd.prog 113 #[.pointer p] w fun e w' => e = .returned (.bool false) ∧ w = w' := by
  rcases h with rfl | ⟨g, rfl, hp⟩
  · exact fmade_nil w
  · exact fmade_no g w hp

set_option maxHeartbeats 400000 in
theorem fbsize_any {w : World} {lo b g rb W : Nat} {bs : List Nat} {L : List (List Cl)} {row col : Int} {sn : Bool} (h : BdAt w lo b g rb bs W L row col sn) :
    Calls Tryd.prog 107 #[.pointer (some ⟨b, 0, none⟩)] w fun e w' => e = .returned (.tuple #[.int .i64 W, .int .i64 L.length]) ∧ ∃ n, w' = w.drewN n := by
  have hc := h.cells
  have H := Lib.hid h
  clear h
  go_enter Tryd.func107, Tryd.ntmps107
  go_wp2_with (first
    | (go_at_call 113; refine (fmade_yes b w H.out.ptr).mono ?_; rintro e w' ⟨rfl, rfl⟩)
    | (go_at_call 140; refine (size_any H.out.grid).mono ?_; rintro e w' ⟨rfl, n, rfl⟩))
  go_ret2
  exact ⟨rfl, _, rfl⟩
set_option maxHeartbeats 400000 in
theorem fbsize_not {w : World} {p : Option Addr} (h : BdNo w p) :
    Calls Tryd.prog 107 #[.pointer p] w fun e w' => e = .returned (.tuple #[.int .i64 0, .int .i64 0]) ∧ w = w' := by
  have H := Lib.hid h
  clear h
  go_enter Tryd.func107, Tryd.ntmps107
  go_wp2_with (go_at_call 113; refine (fmade_not H.out).mono ?_; rintro e w' ⟨rfl, rfl⟩)
  go_ret2
  exact ⟨rfl, rfl⟩
set_option maxHeartbeats 400000 in
theorem fcheckrow_any {w : World} {lo b g rb W : Nat} {bs : List Nat} {L : List (List Cl)} {r0 c0 : Int} {sn : Bool} (h : BdAt w lo b g rb bs W L r0 c0 sn) (row : Int) :
    Calls Tryd.prog 106 #[.pointer (some ⟨b, 0, none⟩), .int .i64 row] w fun e w' => e = .returned (.int .i64 (if fwithB row L.length = true then 0 else 5)) ∧ ∃ n, w' = w.drewN n := by
  have H := Lib.hid h
  clear h
  obtain ⟨v, hv⟩ : ∃ v, v = fwithB row L.length := ⟨_, rfl⟩
  rw [← hv]
  have HV := Lib.hid hv
  clear hv
  cases v
  all_goals
    go_enter Tryd.func106, Tryd.ntmps106
    go_wp2_with (first
      | (go_at_call 113; refine (fmade_yes b w H.out.ptr).mono ?_; rintro e w' ⟨rfl, rfl⟩)
      | (go_at_call 107; refine (fbsize_any H.out).mono ?_; rintro e w' ⟨rfl, n, rfl⟩)
      | (go_at_call 100; refine (fwith_any _ _ _).mono ?_; rintro e w' ⟨rfl, rfl⟩; rw [← HV.out]))
    go_ret
    exact ⟨rfl, _, rfl⟩
set_option maxHeartbeats 400000 in
theorem fcheckrow_not {w : World} {p : Option Addr} (h : BdNo w p) (row : Int) :
    Calls Tryd.prog 106 #[.pointer p, .int .i64 row] w fun e w' => e = .returned (.int .i64 4) ∧ w = w' := by
  have H := Lib.hid h
  clear h
  go_enter Tryd.func106, Tryd.ntmps106
  go_wp2_with (go_at_call 113; refine (fmade_not H.out).mono ?_; rintro e w' ⟨rfl, rfl⟩)
  go_ret
  exact ⟨rfl, rfl⟩

theorem fsizeB_side {a b : Int} (h : sideB a = false ∨ sideB b = false) : fsizeB a b = false := by
  unfold fsizeB
  unfold sideB at h
  simp only [decide_eq_false_iff_not] at h ⊢
  omega
set_option maxRecDepth 100000 in
set_option maxHeartbeats 4000000 in
theorem fnew_no (a b : Int) (hbad : fsizeB a b = false) (w : World) (hT : BlankT w) :
    Calls Tryd.prog 72 #[.int .i64 a, .int .i64 b] w fun e w' => e = .returned (.tuple #[.pointer none, .int .i64 90]) ∧ Below w.heap.size w w' := by
  by_cases hs : sideB a = false ∨ sideB b = false
  · have HS := Lib.hid hs
    clear hs hbad hT
    go_enter Tryd.func72, Tryd.ntmps72
    go_wp2_with (go_at_call 105; refine (new_no a b w HS.out).mono ?_; rintro e w' ⟨rfl, rfl⟩)
    go_ret2
    exact ⟨rfl, Below.refl _ _⟩
  · have h1 : (1 ≤ a ∧ a ≤ 500) ∧ (1 ≤ b ∧ b ≤ 500) := by
      unfold sideB at hs
      simp only [decide_eq_false_iff_not] at hs
      omega
    obtain ⟨W, rfl⟩ := Int.eq_ofNat_of_zero_le (show 0 ≤ a by omega)
    obtain ⟨H, rfl⟩ := Int.eq_ofNat_of_zero_le (show 0 ≤ b by omega)
    have HBAD := Lib.hid hbad
    have HN := Lib.hid (new_ok W H (by omega) (by omega) (by omega) (by omega) w hT)
    clear hs hbad h1 hT
    go_enter Tryd.func72, Tryd.ntmps72
    go_wp2_with (first
      | (go_at_call 105; refine HN.out.mono ?_; rintro e w1 ⟨g, rb, bs, rfl, hg, hb1⟩; have HB1 := Lib.hid hb1; clear hg hb1)
      | (go_at_call 99; refine (fsize_any _ _ _).mono ?_; rintro e w' ⟨rfl, rfl⟩; rw [HBAD.out]))
    go_ret2
    exact ⟨rfl, HB1.out⟩
set_option maxRecDepth 100000 in
set_option maxHeartbeats 4000000 in
theorem fnew_ok (W H : Nat) (w1 : 1 ≤ W) (w5 : W ≤ 500) (h1 : 1 ≤ H) (h6 : H ≤ 60) (w : World) (hT : BlankT w) :
    Calls Tryd.prog 72 #[.int .i64 W, .int .i64 H] w fun e w' => ∃ b g rb bs, e = .returned (.tuple #[.pointer (some ⟨b, 0, none⟩), .int .i64 0]) ∧ BdAt w' w.heap.size b g rb bs W (blankG W H) 0 0 false ∧ Below w.heap.size w w' := by
  have hgood : fsizeB W H = true := by unfold fsizeB; simp only [decide_eq_true_eq]; omega
  have HG := Lib.hid hgood
  have HN := Lib.hid (new_ok W H w1 w5 h1 (by omega) w hT)
  have hlen : (blankG W H).length = H := by simp [blankG]
  clear hgood hT
  go_enter Tryd.func72, Tryd.ntmps72
  go_wp2_with (first
    | (go_at_call 105; refine HN.out.mono ?_; rintro e w1 ⟨g, rb, bs, rfl, hg, hb1⟩; have HGR := Lib.hid hg; have HB1 := Lib.hid hb1; clear hg hb1)
    | (go_at_call 99; refine (fsize_any _ _ _).mono ?_; rintro e w' ⟨rfl, rfl⟩; rw [HG.out]))
  go_ret2
  have hlt : ∀ k, GrOwn g rb bs k → k < w1.heap.size := HGR.out.own_lt
  have hbel : Below w1.heap.size w1 (w1.alloc (.cells #[.pointer (some ⟨w1.heap.size, 0, none⟩), .pointer (some ⟨g, 0, none⟩), .int .i64 0, .int .i64 0, .bool false] 168)) :=
    (Below.refl _ w1).alloc (Nat.le_refl _) _
  refine ⟨w1.heap.size, g, rb, bs, rfl, ⟨?_, HGR.out.below hbel, HB1.out.size, fun hk => by have := hlt _ hk; omega, by rw [hlen]; exact h6, OkL.blanks W H, by rw [hlen]; omega, by omega⟩, HB1.out.trans (hbel.mono HB1.out.size)⟩
  exact Blk.new w1 168 [.pointer (some ⟨w1.heap.size, 0, none⟩), .pointer (some ⟨g, 0, none⟩), .int .i64 0, .int .i64 0, .bool false]

/-- what Cursor comes to -/
def fcurB (W H : Nat) (row col : Int) : Bool := fwithB row H && fwithB col W
theorem bdC_set {w : World} {b g : Nat} {r c : Int} {s : Bool} {t : TypeId} (h : Blk w b t (bdC b g r c s)) (r' c' : Int) (s' : Bool) :
    Blk (((w.setCell ⟨b, 2, none⟩ (.int .i64 r')).setCell ⟨b, 3, none⟩ (.int .i64 c')).setCell ⟨b, 4, none⟩ (.bool s')) b t (bdC b g r' c' s') := ((h.set_ 2 (.int .i64 r')).set_ 3 (.int .i64 c')).set_ 4 (.bool s')
end Go.Proofs.YtaijiapolippaaaDoor
