/-
  Walks: the reference's There, Cell, Cells, Text, with.
-/
import Derived.Test.YtijbimofigkdkaaDoorRfRow
import Derived.Test.YtijbimofigkdkaaDoorGrAwake
import Derived.Test.YtijbimofigkdkaaDoorGrPutsM
namespace Go.Proofs.YtijbimofigkdkaaDoor
open Go.RowKit
set_option linter.unusedVariables false
set_option linter.unusedSimpArgs false

set_option maxHeartbeats 1000000 in
theorem rthere_any (W H : Nat) (A : Option Addr) (n c : Nat) (row col : Int) (w : World) :
    Calls Tryd.prog 52 #[.agg #[.int .i64 W, .int .i64 H, .slice A n c], .int .i64 row, .int .i64 col] w fun e w' => e = .returned (.bool (inB row col W H)) ∧ Below w.heap.size w w' := by
  go_enter Tryd.func52, Tryd.ntmps52
  go_wp2
  all_goals
    go_ret
    exact ⟨ret_bool (by unfold inB; rw [Bool.eq_iff_iff]; simp; omega), (Below.refl _ _).alloc (Nat.le_refl _) _⟩

theorem rg_size : (Tryd.prog.info? 29).map (·.size) = some 3 := by kernel_rfl
theorem rrow_size : (Tryd.prog.info? 77).map (·.size) = some 1 := by kernel_rfl
/-- a reference grid as a value -/
def rgC (W H : Nat) (A : Option Addr) (c : Nat) : List Value := [.int .i64 W, .int .i64 H, .slice A H c]
theorem rgC_one (W H : Nat) (A : Option Addr) (c : Nat) : ∀ v ∈ rgC W H A c, v.oneCell' = true := by
  intro v hv
  simp [rgC] at hv
  rcases hv with rfl | rfl | rfl <;> rfl
theorem blk3 {w : World} {b : Nat} {t : TypeId} {W H : Nat} {A : Option Addr} {c : Nat} (h : Blk w b t (rgC W H A c)) : w.cell? ⟨b, 0, none⟩ = some (.int .i64 W) ∧ w.cell? ⟨b, 1, none⟩ = some (.int .i64 H) ∧ w.cell? ⟨b, 2, none⟩ = some (.slice A H c) := ⟨h.cell 0, h.cell 1, h.cell 2⟩
/-- what a reference grid shows -/
def RfV (w : World) (D : Nat → Prop) (V : Value) (W : Nat) (L : List (List Cl)) : Prop := ∃ A c, V = .agg (rgC W L.length A c).toArray ∧ RfAt w D A c L

/-- a row of it, whatever was made since -/
theorem RfAt.row_later {w : World} {D : Nat → Prop} {A : Option Addr} {c : Nat} {L : List (List Cl)} (h : RfAt w D A c L) {row : Nat} {l : List Cl} (hl : L[row]? = some l) :
    ∃ b off Ai ci, A = some ⟨b, off, none⟩ ∧ ∀ w', Below w.heap.size w w' → w'.cell? ⟨b, off + row, none⟩ = some (.slice Ai l.length ci) ∧ RowD w' D (.slice Ai l.length ci) l := by
  obtain ⟨b, off, Ai, ci, rfl, hb, hc, hn, hs⟩ := h.at_ hl
  exact ⟨b, off, Ai, ci, rfl, fun w' hb' => ⟨(hb'.cell (p := ⟨b, off + row, none⟩) hb).trans hc, Ai, ci, rfl, hn, hs.below hb'⟩⟩

set_option maxRecDepth 100000 in
set_option maxHeartbeats 2000000 in
theorem rcells_yes {w : World} {D : Nat → Prop} {A : Option Addr} {c W : Nat} {L : List (List Cl)} (h : RfAt w D A c L) (row : Nat) (l : List Cl) (hl : L[row]? = some l) :
    Calls Tryd.prog 44 #[.agg #[.int .i64 W, .int .i64 L.length, .slice A L.length c], .int .i64 row] w fun e w' => ∃ u, e = .returned u ∧ RowD w' D u l ∧ Below w.heap.size w w' := by
  have hr : row < L.length := (List.getElem?_eq_some_iff.1 hl).1
  have hri : (row : Int) < L.length := by omega
  have hrj : ¬ (L.length : Int) ≤ row := by omega
  obtain ⟨b, off, Ai, ci, rfl, hlat⟩ := h.row_later hl
  have hb0 : Below w.heap.size w (w.alloc (.cells #[.int .i64 W, .int .i64 L.length, .slice (some ⟨b, off, none⟩) L.length c] 29)) := (Below.refl _ _).alloc (Nat.le_refl _) _
  obtain ⟨hc, hrow⟩ := hlat _ hb0
  have HB0 := Lib.hid hb0
  have HR := Lib.hid hrow
  generalize L.length = n at *
  clear h hl hlat hrow hb0
  go_enter Tryd.func44, Tryd.ntmps44
  go_wp2
  go_ret
  exact ⟨_, rfl, HR.out, HB0.out⟩
set_option maxHeartbeats 1000000 in
theorem rcells_no (W H : Nat) (A : Option Addr) (n c : Nat) (row : Int) (hr : row < 0 ∨ (H : Int) ≤ row) (w : World) :
    Calls Tryd.prog 44 #[.agg #[.int .i64 W, .int .i64 H, .slice A n c], .int .i64 row] w fun e w' => e = .returned (.slice none 0 0) ∧ Below w.heap.size w w' := by
  rcases hr with hr | hr
  · go_enter Tryd.func44, Tryd.ntmps44
    go_wp2
    all_goals
      go_ret
      exact ⟨rfl, (Below.refl _ _).alloc (Nat.le_refl _) _⟩
  · have hr0 : ¬ row < 0 := by omega
    go_enter Tryd.func44, Tryd.ntmps44
    go_wp2
    all_goals
      go_ret
      exact ⟨rfl, (Below.refl _ _).alloc (Nat.le_refl _) _⟩

set_option maxRecDepth 100000 in
set_option maxHeartbeats 2000000 in
theorem rcell_yes {w : World} {D : Nat → Prop} {A : Option Addr} {c W : Nat} {L : List (List Cl)} (h : RfAt w D A c L) (row col : Nat) (l : List Cl) (x : Cl) (hl : L[row]? = some l) (hx : l[col]? = some x) (hw : l.length = W) :
    Calls Tryd.prog 42 #[.agg #[.int .i64 W, .int .i64 L.length, .slice A L.length c], .int .i64 row, .int .i64 col] w fun e w' => e = .returned (.tuple #[.agg x.cells.toArray, .bool true]) ∧ Below w.heap.size w w' := by
  have hr : row < L.length := (List.getElem?_eq_some_iff.1 hl).1
  have hc : col < l.length := (List.getElem?_eq_some_iff.1 hx).1
  have hri : (row : Int) < L.length := by omega
  have hci : (col : Int) < l.length := by omega
  obtain ⟨b, off, Ai, ci, rfl, hlat⟩ := h.row_later hl
  have hin : inB row col W L.length = true := by unfold inB; simp; omega
  have HIN := Lib.hid hin
  have HLAT := Lib.hid hlat
  have HX := Lib.hid hx
  generalize L.length = n at *
  obtain ⟨W0, hW0⟩ : ∃ W0, W0 = (w.alloc (.cells #[.int .i64 W, .int .i64 n, .slice (some ⟨b, off, none⟩) n c] 29)).alloc (.cells #[.string ⟨#[]⟩, .int .i64 0, .bool false, .bool false, .bool false, .int .i64 0, .int .i64 0] 51) := ⟨_, rfl⟩
  have hb0 : Below w.heap.size w W0 := by rw [hW0]; exact ((Below.refl _ _).alloc (Nat.le_refl _) _).alloc (by simp) _
  have h1 : Blk W0 w.heap.size 29 (rgC W n (some ⟨b, off, none⟩) c) := by rw [hW0]; exact (Blk.new w _ (rgC W n (some ⟨b, off, none⟩) c)).alloc _
  have h2 : Blk W0 (w.heap.size + 1) 51 czero.cells := by rw [hW0]; exact Blk.new1 w _ _ czero.cells
  have HB0 := Lib.hid hb0
  have H1 := Lib.hid h1
  have H2 := Lib.hid h2
  obtain ⟨e0, e1, e2⟩ := blk3 h1
  clear h hl hx hlat hin hb0 h1 h2
  go_enter Tryd.func42, Tryd.ntmps42
  go_wp2_with (fail)
  rw [← hW0]
  clear hW0
  refine (rthere_any W n (some ⟨b, off, none⟩) n c row col W0).mono ?_
  rintro e w1 ⟨rfl, hb1⟩
  rw [HIN.out]
  have hbw := HB0.out.trans (hb1.mono HB0.out.size)
  obtain ⟨hcr, hrow⟩ := HLAT.out _ hbw
  obtain ⟨f0, f1, f2⟩ := blk3 (H1.out.below hb1 H1.out.lt)
  have HN := Lib.hid (H2.out.below hb1 H2.out.lt)
  have HBW := Lib.hid hbw
  obtain ⟨A1, c1, e3, hnil, hs⟩ := hrow
  injection e3 with e3 e4 e5
  subst e3 e5
  obtain ⟨bi, oi, rfl, hbi, _, hcx⟩ := hs.open_ (by rw [rc_length]; omega)
  have HRX : Hid (w1.rangeAt bi (oi + col * 7) x.cells) := fun j v hv => by
    rw [Nat.add_assoc]
    exact hcx _ v (rc_get HX.out hv)
  clear hb1 hbw hnil hs hcx hbi HLAT H1 H2 HB0 e0 e1 e2 e4
  go_wp2_with (first
    | ((with_reducible refine at_dst 22 ?_); refine wpList_load_mid rfl _ _ rfl bi (oi + col * 7) rfl x.cells _ HRX.out Tryd.underlying51 rfl cl_size ?_)
    | ((with_reducible refine at_store 6 ?_); refine wpList_store_blk rfl _ _ _ rfl rfl (w.heap.size + 1) 0 _ czero.cells x.cells rfl rfl HN.out (by simp [Cl.len]) cl_size x.one ?_; intro w2 hn2 hg2))
  have hc2 : Blk w2 (w.heap.size + 1) 51 x.cells := hn2
  refine bodyPost_ret (results_ct rfl rfl rfl (hc2.range 0 x.cells (fun j v hv => by simpa using hv)) Tryd.underlying51 rfl cl_size) rfl ⟨rfl, ?_⟩
  exact HBW.out.grown hg2 HBW.out.size (fun k hk => by injection hk with hk; omega)

set_option maxRecDepth 100000 in
set_option maxHeartbeats 2000000 in
theorem rcell_no (W H : Nat) (A : Option Addr) (n c : Nat) (row col : Int) (hbad : inB row col W H = false) (w : World) :
    Calls Tryd.prog 42 #[.agg #[.int .i64 W, .int .i64 H, .slice A n c], .int .i64 row, .int .i64 col] w fun e w' => e = .returned (.tuple #[.agg czero.cells.toArray, .bool false]) ∧ Below w.heap.size w w' := by
  have HIN := Lib.hid hbad
  obtain ⟨W0, hW0⟩ : ∃ W0, W0 = (w.alloc (.cells #[.int .i64 W, .int .i64 H, .slice A n c] 29)).alloc (.cells #[.string ⟨#[]⟩, .int .i64 0, .bool false, .bool false, .bool false, .int .i64 0, .int .i64 0] 51) := ⟨_, rfl⟩
  have hb0 : Below w.heap.size w W0 := by rw [hW0]; exact ((Below.refl _ _).alloc (Nat.le_refl _) _).alloc (by simp) _
  have h2 : Blk W0 (w.heap.size + 1) 51 czero.cells := by rw [hW0]; exact Blk.new1 w _ _ czero.cells
  have HB0 := Lib.hid hb0
  have H2 := Lib.hid h2
  clear hbad hb0 h2
  go_enter Tryd.func42, Tryd.ntmps42
  go_wp2_with (fail)
  rw [← hW0]
  clear hW0
  refine (rthere_any W H A n c row col W0).mono ?_
  rintro e w1 ⟨rfl, hb1⟩
  rw [HIN.out]
  have hbw := HB0.out.trans (hb1.mono HB0.out.size)
  have HN := Lib.hid (H2.out.below hb1 H2.out.lt)
  have HBW := Lib.hid hbw
  clear hb1 hbw H2 HB0
  go_wp2_with ((with_reducible refine at_store 6 ?_); refine wpList_store_blk rfl _ _ _ rfl rfl (w.heap.size + 1) 0 _ czero.cells czero.cells rfl rfl HN.out (by simp [Cl.len]) cl_size czero.one ?_; intro w2 hn2 hg2)
  have hc2 : Blk w2 (w.heap.size + 1) 51 czero.cells := hn2
  refine bodyPost_ret (results_ct rfl rfl rfl (hc2.range 0 czero.cells (fun j v hv => by simpa using hv)) Tryd.underlying51 rfl cl_size) rfl ⟨rfl, ?_⟩
  exact HBW.out.grown hg2 HBW.out.size (fun k hk => by injection hk with hk; omega)

theorem rcell_any {w : World} {D : Nat → Prop} {A : Option Addr} {c W : Nat} {L : List (List Cl)} (h : RfAt w D A c L) (hwd : ∀ (i : Nat) l, L[i]? = some l → l.length = W) (row col : Int) :
    Calls Tryd.prog 42 #[.agg #[.int .i64 W, .int .i64 L.length, .slice A L.length c], .int .i64 row, .int .i64 col] w fun e w' => e = .returned (.tuple #[.agg (cellB L row col).1.cells.toArray, .bool (cellB L row col).2]) ∧ Below w.heap.size w w' := by
  by_cases hin : inB row col W L.length = true
  · obtain ⟨h0, h1, h2, h3⟩ : 0 ≤ row ∧ row < L.length ∧ 0 ≤ col ∧ col < W := by simpa [inB] using hin
    obtain ⟨r, rfl⟩ := Int.eq_ofNat_of_zero_le h0
    obtain ⟨k, rfl⟩ := Int.eq_ofNat_of_zero_le h2
    have hl : L[r]? = some (L[r]'(by omega)) := List.getElem?_eq_getElem (by omega)
    have hlen := hwd _ _ hl
    have hc : (L[r]'(by omega))[k]? = some ((L[r]'(by omega))[k]'(by omega)) := List.getElem?_eq_getElem (by omega)
    have e : cellB L r k = ((L[r]'(by omega))[k]'(by omega), true) := by
      rw [cellB_nat, hl]
      simp only
      rw [hc]
    rw [e]
    exact rcell_yes h r k _ _ hl hc hlen
  · have hin' : inB row col W L.length = false := by simpa using hin
    have e : cellB L row col = (czero, false) := by
      unfold cellB
      split
      · next h02 =>
        split
        · rfl
        · next l hl =>
          have hlen := hwd _ _ hl
          have hr : row.toNat < L.length := (List.getElem?_eq_some_iff.1 hl).1
          split
          · rfl
          · next c hc =>
            have hcl : col.toNat < l.length := (List.getElem?_eq_some_iff.1 hc).1
            exfalso
            apply hin
            simp [inB]
            omega
      · rfl
    rw [e]
    exact rcell_no W L.length A L.length c row col hin' w

set_option maxRecDepth 100000 in
set_option maxHeartbeats 4000000 in
/-- with: a row of a grid is another one -/
theorem rwith_any {w : World} {D : Nat → Prop} {A : Option Addr} {c W : Nat} {L : List (List Cl)} (h : RfAt w D A c L) (row : Nat) (hr : row < L.length) (h5 : L.length ≤ 500) {v : Value} {l : List Cl} (hv : RowD w D v l) :
    Calls Tryd.prog 53 #[.agg #[.int .i64 W, .int .i64 L.length, .slice A L.length c], .int .i64 row, v] w fun e w' => ∃ V, e = .returned V ∧ RfV w' (fun b => D b ∨ w.heap.size ≤ b) V W (L.set row l) ∧ Below w.heap.size w w' := by
  obtain ⟨hnil, hcap, vs, hvs, hrows⟩ := h
  obtain ⟨i0, hi0, hz0, hz1, hz2⟩ := info_parts (show (Tryd.prog.info? 77).map (fun i => (i.zero, i.size, i.bytes)) = some (some (.agg #[.slice none 0 0]), 1, 24) by kernel_rfl)
  have HI0 := Lib.hid hi0
  have HZ0 := Lib.hid hz0
  have HZ1 := Lib.hid hz1
  have HZ2 := Lib.hid hz2
  have hb0 : Below w.heap.size w ((w.alloc (.cells #[.int .i64 W, .int .i64 L.length, .slice A L.length c] 29)).alloc (.cells #[.int .i64 0, .int .i64 0, .slice none 0 0] 29)) := ((Below.refl _ _).alloc (Nat.le_refl _) _).alloc (by simp) _
  have h1 : Blk ((w.alloc (.cells #[.int .i64 W, .int .i64 L.length, .slice A L.length c] 29)).alloc (.cells #[.int .i64 0, .int .i64 0, .slice none 0 0] 29)) w.heap.size 29 (rgC W L.length A c) := (Blk.new w _ (rgC W L.length A c)).alloc _
  have h2 : Blk ((w.alloc (.cells #[.int .i64 W, .int .i64 L.length, .slice A L.length c] 29)).alloc (.cells #[.int .i64 0, .int .i64 0, .slice none 0 0] 29)) (w.heap.size + 1) 29 (rgC 0 0 none 0) := Blk.new1 w _ _ (rgC 0 0 none 0)
  obtain ⟨n, hn⟩ : ∃ n, n = L.length := ⟨_, rfl⟩
  rw [← hn] at hr h5 hb0 h1 h2 ⊢
  have hvl : vs.length = n := by rw [hn]; exact hrows.1
  obtain ⟨Av, cv, rfl, hvn, hvc⟩ := hv
  have HV := Lib.hid (show RowD w D (.slice Av l.length cv) l from ⟨Av, cv, rfl, hvn, hvc⟩)
  have HSL := Lib.hid ((hvs.sl.alloc (Nat.le_refl _) (.cells #[.int .i64 W, .int .i64 n, .slice A n c] 29)).alloc (by simp) (.cells #[.int .i64 0, .int .i64 0, .slice none 0 0] 29) |>.alloc (by simp; omega) (.cells #[] 77))
  have HROWS := Lib.hid hrows
  have HONE := Lib.hid hrows.one
  have HVL := Lib.hid hvl
  have HNIL := Lib.hid hnil
  have HB0 := Lib.hid hb0
  have H1 := Lib.hid h1
  have H2 := Lib.hid h2
  have HN := Lib.hid hn
  have hri : (row : Int) < n := by omega
  clear hi0 hz0 hz1 hz2 hvs hrows hvl hnil hb0 h1 h2 hvn hvc hn hcap
  go_enter Tryd.func53, Tryd.ntmps53
  go_wp2_with (first
    | (at_builtin; (refine wpList_append_sl _ rfl (.tmp 8) (.tmp 10) _ rfl (w.heap.size + 2) 77 i0 _ 1 24 Tryd.underlying27 HI0.out HZ0.out HZ1.out HZ2.out rfl (by omega) (.slice (some ⟨w.heap.size + 2, 0, none⟩) 0 0) 0 [] rfl (by have := World.ownsRow_lit (base := w.heap.size + 2) (e := 77) (size := 1) ((w.alloc (.cells #[.int .i64 W, .int .i64 n, .slice A n c] 29)).alloc (.cells #[.int .i64 0, .int .i64 0, .slice none 0 0] 29)) #[] 0 (by simp) (by simp only [maxLen]; omega) (by simp); simpa using this) w.heap.size A n c vs rfl HSL.out (by rw [HVL.out]; omega) HNIL.out HONE.out (by simp only [maxLen]; omega) (by omega) (by simp) ?_); intro v' w2 ho hg hat; rw [Nat.zero_add, List.nil_append] at ho; obtain ⟨g, cap, cur, rfl, hbg, hb2, htk, hlc⟩ := own_blk ho (by omega); have HCP := Lib.hid (own_cap ho); have hbw2 : Below (w.heap.size + 2) ((w.alloc (.cells #[.int .i64 W, .int .i64 n, .slice A n c] 29)).alloc (.cells #[.int .i64 0, .int .i64 0, .slice none 0 0] 29)) w2 := ((Below.refl _ _).alloc (by simp) (.cells #[] 77)).grown hg (by simp) (fun j hj => by have : some (w.heap.size + 2) = some j := hj; injection this with this; omega); have HX2 := Lib.hid (H1.out.below hbw2 (by omega)); have HR2 := Lib.hid (H2.out.below hbw2 (by omega)); have HBW2 := Lib.hid (HB0.out.trans (hbw2.mono (by omega))); have HB2 := Lib.hid hb2; have HTK := Lib.hid htk; have HBG := Lib.hid hbg; have HLC := Lib.hid hlc; clear ho hg hat hb2 htk hbg hlc hbw2)
    | ((with_reducible refine at_store 16 ?_); refine wpList_store_blk rfl _ _ _ rfl rfl g row _ cur [.slice Av l.length cv] rfl rfl HB2.out (by have := HLC.out; simp; omega) rrow_size (fun v hv => by simp at hv; subst hv; rfl) ?_; intro w3 hn3 hg3; have hne : g ≠ w.heap.size ∧ g ≠ w.heap.size + 1 := (by have := HBG.out; omega); have HB3 := Lib.hid (show Blk w3 g 77 (splice cur row [.slice Av l.length cv]) from hn3); have HX3 := Lib.hid (HX2.out.chg (chg_of_grown hg3) (fun e => hne.1 (Eq.symm e))); have HR3 := Lib.hid (HR2.out.chg (chg_of_grown hg3) (fun e => hne.2 (Eq.symm e))); have HBW3 := Lib.hid (HBW2.out.grown hg3 HBW2.out.size (fun j hj => by injection hj with hj; have := HBG.out; omega)); clear hn3 hg3)
    | ((with_reducible refine at_store 18 ?_); refine wpList_store_cell rfl _ _ _ rfl rfl w.heap.size 2 _ _ (.slice (some ⟨g, 0, none⟩) n cap) rfl rfl HX3.out (by simp [rgC]) (by kernel_rfl) rfl ?_; intro w4 hn4 hg4; have HX4 := Lib.hid (show Blk w4 w.heap.size 29 (rgC W n (some ⟨g, 0, none⟩) cap) from hn4); have HR4 := Lib.hid (HR3.out.chg (chg_of_grown hg4) (fun e => by have e' : w.heap.size + 1 = w.heap.size := e; omega)); have HB4 := Lib.hid (HB3.out.chg (chg_of_grown hg4) (fun e => hne.1 e)); have HBW4 := Lib.hid (HBW3.out.grown hg4 HBW3.out.size (fun j hj => by injection hj with hj; omega)); clear hn4 hg4)
    | ((with_reducible refine at_dst 19 ?_); refine wpList_load_mid rfl _ _ rfl w.heap.size 0 rfl (rgC W n (some ⟨g, 0, none⟩) cap) _ HX4.out.whole Tryd.underlying29 rfl rg_size ?_)
    | ((with_reducible refine at_store 6 ?_); refine wpList_store_blk rfl _ _ _ rfl rfl (w.heap.size + 1) 0 _ (rgC 0 0 none 0) (rgC W n (some ⟨g, 0, none⟩) cap) rfl rfl HR4.out (by simp [rgC]) rg_size (rgC_one _ _ _ _) ?_; intro w5 hn5 hg5))
  have hc5 : Blk w5 (w.heap.size + 1) 29 (rgC W n (some ⟨g, 0, none⟩) cap) := hn5
  have hbw := HBW4.out.grown hg5 HBW4.out.size (fun j hj => by injection hj with hj; omega)
  refine bodyPost_ret (results_c rfl rfl hc5.whole Tryd.underlying29 rfl rg_size) rfl ⟨_, rfl, ⟨some ⟨g, 0, none⟩, cap, by rw [List.length_set, ← HN.out], ?_⟩, hbw⟩
  have hb5 := HB4.out.chg (chg_of_grown hg5) (fun e => hne.2 e)
  have et : (splice cur row [.slice Av l.length cv]).take (n * 1) = vs.set row (.slice Av l.length cv) := by
    rw [take_splice _ _ _ _ (by simp; omega) HLC.out, HTK.out, splice_one _ _ _ (by rw [HVL.out]; exact hr)]
  refine ⟨fun e => (by cases e), ?_, vs.set row (.slice Av l.length cv), sld_of_blk hb5 et (.inr (by have := HBG.out; omega)), ?_⟩
  · have := HCP.out
    have := HN.out
    rw [List.length_set]
    omega
  · exact ((HROWS.out.set row HV.out).below hbw).mono (fun b _ h => .inl h)

set_option maxRecDepth 100000 in
set_option maxHeartbeats 4000000 in
theorem rtext_yes {w : World} {D : Nat → Prop} {A : Option Addr} {c W : Nat} {L : List (List Cl)} (h : RfAt w D A c L) (row : Nat) (l : List Cl) (hl : L[row]? = some l) (hf : Wf l) (h5 : l.length ≤ 500) :
    Calls Tryd.prog 43 #[.agg #[.int .i64 W, .int .i64 L.length, .slice A L.length c], .int .i64 row] w fun e w' => e = .returned (.string ⟨(textM l).toArray⟩) ∧ Below w.heap.size w w' := by
  have hb0 : Below w.heap.size w (w.alloc (.cells #[.int .i64 W, .int .i64 L.length, .slice A L.length c] 29)) := (Below.refl _ _).alloc (Nat.le_refl _) _
  have hcall := rcells_yes (W := W) (h.below hb0) row l hl
  have HCALL := Lib.hid hcall
  have HB0 := Lib.hid hb0
  have HSH := Lib.hid (fun k => flatS_le (l := l.take k) (fun c hc => hf.mem c (List.mem_of_mem_take hc)))
  have HSH1 := Lib.hid hf.short
  generalize L.length = m at *
  obtain ⟨n, hn⟩ : ∃ n, n = l.length := ⟨_, rfl⟩
  rw [← hn] at h5
  have HN := Lib.hid hn
  clear h hl hf hb0 hcall hn
  go_enter Tryd.func43, Tryd.ntmps43
  go_wp2_with (fail)
  refine HCALL.out.mono ?_
  rintro e w1 ⟨u, rfl, hr1, hb1⟩
  obtain ⟨Ai, ci, rfl, hnil, hs⟩ := hr1
  rw [← HN.out]
  have HS := Lib.hid hs
  have HB1 := Lib.hid (HB0.out.trans (hb1.mono HB0.out.size))
  clear hb1 hs hnil HCALL
  go_wp2_with (fail)
  go_loop [6, 7] (fun v6 v7 => ∃ k : Nat, v7 = .int .i64 k ∧ k ≤ n ∧ v6 = .string ⟨(flatS (l.take k)).toArray⟩) (fun _ v7 => n - (intOf v7).toNat)
  case atStart => exact ⟨0, rfl, by omega, rfl⟩
  case round =>
    obtain ⟨k, rfl, hk, rfl⟩ := hrel
    by_cases hlt : k < n
    · have hki : (k : Int) < n := by omega
      have hc : l[k]? = some (l[k]'(by have := HN.out; omega)) := List.getElem?_eq_getElem _
      generalize l[k]'(by have := HN.out; omega) = x at hc
      obtain ⟨bi, oi, rfl, hbi, _, hcx⟩ := HS.out.open_ (by rw [rc_length]; have := HN.out; omega)
      have hx := hcx _ _ (rc_get hc (j := 0) rfl)
      rw [Nat.add_zero] at hx
      have hsum : (⟨(flatS (l.take k)).toArray⟩ : ByteArray) ++ ⟨x.s.toArray⟩ = ⟨(flatS (l.take (k + 1))).toArray⟩ := by
        rw [flatS_snoc hc]; apply ByteArray.ext; simp [ByteArray.data_append]
      have h64 := HSH1.out k x hc
      have hFk : (flatS (l.take k)).length ≤ 40000 := by
        have h1 := HSH.out k
        have h2 : (l.take k).length ≤ k := List.length_take_le _ _
        omega
      obtain ⟨F, hF⟩ : ∃ F, F = flatS (l.take k) := ⟨_, rfl⟩
      obtain ⟨G, hG⟩ : ∃ G, G = x.s := ⟨_, rfl⟩
      rw [← hF, ← hG] at hsum
      rw [← hF] at hFk ⊢
      rw [← hG] at h64 hx
      have hs1 : (⟨F.toArray⟩ : ByteArray).size + (⟨G.toArray⟩ : ByteArray).size ≤ 9223372036854775807 := by
        have a : (⟨F.toArray⟩ : ByteArray).size = F.length := by show F.toArray.size = _; simp
        have b : (⟨G.toArray⟩ : ByteArray).size = G.length := by show G.toArray.size = _; simp
        omega
      have hst : ∀ w, (Op.stringOp .add ⟨F.toArray⟩ ⟨G.toArray⟩).run Tryd.prog w = .ok (.string ⟨(flatS (l.take (k + 1))).toArray⟩) w := fun w => by
        rw [run_string_add_sum w _ _ hs1, hsum]
      clear hc hcx hsum hs1 hF hG h64 hFk
      go_wp2
      go_round
      case rel => exact ⟨k + 1, by go_num, by omega, rfl⟩
      case measure => simp [intOf]; omega
    · have hki : ¬ (k : Int) < n := by omega
      obtain rfl : k = n := by omega
      rw [List.take_of_length_le (by have := HN.out; omega)]
      have hfl : (flatS l).length ≤ 40000 := by
        have h1 := HSH.out k
        rw [List.take_of_length_le (by have := HN.out; omega)] at h1
        have := HN.out
        omega
      have hsz : (⟨(flatS l).toArray⟩ : ByteArray).size = (flatS l).length := by show (flatS l).toArray.size = _; simp
      obtain ⟨F, hF⟩ : ∃ F, F = flatS l := ⟨_, rfl⟩
      have HTX : Hid (textM l = Lib.trimRightB F 32) := by show _ = _; unfold textM; rw [hF]
      rw [← hF] at hfl hsz ⊢
      have HSZ := Lib.hid hsz
      obtain ⟨m2, hm2⟩ : ∃ m2, m2 = F.length := ⟨_, rfl⟩
      have hsm : (⟨F.toArray⟩ : ByteArray).size = m2 := by rw [hm2]; exact hsz
      have HM2 := Lib.hid hm2
      rw [← hm2] at hfl
      obtain ⟨S, hS⟩ : ∃ S : ByteArray, S = ⟨F.toArray⟩ := ⟨_, rfl⟩
      have HSF : Hid (S.data.toList = F) := by show _ = _; rw [hS]
      have HSFA : Hid (∀ j : Nat, S.extract 0 j = ⟨(F.take j).toArray⟩) := fun j => by rw [hS]; apply ByteArray.ext; simp [ByteArray.data_extract]
      rw [← hS] at hsm ⊢
      have HSM := Lib.hid hsm
      clear hF hsz hS hm2 hsm
      go_wp2_with (fail)
      go_loop [8] (fun v8 => ∃ j : Nat, v8 = .int .i64 j ∧ j ≤ m2 ∧ ∀ (i : Nat) b, j ≤ i → F[i]? = some b → b = 32) (fun v8 => (intOf v8).toNat)
      case atStart => exact ⟨m2, by first | rfl | rw [HSM.out], by omega, fun i b hi hb => by have := (List.getElem?_eq_some_iff.1 hb).1; have := HM2.out; omega⟩
      case round =>
        obtain ⟨j, rfl, hj, hall⟩ := hrel
        have HALL := Lib.hid hall
        clear hall
        by_cases h0 : j = 0
        · subst h0
          have he : textM l = [] := by
            rw [HTX.out, Lib.trimRightB_take F 32 0 (by omega) (fun i b hi hb => HALL.out i b hi hb) (fun b hb => by omega)]
            rfl
          have HE := Lib.hid he
          clear he
          go_wp2
          go_ret
          exact ⟨by rw [HE.out]; rfl, HB1.out⟩
        · obtain ⟨i, rfl⟩ : ∃ i, j = i + 1 := ⟨j - 1, by omega⟩
          have hii : ((i + 1 : Nat) : Int) = (i : Int) + 1 := by omega
          rw [hii]
          have hpos : 0 < (i : Int) + 1 := by omega
          have hi2 : i < S.size := by have := HSM.out; omega
          have hFi : F[i]? = some S[i] := by
            have e := HSF.out
            rw [← e, Array.getElem?_toList]
            exact Array.getElem?_eq_getElem hi2
          by_cases hb : S[i] = 32
          · have hq : ((S[i].toNat : Int) == 32) = true := by rw [hb]; rfl
            have HFI := Lib.hid hFi
            have HBB := Lib.hid hb
            clear hFi hb h0
            go_wp2
            refine ⟨⟨i, rfl, by omega, fun q b hq2 hb2 => ?_⟩, by simp [intOf]⟩
            by_cases e : q = i
            · subst e
              have h1 := HFI.out
              rw [HBB.out] at h1
              rw [h1] at hb2
              injection hb2 with hb2
              exact hb2.symm
            · exact HALL.out q b (by omega) hb2
          · have hq : ((S[i].toNat : Int) == 32) = false := by
              simp
              intro e
              apply hb
              apply UInt8.toNat.inj
              have : S[i].toNat = 32 := by omega
              rw [this]
              rfl
            have he : textM l = F.take (i + 1) := by
              rw [HTX.out, Lib.trimRightB_take F 32 (i + 1) (by have := HM2.out; omega) (fun q b hq2 hb2 => HALL.out q b hq2 hb2) (fun b _ hb2 => ?_)]
              rw [show i + 1 - 1 = i by omega, hFi] at hb2
              injection hb2 with hb2
              rw [← hb2]
              exact hb
            have HE := Lib.hid he
            clear hFi hb h0 he
            go_wp2
            go_ret
            exact ⟨by rw [HE.out, HSFA.out]; rfl, HB1.out⟩

theorem rtext_any {w : World} {D : Nat → Prop} {A : Option Addr} {c W : Nat} {L : List (List Cl)} (row : Int) (hr : row < 0 ∨ (L.length : Int) ≤ row) :
    Calls Tryd.prog 43 #[.agg #[.int .i64 W, .int .i64 L.length, .slice A L.length c], .int .i64 row] w fun e w' => e = .returned (.string ⟨#[]⟩) ∧ Below w.heap.size w w' := by
  have hb0 : Below w.heap.size w (w.alloc (.cells #[.int .i64 W, .int .i64 L.length, .slice A L.length c] 29)) := (Below.refl _ _).alloc (Nat.le_refl _) _
  have HCALL := Lib.hid (rcells_no W L.length A L.length c row hr)
  have HB0 := Lib.hid hb0
  clear hb0
  go_enter Tryd.func43, Tryd.ntmps43
  go_wp2_with (fail)
  refine (HCALL.out _).mono ?_
  rintro e w1 ⟨rfl, hb1⟩
  have HB1 := Lib.hid (HB0.out.trans (hb1.mono HB0.out.size))
  clear hb1 HCALL
  go_wp2_with (fail)
  go_loop [6, 7] (fun v6 v7 => v7 = .int .i64 0 ∧ v6 = .string ⟨#[]⟩) (fun _ _ => 0)
  case atStart => exact ⟨rfl, rfl⟩
  case round =>
    obtain ⟨rfl, rfl⟩ := hrel
    go_wp2_with (fail)
    go_loop [8] (fun v8 => v8 = .int .i64 0) (fun _ => 0)
    case atStart => rfl
    case round =>
      subst hrel
      go_wp2
      go_ret
      exact ⟨rfl, HB1.out⟩
end Go.Proofs.YtijbimofigkdkaaDoor
