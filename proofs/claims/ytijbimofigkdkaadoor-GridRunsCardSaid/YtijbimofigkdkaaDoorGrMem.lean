/-
  A grid of the program as it lies in memory; walks of made, Size, has, Cell.
-/
import Derived.Test.YtijbimofigkdkaaDoorGrMath
import Derived.Test.YtijbimofigkdkaaDoorRows
import Derived.LaidEqlPtr
import Derived.Lib.Builder
import Derived.Deep.QuietTactic
import Derived.BigQuiet
namespace Go.Proofs.YtijbimofigkdkaaDoor
open Go.RowKit
set_option linter.unusedVariables false
set_option linter.unusedSimpArgs false

theorem cl_size : (Tryd.prog.info? 51).map (·.size) = some 7 := by kernel_rfl
theorem sl_size : (Tryd.prog.info? 46).map (·.size) = some 1 := by kernel_rfl
theorem cl_info : (Tryd.prog.info? 51).map (fun i => (i.zero, i.size, i.bytes)) = some (some (.agg czero.cells.toArray), 7, 48) := by kernel_rfl
theorem row_info : (Tryd.prog.info? 46).map (fun i => (i.zero, i.size, i.bytes)) = some (some (.slice none 0 0), 1, 24) := by kernel_rfl

/-- a row's slice, as a value -/
def rowV (W b : Nat) : Value := .slice (some ⟨b, 0, none⟩) W W
/-- The blocks of a grid. -/
def GrOwn (g rb : Nat) (bs : List Nat) (k : Nat) : Prop := k = g ∨ k = rb ∨ k ∈ bs

/-- A grid at block g, of W columns, that shows the rows L; its blocks are from lo on. -/
structure GrAt (w : World) (lo g rb : Nat) (bs : List Nat) (W : Nat) (L : List (List Cl)) : Prop where
  head : Blk w g 62 [.pointer (some ⟨g, 0, none⟩), .slice (some ⟨rb, 0, none⟩) L.length L.length]
  rows : Blk w rb 46 (bs.map (rowV W))
  len : bs.length = L.length
  nd : bs.Nodup
  row : ∀ (i b : Nat), bs[i]? = some b → ∃ l, L[i]? = some l ∧ l.length = W ∧ Wf l ∧ Blk w b 51 (rc l)
  lo : ∀ k, GrOwn g rb bs k → lo ≤ k
  w1 : 1 ≤ W
  w5 : W ≤ 500
  h1 : 1 ≤ L.length
  h5 : L.length ≤ 500

namespace GrAt
variable {w w' : World} {lo g rb W : Nat} {bs : List Nat} {L : List (List Cl)}
theorem own_lt (h : GrAt w lo g rb bs W L) (k : Nat) (hk : GrOwn g rb bs k) : k < w.heap.size := by
  rcases hk with rfl | rfl | hk
  · exact h.head.lt
  · exact h.rows.lt
  · obtain ⟨i, hi⟩ := List.getElem?_of_mem hk
    obtain ⟨l, _, _, _, hb⟩ := h.row i k hi
    exact hb.lt
theorem keep {S : Nat → Prop} (h : GrAt w lo g rb bs W L) (hc : Chg S w w') (hn : ∀ k, GrOwn g rb bs k → ¬ S k) : GrAt w' lo g rb bs W L :=
  ⟨h.head.chg hc (hn _ (.inl rfl)), h.rows.chg hc (hn _ (.inr (.inl rfl))), h.len, h.nd, fun i b hb => by
    obtain ⟨l, h1, h2, h3, h4⟩ := h.row i b hb
    exact ⟨l, h1, h2, h3, h4.chg hc (hn _ (.inr (.inr (List.mem_of_getElem? hb))))⟩, h.lo, h.w1, h.w5, h.h1, h.h5⟩
theorem below (h : GrAt w lo g rb bs W L) (hb : Below w.heap.size w w') : GrAt w' lo g rb bs W L := h.keep (Chg.of_below (S := noB) hb) (fun _ _ h => h)
theorem drewN (h : GrAt w lo g rb bs W L) (n : Nat) : GrAt (w.drewN n) lo g rb bs W L := h.keep ((Chg.refl noB w).drewN n) (fun _ _ h => h)
/-- the row's slice and its cells -/
theorem at_ (h : GrAt w lo g rb bs W L) {i : Nat} (hi : i < L.length) : ∃ b l, bs[i]? = some b ∧ L[i]? = some l ∧ w.cell? ⟨rb, i, none⟩ = some (rowV W b) ∧ l.length = W ∧ Wf l ∧ Blk w b 51 (rc l) := by
  have hb : i < bs.length := by rw [h.len]; exact hi
  have hbi : bs[i]? = some bs[i] := List.getElem?_eq_getElem hb
  obtain ⟨l, h1, h2, h3, h4⟩ := h.row i _ hbi
  refine ⟨_, l, hbi, h1, ?_, h2, h3, h4⟩
  rw [h.rows.cell, List.getElem?_map, hbi]
  rfl
/-- A row is written anew. -/
theorem set (h : GrAt w lo g rb bs W L) {row b : Nat} (hbi : bs[row]? = some b) (hc : Chg (one b) w w') {l : List Cl} (hl : l.length = W) (hf : Wf l) (hb : Blk w' b 51 (rc l)) : GrAt w' lo g rb bs W (L.set row l) := by
  obtain ⟨l0, _, _, _, hb0⟩ := h.row row b hbi
  have hrow : row < bs.length := (List.getElem?_eq_some_iff.1 hbi).1
  refine ⟨?_, h.rows.chg hc (fun e => h.rows.ne_ hb0 (by decide) e), by rw [List.length_set]; exact h.len, h.nd, fun i c hci => ?_, h.lo, h.w1, h.w5, by rw [List.length_set]; exact h.h1, by rw [List.length_set]; exact h.h5⟩
  · rw [List.length_set]
    exact h.head.chg hc (fun e => h.head.ne_ hb0 (by decide) e)
  · by_cases hi : i = row
    · subst hi
      rw [hbi] at hci
      injection hci with hci
      subst hci
      exact ⟨l, List.getElem?_set_self (by rw [← h.len]; exact hrow), hl, hf, hb⟩
    · obtain ⟨l1, h1, h2, h3, h4⟩ := h.row i c hci
      refine ⟨l1, by rw [List.getElem?_set_ne (by omega)]; exact h1, h2, h3, h4.chg hc (fun e => ?_)⟩
      have e' : c = b := e
      subst e'
      have := (List.getElem?_inj (List.getElem?_eq_some_iff.1 hci).1 h.nd).1 (hci.trans hbi.symm)
      exact hi this
theorem ptr (h : GrAt w lo g rb bs W L) : w.cell? ⟨g, 0, none⟩ = some (.pointer (some ⟨g, 0, none⟩)) := h.head.cell 0
theorem rws (h : GrAt w lo g rb bs W L) : w.cell? ⟨g, 1, none⟩ = some (.slice (some ⟨rb, 0, none⟩) L.length L.length) := h.head.cell 1
end GrAt

theorem ptr_info : (Tryd.prog.info? 62).isSome = true := by kernel_rfl
theorem run_eql_self (a : Addr) (w : World) : Sem.run Tryd.prog (binOp .eql 23 (.pointer (some a)) (.pointer (some a))) w = .ok (.bool true) w := by
  obtain ⟨j, hj⟩ := Option.isSome_iff_exists.1 ptr_info
  have h : ∀ d : Nat, (Op.equalIn (d + 1) 23 (.pointer (some a)) (.pointer (some a))).run Tryd.prog w = .ok true w := fun d => by
    simp [Op.equalIn, run_underlying Tryd.underlying23, sizeOf, typeInfo, hj, run_sameAddr_same]
  simp only [binOp]
  simp [Op.equal, Op.maxDepth, h 9999]

theorem run_eql_none (a : Addr) (w : World) : Sem.run Tryd.prog (binOp .eql 23 (.pointer none) (.pointer (some a))) w = .ok (.bool false) w := by
  have h : ∀ d : Nat, (Op.equalIn (d + 1) 23 (.pointer none) (.pointer (some a))).run Tryd.prog w = .ok false w := fun d => by
    simp [Op.equalIn, run_underlying Tryd.underlying23]
  simp only [binOp]
  simp [Op.equal, Op.maxDepth, h 9999]

set_option maxHeartbeats 400000 in
theorem made_yes (g : Nat) (w : World) (hp : w.cell? ⟨g, 0, none⟩ = some (.pointer (some ⟨g, 0, none⟩))) :
    Calls Tryd.prog 33 #[.pointer (some ⟨g, 0, none⟩)] w fun e w' => e = .returned (.bool true) ∧ w = w' := by
  have he := run_eql_self ⟨g, 0, none⟩
  go_enter Tryd.func33, Tryd.ntmps33
  go_wp2
  go_ret
  exact ⟨rfl, rfl⟩
set_option maxHeartbeats 400000 in
theorem made_nil (w : World) : Calls Tryd.prog 33 #[.pointer none] w fun e w' => e = .returned (.bool false) ∧ w = w' := by
  go_enter Tryd.func33, Tryd.ntmps33
  go_wp2
  go_ret
  exact ⟨rfl, rfl⟩
set_option maxHeartbeats 400000 in
theorem made_no (g : Nat) (w : World) (hp : w.cell? ⟨g, 0, none⟩ = some (.pointer none)) :
    Calls Tryd.prog 33 #[.pointer (some ⟨g, 0, none⟩)] w fun e w' => e = .returned (.bool false) ∧ w = w' := by
  have he := run_eql_none ⟨g, 0, none⟩
  go_enter Tryd.func33, Tryd.ntmps33
  go_wp2
  go_ret
  exact ⟨rfl, rfl⟩

set_option maxHeartbeats 400000 in
theorem size_any {w : World} {lo g rb W : Nat} {bs : List Nat} {L : List (List Cl)} (h : GrAt w lo g rb bs W L) :
    Calls Tryd.prog 23 #[.pointer (some ⟨g, 0, none⟩)] w fun e w' => e = .returned (.tuple #[.int .i64 W, .int .i64 L.length]) ∧ ∃ n, w' = w.drewN n := by
  obtain ⟨b, l, _, _, hr, _⟩ := h.at_ (i := 0) h.h1
  have hp := h.ptr
  have hs := h.rws
  have h1 := h.h1
  unfold rowV at hr
  clear h
  go_enter Tryd.func23, Tryd.ntmps23
  go_wp2_with (go_at_call 33; refine (made_yes g w hp).mono ?_; rintro e w' ⟨rfl, rfl⟩)
  go_quiet (fail)
  go_wp2
  go_ret2
  exact ⟨rfl, _, rfl⟩
/-- An invalid grid. -/
def GrNo (w : World) (p : Option Addr) : Prop := p = none ∨ ∃ g, p = some ⟨g, 0, none⟩ ∧ w.cell? ⟨g, 0, none⟩ = some (.pointer none)
theorem made_not {w : World} {p : Option Addr} (h : GrNo w p) : Calls Tryd.prog 33 #[.pointer p] w fun e w' => e = .returned (.bool false) ∧ w = w' := by
  rcases h with rfl | ⟨g, rfl, hp⟩
  · exact made_nil w
  · exact made_no g w hp
set_option maxHeartbeats 400000 in
theorem size_not {w : World} {p : Option Addr} (h : GrNo w p) :
    Calls Tryd.prog 23 #[.pointer p] w fun e w' => e = .returned (.tuple #[.int .i64 0, .int .i64 0]) ∧ w = w' := by
  have H := Lib.hid h
  clear h
  go_enter Tryd.func23, Tryd.ntmps23
  go_wp2_with (go_at_call 33; refine (made_not H.out).mono ?_; rintro e w' ⟨rfl, rfl⟩)
  go_ret2
  exact ⟨rfl, rfl⟩

/-- is there such a position? -/
def inB (row col : Int) (W H : Nat) : Bool := decide (0 ≤ row ∧ row < H ∧ 0 ≤ col ∧ col < W)
set_option maxHeartbeats 400000 in
theorem has_any {w : World} {lo g rb W : Nat} {bs : List Nat} {L : List (List Cl)} (h : GrAt w lo g rb bs W L) (row col : Int) :
    Calls Tryd.prog 35 #[.pointer (some ⟨g, 0, none⟩), .int .i64 row, .int .i64 col] w fun e w' => e = .returned (.bool (inB row col W L.length)) ∧ ∃ n, w' = w.drewN n := by
  have H := Lib.hid h
  clear h
  go_enter Tryd.func35, Tryd.ntmps35
  go_wp2_with (go_at_call 23; refine (size_any H.out).mono ?_; rintro e w' ⟨rfl, n, rfl⟩)
  all_goals
    go_ret
    exact ⟨ret_bool (by unfold inB; rw [Bool.eq_iff_iff]; simp; omega), _, rfl⟩
set_option maxHeartbeats 400000 in
theorem has_not {w : World} {p : Option Addr} (h : GrNo w p) (row col : Int) :
    Calls Tryd.prog 35 #[.pointer p, .int .i64 row, .int .i64 col] w fun e w' => e = .returned (.bool false) ∧ w = w' := by
  have H := Lib.hid h
  clear h
  go_enter Tryd.func35, Tryd.ntmps35
  go_wp2_with (go_at_call 23; refine (size_not H.out).mono ?_; rintro e w' ⟨rfl, rfl⟩)
  all_goals
    go_ret
    exact ⟨ret_bool (by simp; try omega), rfl⟩

theorem getD_eq {tmps : Array Value} {a : Nat} {v : Value} (h : tmps.getD a undef = v) : tmps[a]?.getD undef = v := by simpa using h
theorem below_drewN (w : World) (n : Nat) : Below w.heap.size w (w.drewN n) := (Chg.refl noB w).drewN n |>.none_below
theorem has_bel {w : World} {lo g rb W : Nat} {bs : List Nat} {L : List (List Cl)} (h : GrAt w lo g rb bs W L) (row col : Int) :
    Calls Tryd.prog 35 #[.pointer (some ⟨g, 0, none⟩), .int .i64 row, .int .i64 col] w fun e w' => e = .returned (.bool (inB row col W L.length)) ∧ Below w.heap.size w w' :=
  (has_any h row col).mono fun e w' ⟨he, n, hn⟩ => ⟨he, hn ▸ below_drewN w n⟩
/-- A struct that a function hands back beside a value. -/
theorem results_ct {fn : Func} {tmps : Array Value} {a t b : Nat} {ad : Nat} {cs : List Value} {v : Value} {w : World} {d : TypeDesc} (hf : fn.results = #[.cell a t, .tmp b]) (ha : tmps.getD a undef = .pointer (some ⟨ad, 0, none⟩)) (hb : tmps.getD b undef = v)
    (hc : w.rangeAt ad 0 cs) (hu : Tryd.prog.underlying t = some d) (hd : d.isRow = true) (hi : (Tryd.prog.info? t).map (·.size) = some cs.length) : (results fn tmps).run Tryd.prog w = .ok (.tuple #[.agg cs.toArray, v]) w := by
  have hl := run_loadVar_mid (P := Tryd.prog) w ad 0 t cs d hc hu hd hi
  have ha' := getD_eq ha
  have hb' := getD_eq hb
  unfold results
  simp [hf, ha', hb', asAddr, hl]
/-- A struct that a function hands back. -/
theorem results_c {fn : Func} {tmps : Array Value} {a t : Nat} {ad : Nat} {cs : List Value} {w : World} {d : TypeDesc} (hf : fn.results = #[.cell a t]) (ha : tmps.getD a undef = .pointer (some ⟨ad, 0, none⟩))
    (hc : w.rangeAt ad 0 cs) (hu : Tryd.prog.underlying t = some d) (hd : d.isRow = true) (hi : (Tryd.prog.info? t).map (·.size) = some cs.length) : (results fn tmps).run Tryd.prog w = .ok (.agg cs.toArray) w := by
  have hl := run_loadVar_mid (P := Tryd.prog) w ad 0 t cs d hc hu hd hi
  have ha' := getD_eq ha
  unfold results
  simp [hf, ha', asAddr, hl]
/-- A struct that a function hands back beside two values. -/
theorem results_ctt {fn : Func} {tmps : Array Value} {a t b c : Nat} {ad : Nat} {cs : List Value} {v u : Value} {w : World} {d : TypeDesc} (hf : fn.results = #[.cell a t, .tmp b, .tmp c]) (ha : tmps.getD a undef = .pointer (some ⟨ad, 0, none⟩)) (hb : tmps.getD b undef = v) (hc' : tmps.getD c undef = u)
    (hc : w.rangeAt ad 0 cs) (hu : Tryd.prog.underlying t = some d) (hd : d.isRow = true) (hi : (Tryd.prog.info? t).map (·.size) = some cs.length) : (results fn tmps).run Tryd.prog w = .ok (.tuple #[.agg cs.toArray, v, u]) w := by
  have hl := run_loadVar_mid (P := Tryd.prog) w ad 0 t cs d hc hu hd hi
  have ha' := getD_eq ha
  have hb' := getD_eq hb
  have hc'' := getD_eq hc'
  unfold results
  simp [hf, ha', hb', hc'', asAddr, hl]

/-- what Cell comes to -/
def cellB (L : List (List Cl)) (row col : Int) : Cl × Bool := if 0 ≤ row ∧ 0 ≤ col then (match L[row.toNat]? with | none => (czero, false) | some l => match l[col.toNat]? with | none => (czero, false) | some c => (c, true)) else (czero, false)
theorem Cl.range (c : Cl) {w : World} {b : Nat} {l : List Cl} {k : Nat} {t : TypeId} (hb : Blk w b t (rc l)) (hk : l[k]? = some c) : w.rangeAt b (k * 7) c.cells := hb.range _ _ fun j v hv => rc_get hk hv

set_option maxRecDepth 100000 in
set_option maxHeartbeats 1000000 in
theorem cell_yes {w : World} {lo g rb W : Nat} {bs : List Nat} {L : List (List Cl)} (h : GrAt w lo g rb bs W L) (row col : Nat) (hr : row < L.length) (hc : col < W) (l : List Cl) (c : Cl) (hl : L[row]? = some l) (hcl : l[col]? = some c) :
    Calls Tryd.prog 20 #[.pointer (some ⟨g, 0, none⟩), .int .i64 row, .int .i64 col] w fun e w' => e = .returned (.tuple #[.agg c.cells.toArray, .bool true]) ∧ Below w.heap.size w w' := by
  have hw5 := h.w5
  have hh5 := h.h5
  have H := Lib.hid h
  have hin : inB row col W L.length = true := by unfold inB; simp; omega
  have HIN := Lib.hid hin
  have hri : (row : Int) < L.length := by omega
  have hci : (col : Int) < W := by omega
  have HL := Lib.hid hl
  have HC := Lib.hid hcl
  clear h hin hl hcl
  go_enter Tryd.func20, Tryd.ntmps20
  go_wp2_with (first
    | (go_at_call 35; refine (has_bel (H.out.below ((Below.refl _ _).alloc (Nat.le_refl _) _)) row col).mono ?_; rintro e w1 ⟨rfl, hb1⟩; rw [HIN.out]; have H1 := Lib.hid ((H.out.below ((Below.refl _ _).alloc (Nat.le_refl _) _)).below hb1); obtain ⟨b, l', hbi, hl', hrv, hlen, hwf, hb⟩ := H1.out.at_ hr; obtain rfl : l' = l := (by have := HL.out; rw [this] at hl'; injection hl' with hl'; exact hl'.symm); have hs := H1.out.rws; have HB := Lib.hid hb; unfold rowV at hrv; have HN := Lib.hid ((Blk.new w 51 czero.cells).below hb1 (by simp)); clear hl' hlen hwf hbi hb)
    | ((with_reducible refine at_dst 23 ?_); refine wpList_load_mid rfl _ _ rfl b (col * 7) rfl c.cells _ (c.range HB.out HC.out) Tryd.underlying51 rfl cl_size ?_)
    | ((with_reducible refine at_store 6 ?_); refine wpList_store_blk rfl _ _ _ rfl rfl w.heap.size 0 _ czero.cells c.cells rfl rfl HN.out (by simp [Cl.len]) cl_size c.one ?_; intro w2 hn2 hg2))
  have hc2 : Blk w2 w.heap.size 51 c.cells := hn2
  refine bodyPost_ret (results_ct rfl rfl rfl (hc2.range 0 c.cells (fun j v hv => by simpa using hv)) Tryd.underlying51 rfl cl_size) rfl ⟨rfl, ?_⟩
  exact (((Below.refl _ _).alloc (Nat.le_refl _) _).trans (hb1.mono (by simp))).grown hg2 (by have := hb1.size; simp at this; omega) (fun k hk => by injection hk with hk; omega)
set_option maxHeartbeats 1000000 in
theorem cell_no {w : World} {p : Option Addr} (row col : Int) (hh : ∀ w', Below w.heap.size w w' → Calls Tryd.prog 35 #[.pointer p, .int .i64 row, .int .i64 col] w' fun e w'' => e = .returned (.bool false) ∧ Below w'.heap.size w' w'') :
    Calls Tryd.prog 20 #[.pointer p, .int .i64 row, .int .i64 col] w fun e w' => e = .returned (.tuple #[.agg czero.cells.toArray, .bool false]) ∧ Below w.heap.size w w' := by
  have HH := Lib.hid hh
  clear hh
  go_enter Tryd.func20, Tryd.ntmps20
  go_wp2_with (first
    | (go_at_call 35; refine (HH.out _ ((Below.refl _ _).alloc (Nat.le_refl _) _)).mono ?_; rintro e w1 ⟨rfl, hb1⟩; have HN := Lib.hid ((Blk.new w 51 czero.cells).below hb1 (by simp)))
    | ((with_reducible refine at_store 6 ?_); refine wpList_store_blk rfl _ _ _ rfl rfl w.heap.size 0 _ czero.cells czero.cells rfl rfl HN.out (by simp [Cl.len]) cl_size czero.one ?_; intro w2 hn2 hg2))
  have hc2 : Blk w2 w.heap.size 51 czero.cells := hn2
  refine bodyPost_ret (results_ct rfl rfl rfl (hc2.range 0 czero.cells (fun j v hv => by simpa using hv)) Tryd.underlying51 rfl cl_size) rfl ⟨rfl, ?_⟩
  exact (((Below.refl _ _).alloc (Nat.le_refl _) _).trans (hb1.mono (by simp))).grown hg2 (by have := hb1.size; simp at this; omega) (fun k hk => by injection hk with hk; omega)

theorem GrNo.below {w w' : World} {p : Option Addr} (h : GrNo w p) (hb : Below w.heap.size w w') : GrNo w' p := by
  rcases h with h | ⟨g, h1, h2⟩
  · exact .inl h
  · exact .inr ⟨g, h1, (hb.cell (p := ⟨g, 0, none⟩) (World.block_lt_of_cell? w _ h2)).trans h2⟩
theorem cell_not {w : World} {p : Option Addr} (h : GrNo w p) (row col : Int) :
    Calls Tryd.prog 20 #[.pointer p, .int .i64 row, .int .i64 col] w fun e w' => e = .returned (.tuple #[.agg czero.cells.toArray, .bool false]) ∧ Below w.heap.size w w' :=
  cell_no row col fun w' hb => (has_not (h.below hb) row col).mono fun e w'' ⟨he, hw⟩ => ⟨he, hw ▸ Below.refl _ _⟩
theorem GrAt.some_at {w : World} {lo g rb W : Nat} {bs : List Nat} {L : List (List Cl)} (h : GrAt w lo g rb bs W L) {row : Nat} {l : List Cl} (hl : L[row]? = some l) : l.length = W ∧ Wf l := by
  have hr : row < L.length := (List.getElem?_eq_some_iff.1 hl).1
  obtain ⟨b, l', _, h1, _, h2, h3, _⟩ := h.at_ hr
  rw [hl] at h1
  injection h1 with h1
  subst h1
  exact ⟨h2, h3⟩
theorem cell_any {w : World} {lo g rb W : Nat} {bs : List Nat} {L : List (List Cl)} (h : GrAt w lo g rb bs W L) (row col : Int) :
    Calls Tryd.prog 20 #[.pointer (some ⟨g, 0, none⟩), .int .i64 row, .int .i64 col] w fun e w' => e = .returned (.tuple #[.agg (cellB L row col).1.cells.toArray, .bool (cellB L row col).2]) ∧ Below w.heap.size w w' := by
  by_cases hin : inB row col W L.length = true
  · obtain ⟨h0, h1, h2, h3⟩ : 0 ≤ row ∧ row < L.length ∧ 0 ≤ col ∧ col < W := by simpa [inB] using hin
    obtain ⟨r, rfl⟩ := Int.eq_ofNat_of_zero_le h0
    obtain ⟨c, rfl⟩ := Int.eq_ofNat_of_zero_le h2
    have hl : L[r]? = some (L[r]'(by omega)) := List.getElem?_eq_getElem (by omega)
    obtain ⟨hlen, _⟩ := h.some_at hl
    have hc : (L[r]'(by omega))[c]? = some ((L[r]'(by omega))[c]'(by omega)) := List.getElem?_eq_getElem (by omega)
    have e : cellB L r c = ((L[r]'(by omega))[c]'(by omega), true) := by
      unfold cellB
      rw [if_pos ⟨h0, h2⟩, Int.toNat_natCast, Int.toNat_natCast, hl]
      simp only
      rw [hc]
    rw [e]
    exact cell_yes h r c (by omega) (by omega) _ _ hl hc
  · have hin' : inB row col W L.length = false := by simpa using hin
    have e : cellB L row col = (czero, false) := by
      unfold cellB
      split
      · next h02 =>
        split
        · rfl
        · next l hl =>
          have hlen := (h.some_at hl).1
          have hr : row.toNat < L.length := (List.getElem?_eq_some_iff.1 hl).1
          split
          · rfl
          · next c hc =>
            have hcl : col.toNat < l.length := (List.getElem?_eq_some_iff.1 hc).1
            exfalso
            apply hin
            simp [inB]
            omega
      · rfl
    rw [e]
    exact cell_no row col fun w' hb => (has_bel (h.below hb) row col).mono fun e w'' ⟨he, hw⟩ => ⟨by rw [← hin']; exact he, hw⟩

/-- The program's own blank lies where the program's text lays it. -/
def BlankT (w : World) : Prop := w.rangeAt 0 0 bl.cells ∧ 0 < w.heap.size
theorem BlankT.chg {S : Nat → Prop} {w w' : World} (h : BlankT w) (hc : Chg S w w') (hn : ¬ S 0) : BlankT w' :=
  ⟨fun j v hv => hc.cell (p := ⟨0, 0 + j, none⟩) (h.1 j v hv) hn, Nat.lt_of_lt_of_le h.2 hc.size⟩
theorem BlankT.below {B : Nat} {w w' : World} (h : BlankT w) (hb : Below B w w') (hB : 0 < B) : BlankT w' :=
  ⟨fun j v hv => (hb.cell (p := ⟨0, 0 + j, none⟩) hB).trans (h.1 j v hv), Nat.lt_of_lt_of_le h.2 hb.size⟩
theorem BlankT.bel {w w' : World} (h : BlankT w) (hb : Below w.heap.size w w') : BlankT w' := h.below hb h.2
theorem BlankT.grown {w w' : World} {b : Nat} (h : BlankT w) (hg : w.grownBy w' (some b)) (hb : b ≠ 0) : BlankT w' :=
  h.chg ((Chg.refl (one b) w).grown hg (fun k hk => .inl (by injection hk with hk; exact hk.symm))) (fun e => hb e.symm)
end Go.Proofs.YtijbimofigkdkaaDoor
