/-
  Walks: the state's accessors, of a terminal and of none.
-/
import Derived.Test.YtfmkeeaenjeneaaGreatDoorGbT2
import Derived.Test.YtfmkeeaenjeneaaGreatDoorGfG
import Derived.Test.YtfmkeeaenjeneaaGreatDoorGfW
namespace Go.Proofs.YtfmkeeaenjeneaaGreatDoor
open Go.RowKit
set_option linter.unusedVariables false
set_option linter.unusedSimpArgs false

section
variable {w : World} {lo t g rb : Nat} {bs : List Nat} {T : TS} {B : List UInt8} {p : Option Addr}
theorem tm_bool (a0 a1 a5 a6 a10 a11 a12 a13 : Value) (a2 a3 a4 a7 a8 a9 a14 : Value) (w : World) :
    Sem.run Tryz.prog (Instr.field 58 (.agg #[a0, a1, a2, a3, a4, a5, a6, a7, a8, a9, a10, a11, a12, a13, a14]) 2) w = .ok a7 w ∧
    Sem.run Tryz.prog (Instr.field 58 (.agg #[a0, a1, a2, a3, a4, a5, a6, a7, a8, a9, a10, a11, a12, a13, a14]) 3) w = .ok a8 w ∧
    Sem.run Tryz.prog (Instr.field 58 (.agg #[a0, a1, a2, a3, a4, a5, a6, a7, a8, a9, a10, a11, a12, a13, a14]) 4) w = .ok a9 w ∧
    Sem.run Tryz.prog (Instr.field 58 (.agg #[a0, a1, a2, a3, a4, a5, a6, a7, a8, a9, a10, a11, a12, a13, a14]) 5) w = .ok a10 w ∧
    Sem.run Tryz.prog (Instr.field 58 (.agg #[a0, a1, a2, a3, a4, a5, a6, a7, a8, a9, a10, a11, a12, a13, a14]) 6) w = .ok a11 w ∧
    Sem.run Tryz.prog (Instr.field 58 (.agg #[a0, a1, a2, a3, a4, a5, a6, a7, a8, a9, a10, a11, a12, a13, a14]) 1) w = .ok (.agg #[a2, a3, a4, a5, a6]) w := by
  refine ⟨?_, ?_, ?_, ?_, ?_, ?_⟩ <;> kernel_rfl

set_option maxRecDepth 100000 in
set_option maxHeartbeats 1000000 in
theorem now_not (h : TmNo w p) :
    Calls Tryz.prog 31 #[.pointer p] w fun e w' => e = .returned (.agg szero.toArray) ∧ Below w.heap.size w w' := by
  have H := Lib.hid h
  obtain ⟨W0, hW0⟩ : ∃ W, W = w.alloc (.cells #[.int .i64 0, .int .i64 0, .bool false, .bool false, .bool false, .int .i64 0, .int .i64 0, .bool false, .bool false, .bool false, .int .i64 0, .int .i64 0, .int .i64 0, .int .i64 0, .bool false] 58) := ⟨_, rfl⟩
  have HN : Hid (Blk W0 w.heap.size 58 szero) := Lib.hid (by rw [hW0]; exact Blk.new w 58 szero)
  have HB0 : Hid (Below w.heap.size w W0) := Lib.hid (by rw [hW0]; exact (Below.refl w.heap.size w).alloc (Nat.le_refl _) _)
  have HS0 : Hid (W0.heap.size = w.heap.size + 1) := Lib.hid (by rw [hW0]; simp)
  have HNO : Hid (TmNo W0 p) := Lib.hid (by
    rcases H.out with e | ⟨t, e, hc⟩
    · exact .inl e
    · exact .inr ⟨t, e, (HB0.out.cell (p := ⟨t, 0, none⟩) (World.block_lt_of_cell? _ _ hc)).trans hc⟩)
  have HW0 := Lib.hid hW0
  clear h hW0
  have hz : ∀ v ∈ szero, v.oneCell' = true := st_one ⟨0, [], 0, 0, Sty.zero, false, false, false, 0, 0, 0, 0, false⟩
  have HZ := Lib.hid hz
  clear hz
  go_enter Tryz.func31, Tryz.ntmps31
  go_upto_region 1 with fail
  rw [← HW0.out]
  clear HW0
  go_wp2_with (first
    | (go_at_call 24; refine (tmade_not HNO.out).mono ?_; rintro e w' ⟨rfl, rfl⟩)
    | ((with_reducible refine at_store 2 ?_); refine wpList_store_blk rfl _ _ _ rfl rfl w.heap.size 0 _ szero szero rfl rfl HN.out (by simp [szero]) st_size HZ.out ?_; intro w9 hn9 hg9))
  have hw : w9.rangeAt w.heap.size 0 szero := by
    have h9 : Blk w9 w.heap.size 58 szero := hn9
    exact h9.range 0 szero (fun j v hv => by simpa using hv)
  exact bodyPost_ret (results_c rfl rfl hw Tryz.underlying58 rfl st_size) rfl ⟨rfl, HB0.out.grown hg9 (by have := HS0.out; omega) (fun j hj => by injection hj with hj; omega)⟩

set_option maxHeartbeats 400000 in
theorem tpending_yes (h : TmAt w lo t g rb bs T B) : Calls Tryz.prog 17 #[.pointer (some ⟨t, 0, none⟩)] w fun e w' => e = .returned (.bool T.pend) ∧ Below w.heap.size w w' := by
  have HN := Lib.hid (now_yes h)
  have hfl := fun w => (tm_bool (.int .i64 T.row) (.int .i64 T.col) (.int .i64 T.y.f) (.int .i64 T.y.g) (.int .i64 T.scr) (.int .i64 T.bells) (.int .i64 T.lr) (.int .i64 T.lc) (.bool T.y.b) (.bool T.y.u) (.bool T.y.i) (.bool T.pend) (.bool T.seen) (.bool T.mark) (.bool T.joins) w).1
  unfold stc at HN
  clear h
  go_enter Tryz.func17, Tryz.ntmps17
  go_wp2_with (go_at_call 31; refine HN.out.mono ?_; rintro e w1 ⟨rfl, hb1⟩)
  go_ret
  exact ⟨rfl, hb1⟩

set_option maxHeartbeats 400000 in
theorem tpending_not (h : TmNo w p) : Calls Tryz.prog 17 #[.pointer p] w fun e w' => e = .returned (.bool false) ∧ Below w.heap.size w w' := by
  have HN := Lib.hid (now_not h)
  have hfl := fun w => (tm_bool (.int .i64 0) (.int .i64 0) (.int .i64 0) (.int .i64 0) (.int .i64 0) (.int .i64 0) (.int .i64 0) (.int .i64 0) (.bool false) (.bool false) (.bool false) (.bool false) (.bool false) (.bool false) (.bool false) w).1
  unfold szero at HN
  clear h
  go_enter Tryz.func17, Tryz.ntmps17
  go_wp2_with (go_at_call 31; refine HN.out.mono ?_; rintro e w1 ⟨rfl, hb1⟩)
  go_ret
  exact ⟨rfl, hb1⟩

set_option maxHeartbeats 400000 in
theorem tseen_yes (h : TmAt w lo t g rb bs T B) : Calls Tryz.prog 23 #[.pointer (some ⟨t, 0, none⟩)] w fun e w' => e = .returned (.bool T.seen) ∧ Below w.heap.size w w' := by
  have HN := Lib.hid (now_yes h)
  have hfl := fun w => (tm_bool (.int .i64 T.row) (.int .i64 T.col) (.int .i64 T.y.f) (.int .i64 T.y.g) (.int .i64 T.scr) (.int .i64 T.bells) (.int .i64 T.lr) (.int .i64 T.lc) (.bool T.y.b) (.bool T.y.u) (.bool T.y.i) (.bool T.pend) (.bool T.seen) (.bool T.mark) (.bool T.joins) w).2.1
  unfold stc at HN
  clear h
  go_enter Tryz.func23, Tryz.ntmps23
  go_wp2_with (go_at_call 31; refine HN.out.mono ?_; rintro e w1 ⟨rfl, hb1⟩)
  go_ret
  exact ⟨rfl, hb1⟩

set_option maxHeartbeats 400000 in
theorem tseen_not (h : TmNo w p) : Calls Tryz.prog 23 #[.pointer p] w fun e w' => e = .returned (.bool false) ∧ Below w.heap.size w w' := by
  have HN := Lib.hid (now_not h)
  have hfl := fun w => (tm_bool (.int .i64 0) (.int .i64 0) (.int .i64 0) (.int .i64 0) (.int .i64 0) (.int .i64 0) (.int .i64 0) (.int .i64 0) (.bool false) (.bool false) (.bool false) (.bool false) (.bool false) (.bool false) (.bool false) w).2.1
  unfold szero at HN
  clear h
  go_enter Tryz.func23, Tryz.ntmps23
  go_wp2_with (go_at_call 31; refine HN.out.mono ?_; rintro e w1 ⟨rfl, hb1⟩)
  go_ret
  exact ⟨rfl, hb1⟩

set_option maxHeartbeats 400000 in
theorem tmarked_yes (h : TmAt w lo t g rb bs T B) : Calls Tryz.prog 35 #[.pointer (some ⟨t, 0, none⟩)] w fun e w' => e = .returned (.bool T.mark) ∧ Below w.heap.size w w' := by
  have HN := Lib.hid (now_yes h)
  have hfl := fun w => (tm_bool (.int .i64 T.row) (.int .i64 T.col) (.int .i64 T.y.f) (.int .i64 T.y.g) (.int .i64 T.scr) (.int .i64 T.bells) (.int .i64 T.lr) (.int .i64 T.lc) (.bool T.y.b) (.bool T.y.u) (.bool T.y.i) (.bool T.pend) (.bool T.seen) (.bool T.mark) (.bool T.joins) w).2.2.1
  unfold stc at HN
  clear h
  go_enter Tryz.func35, Tryz.ntmps35
  go_wp2_with (go_at_call 31; refine HN.out.mono ?_; rintro e w1 ⟨rfl, hb1⟩)
  go_ret
  exact ⟨rfl, hb1⟩

set_option maxHeartbeats 400000 in
theorem tmarked_not (h : TmNo w p) : Calls Tryz.prog 35 #[.pointer p] w fun e w' => e = .returned (.bool false) ∧ Below w.heap.size w w' := by
  have HN := Lib.hid (now_not h)
  have hfl := fun w => (tm_bool (.int .i64 0) (.int .i64 0) (.int .i64 0) (.int .i64 0) (.int .i64 0) (.int .i64 0) (.int .i64 0) (.int .i64 0) (.bool false) (.bool false) (.bool false) (.bool false) (.bool false) (.bool false) (.bool false) w).2.2.1
  unfold szero at HN
  clear h
  go_enter Tryz.func35, Tryz.ntmps35
  go_wp2_with (go_at_call 31; refine HN.out.mono ?_; rintro e w1 ⟨rfl, hb1⟩)
  go_ret
  exact ⟨rfl, hb1⟩

set_option maxHeartbeats 400000 in
theorem tscrolled_yes (h : TmAt w lo t g rb bs T B) : Calls Tryz.prog 36 #[.pointer (some ⟨t, 0, none⟩)] w fun e w' => e = .returned (.int .i64 T.scr) ∧ Below w.heap.size w w' := by
  have HN := Lib.hid (now_yes h)
  have hfl := fun w => (tm_bool (.int .i64 T.row) (.int .i64 T.col) (.int .i64 T.y.f) (.int .i64 T.y.g) (.int .i64 T.scr) (.int .i64 T.bells) (.int .i64 T.lr) (.int .i64 T.lc) (.bool T.y.b) (.bool T.y.u) (.bool T.y.i) (.bool T.pend) (.bool T.seen) (.bool T.mark) (.bool T.joins) w).2.2.2.1
  unfold stc at HN
  clear h
  go_enter Tryz.func36, Tryz.ntmps36
  go_wp2_with (go_at_call 31; refine HN.out.mono ?_; rintro e w1 ⟨rfl, hb1⟩)
  go_ret
  exact ⟨rfl, hb1⟩

set_option maxHeartbeats 400000 in
theorem tscrolled_not (h : TmNo w p) : Calls Tryz.prog 36 #[.pointer p] w fun e w' => e = .returned (.int .i64 0) ∧ Below w.heap.size w w' := by
  have HN := Lib.hid (now_not h)
  have hfl := fun w => (tm_bool (.int .i64 0) (.int .i64 0) (.int .i64 0) (.int .i64 0) (.int .i64 0) (.int .i64 0) (.int .i64 0) (.int .i64 0) (.bool false) (.bool false) (.bool false) (.bool false) (.bool false) (.bool false) (.bool false) w).2.2.2.1
  unfold szero at HN
  clear h
  go_enter Tryz.func36, Tryz.ntmps36
  go_wp2_with (go_at_call 31; refine HN.out.mono ?_; rintro e w1 ⟨rfl, hb1⟩)
  go_ret
  exact ⟨rfl, hb1⟩

set_option maxHeartbeats 400000 in
theorem tbells_yes (h : TmAt w lo t g rb bs T B) : Calls Tryz.prog 22 #[.pointer (some ⟨t, 0, none⟩)] w fun e w' => e = .returned (.int .i64 T.bells) ∧ Below w.heap.size w w' := by
  have HN := Lib.hid (now_yes h)
  have hfl := fun w => (tm_bool (.int .i64 T.row) (.int .i64 T.col) (.int .i64 T.y.f) (.int .i64 T.y.g) (.int .i64 T.scr) (.int .i64 T.bells) (.int .i64 T.lr) (.int .i64 T.lc) (.bool T.y.b) (.bool T.y.u) (.bool T.y.i) (.bool T.pend) (.bool T.seen) (.bool T.mark) (.bool T.joins) w).2.2.2.2.1
  unfold stc at HN
  clear h
  go_enter Tryz.func22, Tryz.ntmps22
  go_wp2_with (go_at_call 31; refine HN.out.mono ?_; rintro e w1 ⟨rfl, hb1⟩)
  go_ret
  exact ⟨rfl, hb1⟩

set_option maxHeartbeats 400000 in
theorem tbells_not (h : TmNo w p) : Calls Tryz.prog 22 #[.pointer p] w fun e w' => e = .returned (.int .i64 0) ∧ Below w.heap.size w w' := by
  have HN := Lib.hid (now_not h)
  have hfl := fun w => (tm_bool (.int .i64 0) (.int .i64 0) (.int .i64 0) (.int .i64 0) (.int .i64 0) (.int .i64 0) (.int .i64 0) (.int .i64 0) (.bool false) (.bool false) (.bool false) (.bool false) (.bool false) (.bool false) (.bool false) w).2.2.2.2.1
  unfold szero at HN
  clear h
  go_enter Tryz.func22, Tryz.ntmps22
  go_wp2_with (go_at_call 31; refine HN.out.mono ?_; rintro e w1 ⟨rfl, hb1⟩)
  go_ret
  exact ⟨rfl, hb1⟩

set_option maxHeartbeats 400000 in
theorem tstyle_yes (h : TmAt w lo t g rb bs T B) : Calls Tryz.prog 34 #[.pointer (some ⟨t, 0, none⟩)] w fun e w' => e = .returned (.agg T.y.cells.toArray) ∧ Below w.heap.size w w' := by
  obtain ⟨W0, hW0⟩ : ∃ W, W = w.alloc (.cells #[.bool false, .bool false, .bool false, .int .i64 0, .int .i64 0] 31) := ⟨_, rfl⟩
  have HZ : Hid (Blk W0 w.heap.size 31 Sty.zero.cells) := Lib.hid (by rw [hW0]; exact Blk.new w 31 Sty.zero.cells)
  have HB0 : Hid (Below w.heap.size w W0) := Lib.hid (by rw [hW0]; exact (Below.refl w.heap.size w).alloc (Nat.le_refl _) _)
  have h0 : TmAt W0 lo t g rb bs T B := by
    exact h.below HB0.out
  have HW0 := Lib.hid hW0
  have HN := Lib.hid (now_yes h0)
  have hfl := fun w => (tm_bool (.int .i64 T.row) (.int .i64 T.col) (.int .i64 T.y.f) (.int .i64 T.y.g) (.int .i64 T.scr) (.int .i64 T.bells) (.int .i64 T.lr) (.int .i64 T.lc) (.bool T.y.b) (.bool T.y.u) (.bool T.y.i) (.bool T.pend) (.bool T.seen) (.bool T.mark) (.bool T.joins) w).2.2.2.2.2
  unfold stc at HN
  clear h h0 hW0
  go_enter Tryz.func34, Tryz.ntmps34
  go_upto_region 1 with fail
  rw [← HW0.out]
  clear HW0
  go_wp2_with (first
    | (go_at_call 31; refine HN.out.mono ?_; rintro e w1 ⟨rfl, hb1⟩; have HB1 := Lib.hid (HB0.out.trans (hb1.mono HB0.out.size)); have HZ1 := Lib.hid (HZ.out.below hb1 HZ.out.lt); clear hb1)
    | ((with_reducible refine at_store 2 ?_); refine wpList_store_blk rfl _ _ _ rfl rfl w.heap.size 0 _ Sty.zero.cells T.y.cells rfl rfl HZ1.out (by simp [tsty_len]) tsty_size (tsty_one _) ?_; intro w9 hn9 hg9))
  exact bodyPost_ret (results_c rfl rfl (tswhole hn9) Tryz.underlying31 rfl tsty_size) rfl ⟨rfl, HB1.out.grown hg9 HB1.out.size (fun j hj => by injection hj with hj; omega)⟩

set_option maxHeartbeats 400000 in
theorem tstyle_not (h : TmNo w p) : Calls Tryz.prog 34 #[.pointer p] w fun e w' => e = .returned (.agg Sty.zero.cells.toArray) ∧ Below w.heap.size w w' := by
  obtain ⟨W0, hW0⟩ : ∃ W, W = w.alloc (.cells #[.bool false, .bool false, .bool false, .int .i64 0, .int .i64 0] 31) := ⟨_, rfl⟩
  have HZ : Hid (Blk W0 w.heap.size 31 Sty.zero.cells) := Lib.hid (by rw [hW0]; exact Blk.new w 31 Sty.zero.cells)
  have HB0 : Hid (Below w.heap.size w W0) := Lib.hid (by rw [hW0]; exact (Below.refl w.heap.size w).alloc (Nat.le_refl _) _)
  have h0 : TmNo W0 p := by
    rcases h with e | ⟨t, e, hc⟩
    · exact .inl e
    · exact .inr ⟨t, e, (HB0.out.cell (p := ⟨t, 0, none⟩) (World.block_lt_of_cell? _ _ hc)).trans hc⟩
  have HW0 := Lib.hid hW0
  have HN := Lib.hid (now_not h0)
  have hfl := fun w => (tm_bool (.int .i64 0) (.int .i64 0) (.int .i64 0) (.int .i64 0) (.int .i64 0) (.int .i64 0) (.int .i64 0) (.int .i64 0) (.bool false) (.bool false) (.bool false) (.bool false) (.bool false) (.bool false) (.bool false) w).2.2.2.2.2
  unfold szero at HN
  clear h h0 hW0
  go_enter Tryz.func34, Tryz.ntmps34
  go_upto_region 1 with fail
  rw [← HW0.out]
  clear HW0
  go_wp2_with (first
    | (go_at_call 31; refine HN.out.mono ?_; rintro e w1 ⟨rfl, hb1⟩; have HB1 := Lib.hid (HB0.out.trans (hb1.mono HB0.out.size)); have HZ1 := Lib.hid (HZ.out.below hb1 HZ.out.lt); clear hb1)
    | ((with_reducible refine at_store 2 ?_); refine wpList_store_blk rfl _ _ _ rfl rfl w.heap.size 0 _ Sty.zero.cells Sty.zero.cells rfl rfl HZ1.out (by simp [tsty_len]) tsty_size (tsty_one _) ?_; intro w9 hn9 hg9))
  exact bodyPost_ret (results_c rfl rfl (tswhole hn9) Tryz.underlying31 rfl tsty_size) rfl ⟨rfl, HB1.out.grown hg9 HB1.out.size (fun j hj => by injection hj with hj; omega)⟩

set_option maxRecDepth 100000 in
set_option maxHeartbeats 1000000 in
theorem held_any (h : TmAt w lo t g rb bs T B) : Calls Tryz.prog 43 #[.pointer (some ⟨t, 17, none⟩)] w fun e w' => e = .returned (.int .i64 B.length) ∧ w = w' := by
  obtain ⟨xs, h1, h2, h3⟩ := h.blk
  have c49 : w.cell? ⟨t, 49, none⟩ = some (.int .i64 B.length) := (h3.cell 49).trans (by
    rw [show tmc t g T xs B.length = (.pointer (some ⟨t, 0, none⟩) :: .pointer (some ⟨g, 0, none⟩) :: stc T) ++ (xs ++ [.int .i64 B.length]) from rfl, List.getElem?_append_right (by simp [stc]), List.getElem?_append_right (by simp [stc]; omega)]
    simp [stc, h1])
  clear h h1 h2 h3
  go_enter Tryz.func43, Tryz.ntmps43
  go_wp2
  go_ret
  exact ⟨rfl, rfl⟩
set_option maxHeartbeats 400000 in
theorem twaits_yes (h : TmAt w lo t g rb bs T B) : Calls Tryz.prog 18 #[.pointer (some ⟨t, 0, none⟩)] w fun e w' => e = .returned (.int .i64 B.length) ∧ w = w' := by
  have c0 := h.cell 0 (by omega)
  simp only [tmc, List.getElem?_cons_zero] at c0
  have HH := Lib.hid (held_any h)
  clear h
  go_enter Tryz.func18, Tryz.ntmps18
  go_wp2_with (first
    | (go_at_call 24; refine (tmade_yes t w c0).mono ?_; rintro e w' ⟨rfl, rfl⟩)
    | (go_at_call 43; refine HH.out.mono ?_; rintro e w' ⟨rfl, rfl⟩))
  go_ret
  exact ⟨rfl, rfl⟩
set_option maxHeartbeats 400000 in
theorem twaits_not (h : TmNo w p) : Calls Tryz.prog 18 #[.pointer p] w fun e w' => e = .returned (.int .i64 0) ∧ w = w' := by
  have H := Lib.hid h
  clear h
  go_enter Tryz.func18, Tryz.ntmps18
  go_wp2_with (go_at_call 24; refine (tmade_not H.out).mono ?_; rintro e w' ⟨rfl, rfl⟩)
  go_ret
  exact ⟨rfl, rfl⟩
set_option maxHeartbeats 1000000 in
theorem tcursor_not (h : TmNo w p) : Calls Tryz.prog 14 #[.pointer p] w fun e w' => e = .returned (.tuple #[.int .i64 0, .int .i64 0]) ∧ Below w.heap.size w w' := by
  have HN := Lib.hid (now_not h)
  clear h
  unfold szero at HN
  have hfl := field_pl (.int .i64 0) (.int .i64 0) (.bool false) (.bool false) (.bool false) (.int .i64 0) (.int .i64 0) (.bool false) (.bool false) (.bool false) (.int .i64 0) (.int .i64 0) (.int .i64 0) (.int .i64 0) (.bool false)
  go_enter Tryz.func14, Tryz.ntmps14
  go_wp2_with (go_at_call 31; refine HN.out.mono ?_; rintro e w1 ⟨rfl, hb1⟩; have HB1 := Lib.hid hb1; clear hb1)
  go_quiet (fail)
  go_wp2
  go_ret2
  have hx := HB1.out.alloc HB1.out.size (.cells #[.int .i64 0, .int .i64 0] 56)
  exact ⟨rfl, hx.trans ((below_drewN _ nq).mono hx.size)⟩
end
end Go.Proofs.YtfmkeeaenjeneaaGreatDoor
