/-
  Walks: change of a state: erasing, swapping, any other act.
-/
import Derived.Test.YtfhfhjcdeeepbaaGreatDoorEdMv
namespace Go.Proofs.YtfhfhjcdeeepbaaGreatDoor
open Go.RowKit Go.Sort
set_option linter.unusedVariables false
set_option linter.unusedSimpArgs false

/-- some clusters gone -/
def EdM.erased (m : EdM) (a b : Nat) : EdM := { m with p := (delL (m.p ++ m.s) a b).take (delK m.p.length a b), s := (delL (m.p ++ m.s) a b).drop (delK m.p.length a b) }
theorem eerase_any {W : World} {lo b most : Nat} {c : EdC} {m : EdM} (h : EdAt W lo b c most m) (x y : Int) :
    Calls Tryz.prog 73 #[.agg #[.pointer (some ⟨c.g, 0, none⟩)], .int .i64 x, .int .i64 y] W (EdStep W lo b c most (m.erased (clampN x (ln m.p m.s)) (clampN y (ln m.p m.s))) (decide (clampN x (ln m.p m.s) < clampN y (ln m.p m.s)))) := by
  refine (lerase_any h.buf x y).mono ?_
  rintro e w' ⟨rfl, ⟨f', t', hg⟩, hc⟩
  have hf : f' = ((delL (m.p ++ m.s) (clampN x (ln m.p m.s)) (clampN y (ln m.p m.s))).take (delK m.p.length (clampN x (ln m.p m.s)) (clampN y (ln m.p m.s)))).length := hg.fp.symm
  subst hf
  obtain ⟨h1, h2, h3⟩ := h.buf' hg hc (fun k hk => .inl hk)
  exact ⟨rfl, { c with t := t' }, rfl, h1, h2, h3⟩

set_option maxRecDepth 100000 in
set_option maxHeartbeats 4000000 in
theorem change_7 {w : World} {lo b most : Nat} {c : EdC} {m m1 : EdM} {d : Bool} (h : EdAt w lo b c most m) (kd yd : Bool) (ki fr : Int) (f : Nat) (hf : f = m.p.length) (hf4 : f ≤ 4096) (hE : ∀ W, EdAt W lo b c most m → Calls Tryz.prog 73 #[.agg #[.pointer (some ⟨c.g, 0, none⟩)], .int .i64 ((f : Int) - 1), .int .i64 ((f : Int))] W (EdStep W lo b c most m1 d)) :
    Calls Tryz.prog 57 #[.pointer (some ⟨b, 1, none⟩), .int .i64 7, .agg #[.bool kd, .bool yd, .int .i64 ki, .int .i64 fr]] w (EdStep w lo b c most m1 d) := by
  obtain ⟨hb0, ht0⟩ := trc_new w kd yd ki fr
  have hcur := fun (W : World) (hW : EdAt W lo b c most m) => (by rw [hf]; exact gcursor_any hW.buf : Calls Tryz.prog 26 #[.pointer (some ⟨c.g, 0, none⟩)] W fun e w' => e = .returned (.int .i64 f) ∧ Below W.heap.size W w')
  have HK := Lib.hid hE
  have H0 := Lib.hid (h.below hb0)
  have HB0 := Lib.hid hb0
  have HT0 := Lib.hid ht0
  have HC := Lib.hid hcur
  have kb0 := H0.out.cells.1
  clear h hb0 ht0 hcur hE hf
  go_enter Tryz.func57, Tryz.ntmps57
  go_wp2_with (first
    | (go_at_call 26; refine (HC.out _ H0.out).mono ?_; rintro e w1 ⟨rfl, hb1⟩
       have H1 := Lib.hid (H0.out.below hb1)
       have ht1 := blk_bel HT0.out hb1
       have kb1 := H1.out.cells.1
       have z0 : w1.cell? ⟨w.heap.size, 0, none⟩ = some (.bool kd) := ht1.cell 0
       have z1 : w1.cell? ⟨w.heap.size, 1, none⟩ = some (.bool yd) := ht1.cell 1
       have z2 : w1.cell? ⟨w.heap.size, 2, none⟩ = some (.int .i64 ki) := ht1.cell 2
       have z3 : w1.cell? ⟨w.heap.size, 3, none⟩ = some (.int .i64 fr) := ht1.cell 3
       have HT1 := Lib.hid ht1
       have HB1 := Lib.hid (HB0.out.trans (hb1.mono HB0.out.size))
       clear hb1 ht1 kb0)
    | (go_at_call 73; refine (HK.out _ H1.out).mono ?_; rintro e w3 ⟨rfl, hr⟩; have HR := Lib.hid (EdR.via HB1.out hr); clear hr))
  go_ret
  exact ⟨rfl, HR.out⟩

set_option maxRecDepth 100000 in
set_option maxHeartbeats 4000000 in
theorem change_8 {w : World} {lo b most : Nat} {c : EdC} {m m1 : EdM} {d : Bool} (h : EdAt w lo b c most m) (kd yd : Bool) (ki fr : Int) (f : Nat) (hf : f = m.p.length) (hf4 : f ≤ 4096) (hE : ∀ W, EdAt W lo b c most m → Calls Tryz.prog 73 #[.agg #[.pointer (some ⟨c.g, 0, none⟩)], .int .i64 ((f : Int)), .int .i64 ((f : Int) + 1)] W (EdStep W lo b c most m1 d)) :
    Calls Tryz.prog 57 #[.pointer (some ⟨b, 1, none⟩), .int .i64 8, .agg #[.bool kd, .bool yd, .int .i64 ki, .int .i64 fr]] w (EdStep w lo b c most m1 d) := by
  obtain ⟨hb0, ht0⟩ := trc_new w kd yd ki fr
  have hcur := fun (W : World) (hW : EdAt W lo b c most m) => (by rw [hf]; exact gcursor_any hW.buf : Calls Tryz.prog 26 #[.pointer (some ⟨c.g, 0, none⟩)] W fun e w' => e = .returned (.int .i64 f) ∧ Below W.heap.size W w')
  have HK := Lib.hid hE
  have H0 := Lib.hid (h.below hb0)
  have HB0 := Lib.hid hb0
  have HT0 := Lib.hid ht0
  have HC := Lib.hid hcur
  have kb0 := H0.out.cells.1
  clear h hb0 ht0 hcur hE hf
  go_enter Tryz.func57, Tryz.ntmps57
  go_wp2_with (first
    | (go_at_call 26; refine (HC.out _ H0.out).mono ?_; rintro e w1 ⟨rfl, hb1⟩
       have H1 := Lib.hid (H0.out.below hb1)
       have ht1 := blk_bel HT0.out hb1
       have kb1 := H1.out.cells.1
       have z0 : w1.cell? ⟨w.heap.size, 0, none⟩ = some (.bool kd) := ht1.cell 0
       have z1 : w1.cell? ⟨w.heap.size, 1, none⟩ = some (.bool yd) := ht1.cell 1
       have z2 : w1.cell? ⟨w.heap.size, 2, none⟩ = some (.int .i64 ki) := ht1.cell 2
       have z3 : w1.cell? ⟨w.heap.size, 3, none⟩ = some (.int .i64 fr) := ht1.cell 3
       have HT1 := Lib.hid ht1
       have HB1 := Lib.hid (HB0.out.trans (hb1.mono HB0.out.size))
       clear hb1 ht1 kb0)
    | (go_at_call 73; refine (HK.out _ H1.out).mono ?_; rintro e w3 ⟨rfl, hr⟩; have HR := Lib.hid (EdR.via HB1.out hr); clear hr))
  go_ret
  exact ⟨rfl, HR.out⟩

set_option maxRecDepth 100000 in
set_option maxHeartbeats 4000000 in
theorem change_16 {w : World} {lo b most : Nat} {c : EdC} {m m1 : EdM} {d : Bool} (h : EdAt w lo b c most m) (kd yd : Bool) (ki fr : Int) (hE : ∀ W, Below w.heap.size w W → EdAt W lo b c most m → Calls Tryz.prog 81 #[.agg #[.pointer (some ⟨c.g, 0, none⟩)]] W (EdStep W lo b c most m1 d)) :
    Calls Tryz.prog 57 #[.pointer (some ⟨b, 1, none⟩), .int .i64 16, .agg #[.bool kd, .bool yd, .int .i64 ki, .int .i64 fr]] w (EdStep w lo b c most m1 d) := by
  obtain ⟨hb0, ht0⟩ := trc_new w kd yd ki fr
  have hcur := fun (W : World) (hW : EdAt W lo b c most m) => gcursor_any hW.buf
  have HK := Lib.hid hE
  have H0 := Lib.hid (h.below hb0)
  have HB0 := Lib.hid hb0
  have HT0 := Lib.hid ht0
  have HC := Lib.hid hcur
  have kb0 := H0.out.cells.1
  clear h hb0 ht0 hcur hE
  go_enter Tryz.func57, Tryz.ntmps57
  go_wp2_with (first
    | (go_at_call 26; refine (HC.out _ H0.out).mono ?_; rintro e w1 ⟨rfl, hb1⟩
       have H1 := Lib.hid (H0.out.below hb1)
       have ht1 := blk_bel HT0.out hb1
       have kb1 := H1.out.cells.1
       have z0 : w1.cell? ⟨w.heap.size, 0, none⟩ = some (.bool kd) := ht1.cell 0
       have z1 : w1.cell? ⟨w.heap.size, 1, none⟩ = some (.bool yd) := ht1.cell 1
       have z2 : w1.cell? ⟨w.heap.size, 2, none⟩ = some (.int .i64 ki) := ht1.cell 2
       have z3 : w1.cell? ⟨w.heap.size, 3, none⟩ = some (.int .i64 fr) := ht1.cell 3
       have HT1 := Lib.hid ht1
       have HB1 := Lib.hid (HB0.out.trans (hb1.mono HB0.out.size))
       clear hb1 ht1 kb0)
    | (go_at_call 81; refine (HK.out _ HB1.out H1.out).mono ?_; rintro e w3 ⟨rfl, hr⟩; have HR := Lib.hid (EdR.via HB1.out hr); clear hr))
  go_ret
  exact ⟨rfl, HR.out⟩

set_option maxRecDepth 100000 in
set_option maxHeartbeats 4000000 in
theorem change_17 {w : World} {lo b most : Nat} {c : EdC} {m m1 : EdM} {d : Bool} (h : EdAt w lo b c most m) (kd yd : Bool) (ki fr : Int) (hE : ∀ W, EdAt W lo b c most m → Calls Tryz.prog 73 #[.agg #[.pointer (some ⟨c.g, 0, none⟩)], .int .i64 (0), .int .i64 (((ln m.p m.s : Nat) : Int))] W (EdStep W lo b c most m1 d)) :
    Calls Tryz.prog 57 #[.pointer (some ⟨b, 1, none⟩), .int .i64 17, .agg #[.bool kd, .bool yd, .int .i64 ki, .int .i64 fr]] w (EdStep w lo b c most m1 d) := by
  obtain ⟨hb0, ht0⟩ := trc_new w kd yd ki fr
  have hcur := fun (W : World) (hW : EdAt W lo b c most m) => gcursor_any hW.buf
  have HK := Lib.hid hE
  have hq := fun (W : World) (hW : EdAt W lo b c most m) => glen_any hW.buf
  have HQ := Lib.hid hq
  have H0 := Lib.hid (h.below hb0)
  have HB0 := Lib.hid hb0
  have HT0 := Lib.hid ht0
  have HC := Lib.hid hcur
  have kb0 := H0.out.cells.1
  clear h hb0 ht0 hcur hE hq
  go_enter Tryz.func57, Tryz.ntmps57
  go_wp2_with (first
    | (go_at_call 26; refine (HC.out _ H0.out).mono ?_; rintro e w1 ⟨rfl, hb1⟩
       have H1 := Lib.hid (H0.out.below hb1)
       have ht1 := blk_bel HT0.out hb1
       have kb1 := H1.out.cells.1
       have z0 : w1.cell? ⟨w.heap.size, 0, none⟩ = some (.bool kd) := ht1.cell 0
       have z1 : w1.cell? ⟨w.heap.size, 1, none⟩ = some (.bool yd) := ht1.cell 1
       have z2 : w1.cell? ⟨w.heap.size, 2, none⟩ = some (.int .i64 ki) := ht1.cell 2
       have z3 : w1.cell? ⟨w.heap.size, 3, none⟩ = some (.int .i64 fr) := ht1.cell 3
       have HT1 := Lib.hid ht1
       have HB1 := Lib.hid (HB0.out.trans (hb1.mono HB0.out.size))
       clear hb1 ht1 kb0))
  go_region_law (first
    | (refine step_call rfl 32 _ _ rfl (enters_of Tryz.func32 (by kernel_rfl) rfl) #[.pointer (some ⟨c.g, 0, none⟩)] (by simp [Act.eval, Act.put]) (HQ.out w1.drew (H1.out.below ((Below.refl _ _).drew))) ?_; rintro e w2 ⟨rfl, hb2⟩; refine ⟨_, rfl, ?_⟩
       have hb12 : Below w1.heap.size w1 w2 := ((Below.refl _ w1).drew).trans hb2
       have H2 := Lib.hid (H1.out.below hb12)
       have kb2 := H2.out.cells.1
       have HB2 := Lib.hid (HB1.out.trans (hb12.mono HB1.out.size))
       clear hb2 hb12)
    | (refine step_call rfl 73 _ _ rfl (enters_of Tryz.func73 (by kernel_rfl) rfl) #[.agg #[.pointer (some ⟨c.g, 0, none⟩)], .int .i64 0, .int .i64 ((ln m.p m.s : Nat) : Int)] (by simp [Act.eval, Act.put]) (HK.out _ H2.out) ?_; rintro e w3 ⟨rfl, hr⟩; refine ⟨_, rfl, ?_⟩; have HR := Lib.hid (EdR.via HB2.out hr); clear hr))
  all_goals (go_wp2_with (fail); go_ret; exact ⟨rfl, HR.out⟩)

set_option maxRecDepth 100000 in
set_option maxHeartbeats 4000000 in
theorem change_other {w : World} {lo b most : Nat} {c : EdC} {m m1 : EdM} {d : Bool} (h : EdAt w lo b c most m) (kd yd : Bool) (ki fr : Int) (a : Int) (h7 : a ≠ 7) (h8 : a ≠ 8) (h9 : a ≠ 9) (h10 : a ≠ 10) (h11 : a ≠ 11) (h12 : a ≠ 12) (h13 : a ≠ 13) (h14 : a ≠ 14) (h16 : a ≠ 16) (h17 : a ≠ 17) (hm : m1 = m) (hd : d = false) :
    Calls Tryz.prog 57 #[.pointer (some ⟨b, 1, none⟩), .int .i64 a, .agg #[.bool kd, .bool yd, .int .i64 ki, .int .i64 fr]] w (EdStep w lo b c most m1 d) := by
  obtain ⟨hb0, ht0⟩ := trc_new w kd yd ki fr
  have hcur := fun (W : World) (hW : EdAt W lo b c most m) => gcursor_any hW.buf
  subst hm hd
  have g7 : (a == 7) = false := by rw [beq_eq_false_iff_ne]; exact h7
  have g8 : (a == 8) = false := by rw [beq_eq_false_iff_ne]; exact h8
  have g9 : (a == 9) = false := by rw [beq_eq_false_iff_ne]; exact h9
  have g10 : (a == 10) = false := by rw [beq_eq_false_iff_ne]; exact h10
  have g11 : (a == 11) = false := by rw [beq_eq_false_iff_ne]; exact h11
  have g12 : (a == 12) = false := by rw [beq_eq_false_iff_ne]; exact h12
  have g13 : (a == 13) = false := by rw [beq_eq_false_iff_ne]; exact h13
  have g14 : (a == 14) = false := by rw [beq_eq_false_iff_ne]; exact h14
  have g16 : (a == 16) = false := by rw [beq_eq_false_iff_ne]; exact h16
  have g17 : (a == 17) = false := by rw [beq_eq_false_iff_ne]; exact h17
  have HH := Lib.hid h
  have H0 := Lib.hid (h.below hb0)
  have HB0 := Lib.hid hb0
  have HT0 := Lib.hid ht0
  have HC := Lib.hid hcur
  have kb0 := H0.out.cells.1
  clear h hb0 ht0 hcur h7 h8 h9 h10 h11 h12 h13 h14 h16 h17
  go_enter Tryz.func57, Tryz.ntmps57
  go_wp2_with (first
    | (go_at_call 26; refine (HC.out _ H0.out).mono ?_; rintro e w1 ⟨rfl, hb1⟩
       have H1 := Lib.hid (H0.out.below hb1)
       have ht1 := blk_bel HT0.out hb1
       have kb1 := H1.out.cells.1
       have z0 : w1.cell? ⟨w.heap.size, 0, none⟩ = some (.bool kd) := ht1.cell 0
       have z1 : w1.cell? ⟨w.heap.size, 1, none⟩ = some (.bool yd) := ht1.cell 1
       have z2 : w1.cell? ⟨w.heap.size, 2, none⟩ = some (.int .i64 ki) := ht1.cell 2
       have z3 : w1.cell? ⟨w.heap.size, 3, none⟩ = some (.int .i64 fr) := ht1.cell 3
       have HT1 := Lib.hid ht1
       have HB1 := Lib.hid (HB0.out.trans (hb1.mono HB0.out.size))
       clear hb1 ht1 kb0))
  go_ret
  exact EdStep.of_below HH.out HB1.out

set_option maxRecDepth 100000 in
set_option maxHeartbeats 4000000 in
theorem change_14 {w : World} {lo b most : Nat} {c : EdC} {m m1 : EdM} {d : Bool} (h : EdAt w lo b c most m) (kd : Bool) (fr : Int) (n : Nat) (hn : n = m.ks.length) (hn2 : 1 < n) (hn16 : n ≤ 16) (k0 : Nat) (hk16 : k0 ≤ 16) (hE : ∀ W, Below w.heap.size w W → EdAt W lo b c most m → Calls Tryz.prog 80 #[.pointer (some ⟨b, 1, none⟩), .int .i64 (((k0 + 1) % n : Nat) : Int), .int .i64 fr] W (EdStep W lo b c most m1 d)) :
    Calls Tryz.prog 57 #[.pointer (some ⟨b, 1, none⟩), .int .i64 14, .agg #[.bool kd, .bool true, .int .i64 (k0 : Int), .int .i64 fr]] w (EdStep w lo b c most m1 d) := by
  obtain ⟨hb0, ht0⟩ := trc_new w kd true (k0 : Int) fr
  have hcur := fun (W : World) (hW : EdAt W lo b c most m) => gcursor_any hW.buf
  have HK := Lib.hid hE
  obtain ⟨q, hq⟩ : ∃ q, q = (k0 + 1) % n := ⟨_, rfl⟩
  have hw1 : IntKind.i64.wrap ((k0 : Int) + 1) = ((k0 + 1 : Nat) : Int) := by rw [show ((k0 : Int) + 1) = ((k0 + 1 : Nat) : Int) by omega]; exact IntWalk.i64_in _ (by omega)
  have hw2 : (((k0 + 1 : Nat) : Int).tmod (n : Int)) = ((q : Nat) : Int) := by rw [hq]; rfl
  have hw3 : (((k0 + 1 : Nat) : Int) % (n : Int)) = ((q : Nat) : Int) := by rw [hq]; rfl
  have hw4 : ((k0 : Int) + 1) % (n : Int) = ((q : Nat) : Int) := by rw [hq]; rfl
  rw [← hq] at HK
  have hni : (n : Int) > 1 := by omega
  have hni0 : (n : Int) ≠ 0 := by omega
  have hnj : (1 : Int) < (n : Int) := by omega
  have hk2 : ∀ V, EdAt V lo b c most m → V.cell? ⟨b, 2, none⟩ = some (.slice c.K n c.kc) := fun V hV => by rw [hn]; exact hV.cells.2.1
  have HK2 := Lib.hid hk2
  have H0 := Lib.hid (h.below hb0)
  have HB0 := Lib.hid hb0
  have HT0 := Lib.hid ht0
  have HC := Lib.hid hcur
  have kb0 := H0.out.cells.1
  clear h hb0 ht0 hcur hE hq hn hk2
  go_enter Tryz.func57, Tryz.ntmps57
  go_wp2_with (first
    | (go_at_call 26; refine (HC.out _ H0.out).mono ?_; rintro e w1 ⟨rfl, hb1⟩
       have H1 := Lib.hid (H0.out.below hb1)
       have ht1 := blk_bel HT0.out hb1
       have kb1 := H1.out.cells.1
       have z0 : w1.cell? ⟨w.heap.size, 0, none⟩ = some (.bool kd) := ht1.cell 0
       have z1 : w1.cell? ⟨w.heap.size, 1, none⟩ = some (.bool true) := ht1.cell 1
       have z2 : w1.cell? ⟨w.heap.size, 2, none⟩ = some (.int .i64 (k0 : Int)) := ht1.cell 2
       have z3 : w1.cell? ⟨w.heap.size, 3, none⟩ = some (.int .i64 fr) := ht1.cell 3
       have HT1 := Lib.hid ht1
       have HB1 := Lib.hid (HB0.out.trans (hb1.mono HB0.out.size))
       clear hb1 ht1 kb0))
  have kc2 := HK2.out _ H1.out
  have r0 := cell_regrown kc2
  have r1 := cell_regrown z1
  have r2 := cell_regrown z2
  have r3 := cell_regrown z3
  refine wp_region_below_tail 23 (by kernel_rfl) (by kernel_rfl) ?_
  simp only [List.take_succ_cons, List.take_zero, List.drop_succ_cons, List.drop_zero]
  repeat (first
    | go_big_quiet_step (fail)
    | quiet_step (fail))
  refine wpQuiet_nil ?_
  intro _ hw'
  obtain ⟨⟨dq, osq⟩, hw''⟩ := hw'
  subst hw''
  have HBQ := Lib.hid (below_regrown w1 dq osq)
  have H3 := Lib.hid (H1.out.below HBQ.out)
  clear r0 r1 r2 r3 z0 z1 z2 z3 kc2 kb1
  generalize grow (redrawn w1 dq) osq = w3 at *
  go_wp2_with (go_at_call 80; refine (HK.out _ (HB1.out.trans (HBQ.out.mono HB1.out.size)) H3.out).mono ?_; rintro e w4 ⟨rfl, hr⟩; have HR := Lib.hid (EdR.via (HB1.out.trans (HBQ.out.mono HB1.out.size)) hr); clear hr)
  go_ret
  exact ⟨rfl, HR.out⟩
end Go.Proofs.YtfhfhjcdeeepbaaGreatDoor
