/-
  Walk: meet; two boxes compared.
-/
import Derived.Test.YtdodogehlnchlaaLyBoxM
namespace Go.Proofs.Ytdodogehlnchlaa
open Go.RowKit Go.Shelf Go.Sort
attribute [local go_sem] Oper.semAt_some
set_option linter.unusedVariables false
set_option linter.unusedSimpArgs false

theorem bx_fields : Try.prog.underlying 52 = some (.struct (Try.prog.fieldsOf 52)) := by kernel_rfl
theorem bx_stood : Try.prog.stoodInHeld 52 = false := by kernel_rfl
theorem bx_guard : Try.prog.eqGuardType Try.prog.depth 52 = false := by kernel_rfl
theorem run_eq_bx (a b c d : Int) (w : World) :
    (Op.equalIn 10000 52 (.agg #[.int .i64 a, .int .i64 b, .int .i64 c, .int .i64 d]) (.agg #[.int .i64 a, .int .i64 b, .int .i64 c, .int .i64 d])).run Try.prog w = .ok true w := by
  rw [show (10000 : Nat) = 9999 + 1 from rfl, run_equalIn_agg w 9999 52 _ _ bx_fields bx_stood]
  simp only [Program.fieldsOf, Try.underlying52]
  go_simp
theorem run_neq_bx (a b c d : Int) (w : World) :
    Sem.run Try.prog (binOp .neq 52 (.agg #[.int .i64 a, .int .i64 b, .int .i64 c, .int .i64 d]) (.agg #[.int .i64 a, .int .i64 b, .int .i64 c, .int .i64 d])) w = .ok (.bool false) w := by
  simp only [binOp]
  simp [Op.equal, Op.maxDepth, run_eq_bx a b c d, bx_guard]

set_option maxRecDepth 100000 in
set_option maxHeartbeats 4000000 in
theorem meet_any (a b : Bx) (hh ww : Int) (ha : BxOk hh ww a) (hb : BxOk hh ww b) (h5 : hh ≤ 500) (w5 : ww ≤ 500) (w : World) :
    Calls Try.prog 25 #[.agg (bxC a).toArray, .agg (bxC b).toArray] w fun e w' => e = .returned (.bool (meetB a b)) ∧ Below w.heap.size w w' := by
  obtain ⟨W1, hW1⟩ : ∃ W1, W1 = w.alloc (.cells (bxC a).toArray 52) := ⟨_, rfl⟩
  obtain ⟨W0, hW0⟩ : ∃ W0, W0 = W1.alloc (.cells (bxC b).toArray 52) := ⟨_, rfl⟩
  have hA : Blk W0 w.heap.size 52 (bxC a) := by rw [hW0]; exact (show Blk W1 w.heap.size 52 (bxC a) by rw [hW1]; exact Blk.new w 52 (bxC a)).alloc _
  have hB : Blk W0 W1.heap.size 52 (bxC b) := by rw [hW0]; exact Blk.new W1 52 (bxC b)
  have hb0 : Below w.heap.size w W0 := by rw [hW0, hW1]; exact ((Below.refl _ w).alloc (Nat.le_refl _) _).alloc (by simp) _
  have hs1 : W1.heap.size = w.heap.size + 1 := by rw [hW1]; simp
  rw [hs1] at hB
  have x0 := hA.cell 0
  have x1 := hA.cell 1
  have x2 := hA.cell 2
  have x3 := hA.cell 3
  have y0 := hB.cell 0
  have y1 := hB.cell 1
  have y2 := hB.cell 2
  have y3 := hB.cell 3
  simp only [bxC, List.getElem?_cons_zero, List.getElem?_cons_succ] at x0 x1 x2 x3 y0 y1 y2 y3 hW1 hW0
  obtain ⟨ar, ac, ah, aw⟩ := a
  obtain ⟨br, bc, bh, bw⟩ := b
  obtain ⟨a1, a2, a3, a4, a5, a6⟩ := ha
  obtain ⟨b1, b2, b3, b4, b5, b6⟩ := hb
  have hv : meetB ⟨ar, ac, ah, aw⟩ ⟨br, bc, bh, bw⟩ = (decide (ar < br + bh) && decide (br < ar + ah) && decide (ac < bc + bw) && decide (bc < ac + aw)) := rfl
  rw [hv]
  dsimp only at *
  have HB0 := Lib.hid hb0
  have HW0 := Lib.hid hW0
  have HW1 := Lib.hid hW1
  simp only [bxC]
  clear hA hB hb0 hW0 hW1 hv hs1
  obtain ⟨s1, hs1⟩ : ∃ s, br + bh = s := ⟨_, rfl⟩
  obtain ⟨s2, hs2⟩ : ∃ s, ar + ah = s := ⟨_, rfl⟩
  obtain ⟨s3, hs3⟩ : ∃ s, bc + bw = s := ⟨_, rfl⟩
  obtain ⟨s4, hs4⟩ : ∃ s, ac + aw = s := ⟨_, rfl⟩
  rw [hs1, hs2, hs3, hs4]
  by_cases c1 : ar < s1
  · by_cases c2 : br < s2
    · by_cases c3 : ac < s3
      · have e : (decide (ar < s1) && decide (br < s2) && decide (ac < s3) && decide (bc < s4)) = decide (bc < s4) := by simp [c1, c2, c3]
        rw [e]
        clear e
        obtain ⟨v, hv⟩ : ∃ v, decide (bc < s4) = v := ⟨_, rfl⟩
        rw [hv]
        go_enter Try.func25, Try.ntmps25
        go_upto_region 1 with (fail)
        rw [← HW1.out, ← HW0.out]
        clear HW0 HW1
        go_wp2_with (fail)
        go_ret
        exact ⟨ret_bool (by rfl), HB0.out⟩
      · have e : (decide (ar < s1) && decide (br < s2) && decide (ac < s3) && decide (bc < s4)) = false := by simp [c3]
        rw [e]
        clear e
        go_enter Try.func25, Try.ntmps25
        go_upto_region 1 with (fail)
        rw [← HW1.out, ← HW0.out]
        clear HW0 HW1
        go_wp2_with (fail)
        go_ret
        exact ⟨ret_bool (by rfl), HB0.out⟩
    · have e : (decide (ar < s1) && decide (br < s2) && decide (ac < s3) && decide (bc < s4)) = false := by simp [c2]
      rw [e]
      clear e
      go_enter Try.func25, Try.ntmps25
      go_upto_region 1 with (fail)
      rw [← HW1.out, ← HW0.out]
      clear HW0 HW1
      go_wp2_with (fail)
      go_ret
      exact ⟨ret_bool (by rfl), HB0.out⟩
  · have e : (decide (ar < s1) && decide (br < s2) && decide (ac < s3) && decide (bc < s4)) = false := by simp [c1]
    rw [e]
    clear e
    go_enter Try.func25, Try.ntmps25
    go_upto_region 1 with (fail)
    rw [← HW1.out, ← HW0.out]
    clear HW0 HW1
    go_wp2_with (fail)
    go_ret
    exact ⟨ret_bool (by rfl), HB0.out⟩
end Go.Proofs.Ytdodogehlnchlaa
