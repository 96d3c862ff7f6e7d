/-
  The law KeymapNobody, walked.
-/
import Derived.Test.YthlhfbchilfgcaaDoorKmTold
import Derived.Test.YthlhfbchilfgcaaDoorKmAwake
namespace Go.Proofs.YthlhfbchilfgcaaDoor
open Go.RowKit Go.Sort
set_option linter.unusedVariables false
set_option linter.unusedSimpArgs false

set_option maxRecDepth 100000 in
set_option maxHeartbeats 16000000 in
theorem keymapNobody_walk (k : Kv) (w : World) (hT : KmT w) :
    Calls Tryd.prog 6 #[.agg #[.int .i64 k.c, .string ⟨k.s.toArray⟩, .int .i64 k.n, .bool k.a, .bool k.h, .bool k.t]] w fun e w' => e = .returned (.bool true) ∧ Below w.heap.size w w' := by
  have HT := Lib.hid hT
  have hnn := run_neq_nn
  clear hT
  go_enter Tryd.func6, Tryd.ntmps6
  go_upto_region 4 with fail
  have hk1 : Blk (((w.alloc (.cells #[.int .i64 k.c, .string ⟨k.s.toArray⟩, .int .i64 k.n, .bool k.a, .bool k.h, .bool k.t] 24)).alloc (.cells #[.pointer none, .map none] 68)).alloc (.cells #[.pointer none, .pointer (some ⟨w.heap.size + 1, 0, none⟩)] 36)) w.heap.size 24 k.cells := ((Blk.new w 24 k.cells).alloc (.cells #[.pointer none, .map none] 68)).alloc (.cells #[.pointer none, .pointer (some ⟨w.heap.size + 1, 0, none⟩)] 36)
  have hk2 := (Blk.new (w.alloc (.cells #[.int .i64 k.c, .string ⟨k.s.toArray⟩, .int .i64 k.n, .bool k.a, .bool k.h, .bool k.t] 24)) 68 [.pointer none, .map none]).alloc (.cells #[.pointer none, .pointer (some ⟨w.heap.size + 1, 0, none⟩)] 36)
  have hk3 := Blk.new ((w.alloc (.cells #[.int .i64 k.c, .string ⟨k.s.toArray⟩, .int .i64 k.n, .bool k.a, .bool k.h, .bool k.t] 24)).alloc (.cells #[.pointer none, .map none] 68)) 36 [.pointer none, .pointer (some ⟨w.heap.size + 1, 0, none⟩)]
  simp only [World.size_alloc] at hk2 hk3
  have hb0 : Below w.heap.size w (((w.alloc (.cells #[.int .i64 k.c, .string ⟨k.s.toArray⟩, .int .i64 k.n, .bool k.a, .bool k.h, .bool k.t] 24)).alloc (.cells #[.pointer none, .map none] 68)).alloc (.cells #[.pointer none, .pointer (some ⟨w.heap.size + 1, 0, none⟩)] 36)) := (((Below.refl _ w).alloc (Nat.le_refl _) _).alloc (by simp) _).alloc (by simp; omega) _
  generalize hw2 : ((w.alloc (.cells #[.int .i64 k.c, .string ⟨k.s.toArray⟩, .int .i64 k.n, .bool k.a, .bool k.h, .bool k.t] 24)).alloc (.cells #[.pointer none, .map none] 68)).alloc (.cells #[.pointer none, .pointer (some ⟨w.heap.size + 1, 0, none⟩)] 36) = w2 at hk1 hk2 hk3 hb0 ⊢
  clear hw2
  have HK1 := Lib.hid hk1
  have HK2 := Lib.hid hk2
  have HK3 := Lib.hid hk3
  have HB0 := Lib.hid hb0
  clear hk1 hk2 hk3 hb0
  go_loopw [5] (fun a wr => ∃ i : Nat, a = .int .i64 (i : Int) ∧ i ≤ 2 ∧ Below w2.heap.size w2 wr) (fun a _ => 2 - (intOf a).toNat)
  case atStart => exact ⟨0, rfl, by omega, Below.refl _ _⟩
  case round =>
    obtain ⟨i, rfl, hi, hbr⟩ := hrel
    have HBR := Lib.hid hbr
    have hrow := HK3.out.below hbr HK3.out.lt
    have hzr := hbr.size
    have hk := HK1.out.below hbr HK1.out.lt
    clear hbr
    by_cases hlt : i < 2
    · have hki : (i : Int) < 2 := by omega
      obtain ⟨p, hpc, hp⟩ : ∃ p, wr.cell? ⟨w.heap.size + 1 + 1, i, none⟩ = some (.pointer p) ∧ MNo wr p := by
        have hd := HK2.out.below HBR.out HK2.out.lt
        have : i = 0 ∨ i = 1 := by omega
        rcases this with rfl | rfl
        · exact ⟨none, hrow.cell 0, .inl rfl⟩
        · exact ⟨some ⟨w.heap.size + 1, 0, none⟩, hrow.cell 1, .inr ⟨_, rfl, hd.cell 0⟩⟩
      have HP := Lib.hid hp
      have HPC := Lib.hid hpc
      have HKB := Lib.hid hk
      have hpr : ∀ d os, (grow (redrawn wr d) os).cell? ⟨w.heap.size + 1 + 1, i, none⟩ = some (.pointer p) := cell_regrown hpc
      have x0 : ∀ d os, (grow (redrawn wr d) os).cell? ⟨w.heap.size, 0, none⟩ = some (.int .i64 k.c) := cell_regrown (hk.cell 0)
      have x1 : ∀ d os, (grow (redrawn wr d) os).cell? ⟨w.heap.size, 1, none⟩ = some (.string ⟨k.s.toArray⟩) := cell_regrown (hk.cell 1)
      have x2 : ∀ d os, (grow (redrawn wr d) os).cell? ⟨w.heap.size, 2, none⟩ = some (.int .i64 k.n) := cell_regrown (hk.cell 2)
      have x3 : ∀ d os, (grow (redrawn wr d) os).cell? ⟨w.heap.size, 3, none⟩ = some (.bool k.a) := cell_regrown (hk.cell 3)
      have x4 : ∀ d os, (grow (redrawn wr d) os).cell? ⟨w.heap.size, 4, none⟩ = some (.bool k.h) := cell_regrown (hk.cell 4)
      have x5 : ∀ d os, (grow (redrawn wr d) os).cell? ⟨w.heap.size, 5, none⟩ = some (.bool k.t) := cell_regrown (hk.cell 5)
      have Q1 := Lib.hid (fun d os => Calls.regrown_of (few_any k (grow (redrawn wr d) os)))
      have Q2 := Lib.hid (fun d os => Calls.regrown_of (act_not (hp.bel (below_regrown wr d os)) (fewK k)))
      clear hrow hp hi hpc hk
      go_wp2_with (fail)
      refine region_below0 (by kernel_rfl) (by kernel_rfl) ?_
      repeat (first
        | go_big_quiet_step (first | with_reducible exact Q1.out _ _ | with_reducible exact Q2.out _ _)
        | quiet_step (first | with_reducible exact Q1.out _ _ | with_reducible exact Q2.out _ _))
      refine wpQuiet_nil ?_
      intro _ hw'
      obtain ⟨⟨dq, osq⟩, hw''⟩ := hw'
      subst hw''
      have HB3 := Lib.hid (below_regrown wr dq osq)
      clear x0 x1 x2 x3 x4 x5 hpr Q1 Q2
      generalize grow (redrawn wr dq) osq = w3 at HB3 ⊢
      have hpc3 : w3.cell? ⟨w.heap.size + 1 + 1, i, none⟩ = some (.pointer p) := (HB3.out.cell (p := ⟨w.heap.size + 1 + 1, i, none⟩) (cell_lt' HPC.out)).trans HPC.out
      go_upto_region 8 with (go_at_call 31; refine (told_not p 5 w3 (HP.out.bel HB3.out)).mono ?_; rintro e w4 ⟨rfl, hb4⟩; have HB4 := Lib.hid (HB3.out.trans (hb4.mono HB3.out.size)); clear hb4)
      clear hpc3
      have hpr : ∀ d os, (grow (redrawn w4 d) os).cell? ⟨w.heap.size + 1 + 1, i, none⟩ = some (.pointer p) := cell_regrown ((HB4.out.cell (p := ⟨w.heap.size + 1 + 1, i, none⟩) (cell_lt' HPC.out)).trans HPC.out)
      have hk4 := HKB.out.below HB4.out HKB.out.lt
      have x0 : ∀ d os, (grow (redrawn w4 d) os).cell? ⟨w.heap.size, 0, none⟩ = some (.int .i64 k.c) := cell_regrown (hk4.cell 0)
      have x1 : ∀ d os, (grow (redrawn w4 d) os).cell? ⟨w.heap.size, 1, none⟩ = some (.string ⟨k.s.toArray⟩) := cell_regrown (hk4.cell 1)
      have x2 : ∀ d os, (grow (redrawn w4 d) os).cell? ⟨w.heap.size, 2, none⟩ = some (.int .i64 k.n) := cell_regrown (hk4.cell 2)
      have x3 : ∀ d os, (grow (redrawn w4 d) os).cell? ⟨w.heap.size, 3, none⟩ = some (.bool k.a) := cell_regrown (hk4.cell 3)
      have x4 : ∀ d os, (grow (redrawn w4 d) os).cell? ⟨w.heap.size, 4, none⟩ = some (.bool k.h) := cell_regrown (hk4.cell 4)
      have x5 : ∀ d os, (grow (redrawn w4 d) os).cell? ⟨w.heap.size, 5, none⟩ = some (.bool k.t) := cell_regrown (hk4.cell 5)
      have hp4 : ∀ d os, MNo (grow (redrawn w4 d) os) p := fun d os => (HP.out.bel HB4.out).bel (below_regrown w4 d os)
      have R1 := Lib.hid (fun d os => Calls.regrown_of (few_any k (grow (redrawn w4 d) os)))
      have R2 := Lib.hid (fun d os => Calls.regrown_of (bind_not (hp4 d os) (fewK k) 15))
      have R3 := Lib.hid (fun d os => Calls.regrown_of (drop_not (hp4 d os) (fewK k)))
      have R4 := Lib.hid (fun d os => Calls.regrown_of (keys_not p 15 _ (hp4 d os)))
      have R5 := Lib.hid (fun d os => Calls.regrown_of ((len_not (hp4 d os)).mono fun e w' ⟨a, b⟩ => ⟨a, b ▸ Below.refl _ _⟩))
      have R6 := Lib.hid (fun d os => Calls.regrown_of ((fork_not (hp4 d os)).mono fun e w' ⟨a, b⟩ => ⟨a, b ▸ Below.refl _ _⟩))
      clear hk4 hp4
      go_wp2_with (fail)
      refine region_below0 (by kernel_rfl) (by kernel_rfl) ?_
      repeat (first
        | go_big_quiet_step (first | with_reducible exact R1.out _ _ | with_reducible exact R2.out _ _ | with_reducible exact R3.out _ _ | with_reducible exact R4.out _ _ | with_reducible exact R5.out _ _ | with_reducible exact R6.out _ _)
        | quiet_step (first | with_reducible exact R1.out _ _ | with_reducible exact R2.out _ _ | with_reducible exact R3.out _ _ | with_reducible exact R4.out _ _ | with_reducible exact R5.out _ _ | with_reducible exact R6.out _ _))
      refine wpQuiet_nil ?_
      intro _ hw'
      obtain ⟨⟨dq, osq⟩, hw''⟩ := hw'
      subst hw''
      have HB5 := Lib.hid (HB4.out.trans ((below_regrown w4 dq osq).mono HB4.out.size))
      clear x0 x1 x2 x3 x4 x5 hpr R1 R2 R3 R4 R5 R6
      generalize grow (redrawn w4 dq) osq = w5 at HB5 ⊢
      go_wp2_with (fail)
      go_roundw
      case rel => exact ⟨i + 1, by go_num, by omega, HBR.out.trans (HB5.out.mono hzr)⟩
      case measure => simp [intOf]; omega
    · have hki : ¬ (i : Int) < 2 := by omega
      clear hrow hi hk hnn
      have HA := Lib.hid (mawake_any wr ((HT.out.below HB0.out (Nat.le_refl _)).below HBR.out (Nat.le_refl _)))
      go_wp2_with (go_at_call 15; refine HA.out.mono ?_; rintro e w9 ⟨rfl, hb9⟩; have HB9 := Lib.hid hb9; clear hb9)
      go_ret
      exact ⟨rfl, (HB0.out.trans (HBR.out.mono HB0.out.size)).trans (HB9.out.mono (by have := HB0.out.size; omega))⟩
end Go.Proofs.YthlhfbchilfgcaaDoor
