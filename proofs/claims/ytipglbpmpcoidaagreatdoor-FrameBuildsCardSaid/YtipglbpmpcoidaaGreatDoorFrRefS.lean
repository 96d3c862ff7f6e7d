/-
  Walks: the document's Same, of equal frames.
-/
import Derived.Test.YtipglbpmpcoidaaGreatDoorFrFns
import Derived.Test.YtipglbpmpcoidaaGreatDoorGfI
import Derived.Test.YtipglbpmpcoidaaGreatDoorQuietB
import Derived.Outline
namespace Go.Proofs.YtipglbpmpcoidaaGreatDoor
open Go.RowKit Go.Sort
set_option linter.unusedVariables false
set_option linter.unusedSimpArgs false

set_option maxRecDepth 100000 in
set_option maxHeartbeats 8000000 in
theorem rfsame_eq {w : World} {D D' : Nat → Prop} {A B : Option Addr} {c d : Nat} {L : List (List Cl)} (hA : RfAt w D A c L) (hB : RfAt w D' B d L) (row col : Int) (sn : Bool) (hs : ∀ l ∈ L, l.length ≤ 100000) (h5 : L.length ≤ 100000) :
    Calls Tryz.prog 14 #[.agg #[.slice A L.length c, .int .i64 row, .int .i64 col, .bool sn], .agg #[.slice B L.length d, .int .i64 row, .int .i64 col, .bool sn]] w fun e w' => e = .returned (.bool true) ∧ Below w.heap.size w w' := by
  obtain ⟨W0, hW0⟩ : ∃ W0, W0 = (w.alloc (.cells #[.slice A L.length c, .int .i64 row, .int .i64 col, .bool sn] 52)).alloc (.cells #[.slice B L.length d, .int .i64 row, .int .i64 col, .bool sn] 52) := ⟨_, rfl⟩
  have hb0 : Below w.heap.size w W0 := by rw [hW0]; exact ((Below.refl _ w).alloc (Nat.le_refl _) _).alloc (by simp) _
  have f1 : Blk W0 w.heap.size 52 [.slice A L.length c, .int .i64 row, .int .i64 col, .bool sn] := by rw [hW0]; exact (Blk.new w _ [.slice A L.length c, .int .i64 row, .int .i64 col, .bool sn]).alloc _
  have f2 : Blk W0 (w.heap.size + 1) 52 [.slice B L.length d, .int .i64 row, .int .i64 col, .bool sn] := by rw [hW0]; exact Blk.new1 w _ _ [.slice B L.length d, .int .i64 row, .int .i64 col, .bool sn]
  have a0 : W0.cell? ⟨w.heap.size, 0, none⟩ = some (.slice A L.length c) := f1.cell 0
  have a1 : W0.cell? ⟨w.heap.size, 1, none⟩ = some (.int .i64 row) := f1.cell 1
  have a2 : W0.cell? ⟨w.heap.size, 2, none⟩ = some (.int .i64 col) := f1.cell 2
  have a3 : W0.cell? ⟨w.heap.size, 3, none⟩ = some (.bool sn) := f1.cell 3
  have b0 : W0.cell? ⟨w.heap.size + 1, 0, none⟩ = some (.slice B L.length d) := f2.cell 0
  have b1 : W0.cell? ⟨w.heap.size + 1, 1, none⟩ = some (.int .i64 row) := f2.cell 1
  have b2 : W0.cell? ⟨w.heap.size + 1, 2, none⟩ = some (.int .i64 col) := f2.cell 2
  have b3 : W0.cell? ⟨w.heap.size + 1, 3, none⟩ = some (.bool sn) := f2.cell 3
  have HA := Lib.hid (hA.below hb0)
  have HB := Lib.hid (hB.below hb0)
  have HB0 := Lib.hid hb0
  have HW0 := Lib.hid hW0
  have HS := Lib.hid hs
  have hl0 : w.heap.size + 1 < W0.heap.size := f2.lt
  clear hA hB hb0 hW0 hs f1 f2
  go_enter Tryz.func14, Tryz.ntmps14
  go_upto_region 1 with (fail)
  rw [← HW0.out]
  go_wp2_with (fail)
  go_loopw [5] (fun i wr => ∃ k : Nat, i = .int .i64 k ∧ k ≤ L.length ∧ Below W0.heap.size W0 wr) (fun i _ => L.length - (intOf i).toNat)
  case atStart => exact ⟨0, rfl, by omega, Below.refl _ _⟩
  case round =>
    obtain ⟨k, rfl, hk, hbel⟩ := hrel
    have z0 : wr.cell? ⟨w.heap.size, 0, none⟩ = some (.slice A L.length c) := (hbel.cell (p := ⟨w.heap.size, 0, none⟩) (by show w.heap.size < _; omega)).trans a0
    have z1 : wr.cell? ⟨w.heap.size + 1, 0, none⟩ = some (.slice B L.length d) := (hbel.cell (p := ⟨w.heap.size + 1, 0, none⟩) hl0).trans b0
    have HBE := Lib.hid hbel
    clear hbel a0 a1 a2 a3 b0 b1 b2 b3
    by_cases hlt : k < L.length
    · have hki : (k : Int) < L.length := by omega
      have hl : L[k]? = some L[k] := List.getElem?_eq_getElem hlt
      have hm := HS.out _ (List.getElem_mem hlt)
      generalize L[k] = l at hl hm
      obtain ⟨ba, oa, Ai, ci, rfl, hba, hca, _, hsa⟩ := (HA.out.below HBE.out).at_ hl
      obtain ⟨bb, ob, Bi, di, rfl, hbb, hcb, _, hsb⟩ := (HB.out.below HBE.out).at_ hl
      have c0 := cell_regrown z0
      have c1 := cell_regrown z1
      have c2 := cell_regrown hca
      have c3 := cell_regrown hcb
      have Q1 := fun dd os => Calls.regrown_of (same_any l l l.length l.length Ai Bi ci di (grow (redrawn wr dd) os) rfl rfl hm hm wr.heap.size wr.heap.size (hsa.sl.below (below_regrown wr dd os)) (hsb.sl.below (below_regrown wr dd os)) (below_regrown wr dd os).size (below_regrown wr dd os).size)
      rw [show decide (l = l) = true by simp] at Q1
      have Q1 := Lib.hid Q1
      clear hl hm hsa hsb hca hcb hba hbb
      go_wp2_with (fail)
      clear z0 z1
      refine region_below0 (by kernel_rfl) (by kernel_rfl) ?_
      repeat (first
        | go_big_quiet_step (with_reducible exact Q1.out _ _)
        | quiet_step (with_reducible exact Q1.out _ _))
      refine wpQuiet_nil ?_
      intro _ hw'
      obtain ⟨⟨dq, osq⟩, hw''⟩ := hw'
      subst hw''
      have hb2 := HBE.out.trans ((below_regrown wr dq osq).mono HBE.out.size)
      clear c0 c1 c2 c3
      generalize grow (redrawn wr dq) osq = w5 at hb2 ⊢
      go_wp2
      go_roundw
      case rel => exact ⟨k + 1, by go_num, by omega, hb2⟩
      case measure => simp [intOf]; omega
    · have hki : ¬ (k : Int) < L.length := by omega
      go_wp2
      go_ret
      exact ⟨rfl, HB0.out.trans (HBE.out.mono HB0.out.size)⟩
end Go.Proofs.YtipglbpmpcoidaaGreatDoor
