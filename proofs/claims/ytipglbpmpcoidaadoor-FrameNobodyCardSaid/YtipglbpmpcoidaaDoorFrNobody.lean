/-
  The law FrameNobody, walked.
-/
import Derived.Test.YtipglbpmpcoidaaDoorFrAwake
namespace Go.Proofs.YtipglbpmpcoidaaDoor
open Go.RowKit
set_option linter.unusedVariables false
set_option linter.unusedSimpArgs false

set_option maxRecDepth 100000 in
set_option maxHeartbeats 4000000 in
theorem ftext_not {w : World} {p : Option Addr} (h : BdNo w p) (row col : Int) (s : ByteArray) (yb yu yi : Bool) (yf yg : Int) :
    Calls Tryd.prog 17 #[.pointer p, .int .i64 row, .int .i64 col, .string s, .agg #[.bool yb, .bool yu, .bool yi, .int .i64 yf, .int .i64 yg]] w fun e w' => e = .returned (.tuple #[.int .i64 0, .int .i64 4]) ∧ Below w.heap.size w w' := by
  obtain ⟨W0, hW0⟩ : ∃ W0, W0 = (((w.alloc (.cells #[.pointer p] 40)).alloc (.cells #[.int .i64 row] 3)).alloc (.cells #[.int .i64 col] 3)).alloc (.cells #[.bool yb, .bool yu, .bool yi, .int .i64 yf, .int .i64 yg] 46) := ⟨_, rfl⟩
  have hB0 : Below w.heap.size w W0 := by
    rw [hW0]; exact ((((Below.refl _ w).alloc (Nat.le_refl _) _).alloc (by simp) _).alloc (by simp; omega) _).alloc (by simp; omega) _
  have HQ := Lib.hid (fcheckrow_not (h.below hB0) row)
  have HB0 := Lib.hid hB0
  have HW0 := Lib.hid hW0
  clear h hB0 hW0
  go_enter Tryd.func17, Tryd.ntmps17
  go_wp2_with (fail)
  rw [← HW0.out]
  refine HQ.out.mono ?_
  rintro e w1 ⟨rfl, rfl⟩
  go_wp2_with (fail)
  go_ret2
  exact ⟨rfl, HB0.out⟩
set_option maxRecDepth 100000 in
set_option maxHeartbeats 4000000 in
theorem ffill_not {w : World} {p : Option Addr} (h : BdNo w p) (row a z : Int) (yb yu yi : Bool) (yf yg : Int) :
    Calls Tryd.prog 20 #[.pointer p, .int .i64 row, .int .i64 a, .int .i64 z, .agg #[.bool yb, .bool yu, .bool yi, .int .i64 yf, .int .i64 yg]] w fun e w' => e = .returned (.int .i64 4) ∧ Below w.heap.size w w' := by
  have hB0 : Below w.heap.size w (w.alloc (.cells #[.bool yb, .bool yu, .bool yi, .int .i64 yf, .int .i64 yg] 46)) := (Below.refl _ w).alloc (Nat.le_refl _) _
  have HQ := Lib.hid (fcheckrow_not (h.below hB0) row)
  have HB0 := Lib.hid hB0
  clear h hB0
  go_enter Tryd.func20, Tryd.ntmps20
  go_wp2_with (go_at_call 33; refine HQ.out.mono ?_; rintro e w1 ⟨rfl, rfl⟩)
  go_ret
  exact ⟨rfl, HB0.out⟩

theorem frun_field (a0 a1 a2 a3 : Value) (w : World) : Sem.run Tryd.prog (Instr.field 24 (.agg #[a0, a1, a2, a3]) 0) w = .ok a0 w ∧ Sem.run Tryd.prog (Instr.field 24 (.agg #[a0, a1, a2, a3]) 3) w = .ok a3 w := by
  refine ⟨?_, ?_⟩ <;> kernel_rfl
theorem fbt {W0 W W' : World} (h1 : Below W0.heap.size W0 W) (h2 : Below W.heap.size W W') : Below W0.heap.size W0 W' := h1.trans (h2.mono h1.size)
set_option maxRecDepth 100000 in
set_option maxHeartbeats 8000000 in
theorem frameNobody_walk (s : ByteArray) (w : World) (hT : BlankT w) (hTab : Tabs w) :
    Calls Tryd.prog 5 #[.string s] w fun e w' => e = .returned (.bool true) ∧ Below w.heap.size w w' := by
  have HTB := Lib.hid hTab
  have HT := Lib.hid hT
  obtain ⟨W0, hW0⟩ : ∃ W0, W0 = (w.alloc (.cells #[.pointer none, .pointer none, .int .i64 0, .int .i64 0, .bool false] 53)).alloc (.cells #[.pointer none, .pointer (some ⟨w.heap.size, 0, none⟩)] 40) := ⟨_, rfl⟩
  have hb0 : Below w.heap.size w W0 := by rw [hW0]; exact ((Below.refl _ w).alloc (Nat.le_refl _) _).alloc (by simp) _
  have hsz : W0.heap.size = w.heap.size + 2 := by rw [hW0]; simp
  have hz : Blk W0 w.heap.size 53 [.pointer none, .pointer none, .int .i64 0, .int .i64 0, .bool false] := by rw [hW0]; exact (Blk.new w _ _).alloc _
  have hl : Blk W0 (w.heap.size + 1) 40 [.pointer none, .pointer (some ⟨w.heap.size, 0, none⟩)] := by
    have := Blk.new (w.alloc (.cells #[.pointer none, .pointer none, .int .i64 0, .int .i64 0, .bool false] 53)) 40 [.pointer none, .pointer (some ⟨w.heap.size, 0, none⟩)]
    rw [hW0]; simpa using this
  have hno : ∀ k : Nat, k < 2 → ∃ q, W0.cell? ⟨w.heap.size + 1, k, none⟩ = some (.pointer q) ∧ BdNo W0 q := fun k hk => by
    match k, hk with
    | 0, _ => exact ⟨none, hl.cell 0, .inl rfl⟩
    | 1, _ => exact ⟨_, hl.cell 1, .inr ⟨w.heap.size, rfl, hz.cell 0⟩⟩
  have HNO := Lib.hid hno
  have HB0 := Lib.hid hb0
  have HSZ := Lib.hid hsz
  have HW0 := Lib.hid hW0
  clear hT hTab hW0 hb0 hsz hz hl hno
  go_enter Tryd.func5, Tryd.ntmps5
  go_wp2_with (fail)
  rw [← HW0.out]
  clear HW0
  generalize hz1 : w.heap.size + 1 = z at *
  have hzl : z < W0.heap.size := by have := HSZ.out; omega
  clear hz1
  go_loopw [15] (fun v15 wr => ∃ k : Nat, v15 = .int .i64 k ∧ k ≤ 2 ∧ Below W0.heap.size W0 wr) (fun v15 _ => 2 - (intOf v15).toNat)
  case atStart => exact ⟨0, rfl, by omega, Below.refl _ _⟩
  case round =>
    obtain ⟨k, rfl, hk, hbr⟩ := hrel
    have HBR := Lib.hid hbr
    clear hbr
    by_cases hk2 : k < 2
    · have hki : (k : Int) < 2 := by omega
      obtain ⟨q, hc, hq⟩ := HNO.out k hk2
      have hcr : wr.cell? ⟨z, k, none⟩ = some (.pointer q) := (HBR.out.cell (p := ⟨z, k, none⟩) hzl).trans hc
      have HQ : Hid (∀ W, Below W0.heap.size W0 W → BdNo W q) := Lib.hid (fun W hW => hq.below hW)
      clear hc hq
      go_wp2_with (fail)
      refine (ftext_not (HQ.out _ HBR.out) _ _ _ _ _ _ _ _).mono ?_
      rintro e w1 ⟨rfl, hb⟩
      have HB1 := Lib.hid (fbt HBR.out hb)
      clear hb hcr
      go_wp2_with (fail)
      refine (fbsize_not (HQ.out _ HB1.out)).mono ?_
      rintro e w' ⟨rfl, rfl⟩
      go_wp2_with (fail)
      refine (ffill_not (HQ.out _ HB1.out) _ _ _ _ _ _ _ _).mono ?_
      rintro e w2 ⟨rfl, hb⟩
      have HB2 := Lib.hid (fbt HB1.out hb)
      clear hb
      go_wp2_with (fail)
      refine (fcursor_not (HQ.out _ HB2.out) _ _ _).mono ?_
      rintro e w' ⟨rfl, rfl⟩
      go_wp2_with (fail)
      have fl0 := fun w => (frun_field (.slice none 0 0) (.int .i64 0) (.int .i64 0) (.bool false) w).1
      have fl3 := fun w => (frun_field (.slice none 0 0) (.int .i64 0) (.int .i64 0) (.bool false) w).2
      refine (fframe_not (HQ.out _ HB2.out)).mono ?_
      rintro e w3 ⟨rfl, hb⟩
      have HB3 := Lib.hid (fbt HB2.out hb)
      clear hb
      go_wp2_with (fail)
      refine (fframe_not (HQ.out _ HB3.out)).mono ?_
      rintro e w4 ⟨rfl, hb⟩
      have HB4 := Lib.hid (fbt HB3.out hb)
      clear hb
      go_wp2_with (fail)
      go_roundw
      case rel => exact ⟨k + 1, by go_num, by omega, HB4.out⟩
      case measure => simp [intOf]; omega
    · have hki : ¬ (k : Int) < 2 := by omega
      have HBW := Lib.hid (HB0.out.trans (HBR.out.mono HB0.out.size))
      have HTW := Lib.hid (HT.out.bel HBW.out)
      have HTBW := Lib.hid (HTB.out.below HBW.out)
      go_wp2_with (go_at_call 13; refine (fawake_any _ HTW.out HTBW.out).mono ?_; rintro e w9 ⟨rfl, hb9⟩)
      go_ret
      exact ⟨rfl, HBW.out.trans (hb9.mono HBW.out.size)⟩
end Go.Proofs.YtipglbpmpcoidaaDoor
