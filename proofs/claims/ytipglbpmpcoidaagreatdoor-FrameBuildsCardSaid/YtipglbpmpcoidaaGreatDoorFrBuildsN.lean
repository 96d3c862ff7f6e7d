/-
  The law FrameBuilds, walked where New refuses.
-/
import Derived.Test.YtipglbpmpcoidaaGreatDoorFrTwo
namespace Go.Proofs.YtipglbpmpcoidaaGreatDoor
open Go.RowKit
set_option linter.unusedVariables false
set_option linter.unusedSimpArgs false

set_option maxRecDepth 100000 in
set_option maxHeartbeats 8000000 in
theorem frameBuilds_no (a b : Int) (hbad : fsizeB a b = false) (A : Option Addr) (n c : Nat) (hm : n ≤ maxLen) (w : World) (hT : BlankT w) (hTab : Tabs w) :
    Calls Tryz.prog 3 #[.int .i64 a, .int .i64 b, .slice A n c] w fun e w' => e = .returned (.bool true) ∧ Below w.heap.size w w' := by
  have HN := Lib.hid (fnew_no a b hbad w hT)
  have hrn := fun w' => rbnew_no a b hbad w'
  have HRN := Lib.hid hrn
  have HT := Lib.hid hT
  have HTB := Lib.hid hTab
  have hmi : (n : Int) ≤ 9223372036854775807 := by unfold maxLen at hm; omega
  clear hrn hT hTab hbad hm
  go_enter Tryz.func3, Tryz.ntmps3
  go_wp2_with (first
    | (go_at_call 4; refine HN.out.mono ?_; rintro e w1 ⟨rfl, hb1⟩; have HB1 := Lib.hid hb1; clear hb1)
    | (go_at_call 5; refine (HRN.out _).mono ?_; rintro e w2 ⟨rfl, hb2⟩; have HB2 := Lib.hid (HB1.out.trans (hb2.mono HB1.out.size)); have HX2 := Lib.hid (Blk.new w2 31 rbZ); clear hb2)
    | ((with_reducible refine at_store 9 ?_); refine wpList_store_blk rfl _ _ _ rfl rfl w2.heap.size 0 _ rbZ rbZ rfl rfl HX2.out (by simp [rbZ]) rb_size (rbC_one 0 0 none 0 0 0 false) ?_; intro w3 hn3 hg3; have hb3 : Below w2.heap.size w2 w3 := ((Below.refl _ _).alloc (Nat.le_refl _) _).grown hg3 (by simp) (fun j hj => by injection hj with hj; omega); have HB3 := Lib.hid (HB2.out.trans (hb3.mono HB2.out.size)); clear hn3 hg3 hb3)
    | (go_at_call 6; refine (fawake_any _ (HT.out.bel HB3.out) (HTB.out.below HB3.out)).mono ?_; rintro e w4 ⟨rfl, hb4⟩; have HB4 := Lib.hid (HB3.out.trans (hb4.mono HB3.out.size)); clear hb4))
  go_loopw [11] (fun v wr => v = .int .i64 0 ∧ Below w.heap.size w wr) (fun _ _ => 0)
  case atStart => exact ⟨rfl, HB4.out⟩
  case round =>
    obtain ⟨rfl, hb⟩ := hrel
    by_cases h0 : 0 < n
    · have hki : (0 : Int) < n := by omega
      go_wp2
      go_ret
      exact ⟨rfl, hb⟩
    · have hki : ¬ (0 : Int) < n := by omega
      go_wp2
      go_ret
      exact ⟨rfl, hb⟩
end Go.Proofs.YtipglbpmpcoidaaGreatDoor
