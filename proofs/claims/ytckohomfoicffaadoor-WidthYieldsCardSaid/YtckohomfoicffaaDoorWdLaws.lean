/-
  The laws of layer 2, walked: awake, few, WidthOf.
-/
import Derived.Test.YtckohomfoicffaaDoorWdSum
namespace Go.Proofs.YtckohomfoicffaaDoor
open Go.RowKit Go.Shelf
set_option linter.unusedVariables false

set_option maxRecDepth 100000 in
set_option maxHeartbeats 1000000 in
theorem awake_any (w : World) (hT : Tabs w) :
    Calls Tryd.prog 15 #[] w fun e w' => e = .returned (.bool true) ∧ Below w.heap.size w w' := by
  have o1 : ofI 65 = 1 := by decide +kernel
  have o2 : ofI 769 = 0 := by decide +kernel
  have o3 : ofI 28450 = 2 := by decide +kernel
  have o4 : ofI 10 = 0 := by decide +kernel
  have f1 : fitN 3 [65, 769, 28450, 66] 0 = 3 := by decide +kernel
  have f2 : sumW ([65, 769, 28450, 66].take (fitN 3 [65, 769, 28450, 66] 0)) = 3 := by decide +kernel
  have O1 := Lib.hid o1
  have O2 := Lib.hid o2
  have O3 := Lib.hid o3
  have O4 := Lib.hid o4
  have F1 := Lib.hid f1
  have F2 := Lib.hid f2
  clear o1 o2 o3 o4 f1 f2
  go_enter Tryd.func15, Tryd.ntmps15
  go_wp2_with (fail)
  have hb0 : Below w.heap.size w (w.alloc (.cells #[.int .i32 65, .int .i32 769, .int .i32 28450, .int .i32 66] 21)) := (Below.refl _ _).alloc (Nat.le_refl _) _
  refine (fit_any 3 (by omega) (by omega) _ 4 [65, 769, 28450, 66] (w.heap.size + 1) _ (by simp) (Sl.new w _ _) (by simp) (hT.below hb0)).mono ?_
  rintro e w1 ⟨rfl, hb1⟩
  rw [F2.out, F1.out, show ((3 : Nat) : Int) = 3 from rfl]
  have hb01 : Below w.heap.size w w1 := hb0.trans (hb1.mono hb0.size)
  have hT1 := hT.below hb01
  clear hb0 hb1
  go_wp2_with (fail)
  refine (of_any 65 w1 hT1).mono ?_
  rintro e w2 ⟨rfl, hb2⟩
  rw [O1.out]
  have hT2 := hT1.below hb2
  go_wp2_with (fail)
  refine (of_any 769 w2 hT2).mono ?_
  rintro e w3 ⟨rfl, hb3⟩
  rw [O2.out]
  have hT3 := hT2.below hb3
  go_wp2_with (fail)
  refine (of_any 28450 w3 hT3).mono ?_
  rintro e w4 ⟨rfl, hb4⟩
  rw [O3.out]
  have hT4 := hT3.below hb4
  go_wp2_with (fail)
  refine (of_any 10 w4 hT4).mono ?_
  rintro e w5 ⟨rfl, hb5⟩
  rw [O4.out]
  go_wp2
  go_ret
  have h2 := hb01.trans (hb2.mono hb01.size)
  have h3 := h2.trans (hb3.mono h2.size)
  have h4 := h3.trans (hb4.mono h3.size)
  exact ⟨rfl, h4.trans (hb5.mono h4.size)⟩

set_option maxRecDepth 100000 in
set_option maxHeartbeats 2000000 in
theorem widthOf_walk (r : Int) (w : World) (hT : Tabs w) :
    Calls Tryd.prog 3 #[.int .i32 r] w fun e w' => e = .returned (.bool true) ∧ Below w.heap.size w w' := by
  have H := Lib.hid hT
  clear hT
  go_enter Tryd.func3, Tryd.ntmps3
  go_wp2_with (fail)
  refine (of_any r w H.out).mono ?_
  rintro e w1 ⟨rfl, hb1⟩
  have b1 := hb1
  go_wp2_with (fail)
  refine (rof_any r w1).mono ?_
  rintro e w2 ⟨rfl, hb2⟩
  have b2 := b1.trans (hb2.mono b1.size)
  clear hb1 hb2
  go_wp2_with (fail)
  refine (ctl_any r w2).mono ?_
  rintro e w' ⟨rfl, rfl⟩
  go_wp2_with (fail)
  refine (rctl_any r w2).mono ?_
  rintro e w' ⟨rfl, rfl⟩
  go_wp2_with (fail)
  refine (mark_any r w2 (H.out.below b2)).mono ?_
  rintro e w3 ⟨rfl, hb3⟩
  have b3 := b2.trans (hb3.mono b2.size)
  clear hb3
  go_wp2_with (fail)
  refine (rmark_any r w3).mono ?_
  rintro e w4 ⟨rfl, hb4⟩
  have b4 := b3.trans (hb4.mono b3.size)
  clear hb4
  go_wp2_with (fail)
  refine (wide_any r w4 (H.out.below b4)).mono ?_
  rintro e w5 ⟨rfl, hb5⟩
  have b5 := b4.trans (hb5.mono b4.size)
  clear hb5
  go_wp2_with (fail)
  refine (rwide_any r w5).mono ?_
  rintro e w6 ⟨rfl, hb6⟩
  have b6 := b5.trans (hb6.mono b5.size)
  clear hb6
  go_wp2_with (fail)
  refine (awake_any w6 (H.out.below b6)).mono ?_
  rintro e w7 ⟨rfl, hb7⟩
  go_wp2
  go_ret
  exact ⟨rfl, b6.trans (hb7.mono b6.size)⟩
end Go.Proofs.YtckohomfoicffaaDoor
