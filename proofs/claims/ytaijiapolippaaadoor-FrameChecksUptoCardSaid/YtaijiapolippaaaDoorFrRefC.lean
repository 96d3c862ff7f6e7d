/-
  Walk: the document's Colours.
-/
import Derived.Test.YtaijiapolippaaaDoorFrFns
namespace Go.Proofs.YtaijiapolippaaaDoor
open Go.RowKit
set_option linter.unusedVariables false
set_option linter.unusedSimpArgs false

set_option maxHeartbeats 1000000 in
theorem rcolours_any (y : Sty) (w : World) : Calls Tryd.prog 102 #[.agg y.cells.toArray] w fun e w' => e = .returned (.bool (styB y)) ∧ Below w.heap.size w w' := by
  obtain ⟨b, u, i, f, g⟩ := y
  simp only [Sty.cells]
  go_enter Tryd.func102, Tryd.ntmps102
  go_wp2
  all_goals
    go_ret
    exact ⟨ret_bool (by unfold styB; rw [Bool.eq_iff_iff]; simp; try omega), (Below.refl _ w).alloc (Nat.le_refl _) _⟩

end Go.Proofs.YtaijiapolippaaaDoor
