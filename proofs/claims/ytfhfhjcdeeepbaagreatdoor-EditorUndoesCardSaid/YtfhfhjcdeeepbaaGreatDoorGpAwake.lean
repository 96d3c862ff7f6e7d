/-
  Walk: the law's own check (awake).
-/
import Derived.Test.YtfhfhjcdeeepbaaGreatDoorGpText
namespace Go.Proofs.YtfhfhjcdeeepbaaGreatDoor
open Go.RowKit
set_option linter.unusedVariables false
set_option linter.unusedSimpArgs false

theorem isC_a : isC [97] = true := by decide +kernel
theorem isC_b : isC [98] = true := by decide +kernel
theorem isC_c : isC [99] = true := by decide +kernel
theorem isC_d : isC [100] = true := by decide +kernel

/-- A row of texts that was just made. -/
theorem sv_new (w : World) (l : List (List UInt8)) : Sl (w.alloc (.cells (sv l).toArray 9)) (w.alloc (.cells (sv l).toArray 9)).heap.size (some ⟨w.heap.size, 0, none⟩) (sv l) := by
  have := Sl.new w (sv l).toArray 9
  simpa using this

end Go.Proofs.YtfhfhjcdeeepbaaGreatDoor
