/-
  Walks: Back of a buffer that nobody made; told, Widths, Text, Find of it.
-/
import Derived.Test.YtfhfhjcdeeepbaaGreatDoorGpNobo
import Derived.Test.YtfhfhjcdeeepbaaGreatDoorRegT
import Derived.Outline
namespace Go.Proofs.YtfhfhjcdeeepbaaGreatDoor
open Go.RowKit Go.Shelf Go.Sort
attribute [local go_sem] Oper.semAt_some
set_option linter.unusedVariables false
set_option linter.unusedSimpArgs false

set_option maxHeartbeats 400000 in
theorem gback_any (p : Option Addr) (w : World) : Calls Tryz.prog 76 #[.pointer p] w fun e w' =>
    e = .returned (.func (.func 103) #[] #[.pointer (some ⟨w.heap.size, 0, none⟩)]) ∧ w' = w.alloc (.cells #[.pointer p] 43) := by
  go_enter Tryz.func76, Tryz.ntmps76
  go_wp2
  go_ret
  exact ⟨rfl, rfl⟩
set_option maxHeartbeats 400000 in
theorem sback_any (X : Option Addr) (n c : Nat) (w : World) : Calls Tryz.prog 104 #[.slice X n c] w fun e w' =>
    e = .returned (.func (.func 122) #[] #[.pointer (some ⟨w.heap.size, 0, none⟩)]) ∧ w' = w.alloc (.cells #[.slice X n c] 38) := by
  go_enter Tryz.func104, Tryz.ntmps104
  go_wp2
  go_ret
  exact ⟨rfl, rfl⟩

end Go.Proofs.YtfhfhjcdeeepbaaGreatDoor
