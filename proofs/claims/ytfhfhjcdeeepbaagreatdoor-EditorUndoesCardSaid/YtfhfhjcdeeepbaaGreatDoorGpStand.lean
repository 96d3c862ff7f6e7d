/-
  Walk: stand.
-/
import Derived.Test.YtfhfhjcdeeepbaaGreatDoorGpFew
namespace Go.Proofs.YtfhfhjcdeeepbaaGreatDoor
open Go.RowKit
set_option linter.unusedVariables false
set_option linter.unusedSimpArgs false

/-- are the texts the clusters from a place on? -/
def standB (line l : List (List UInt8)) (a : Nat) : Bool := decide ((line.drop a).take l.length = l)
theorem stand_len {line l : List (List UInt8)} {a : Nat} (h : standB line l a = true) : l.length ≤ line.length - a := by
  have e : (line.drop a).take l.length = l := of_decide_eq_true h
  have := congrArg List.length e
  rw [List.length_take, List.length_drop] at this
  omega
theorem str_ne {a b : List UInt8} (h : a ≠ b) : (⟨a.toArray⟩ : ByteArray) ≠ ⟨b.toArray⟩ := fun e => h (by injection e with e; exact List.toArray_inj e)

end Go.Proofs.YtfhfhjcdeeepbaaGreatDoor
