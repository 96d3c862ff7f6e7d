/-
  Walks: few, stand.
-/
import Derived.Test.YtfhfhjcdeeepbaaGreatDoorGpFilled
namespace Go.Proofs.YtfhfhjcdeeepbaaGreatDoor
open Go.RowKit
set_option linter.unusedVariables false
set_option linter.unusedSimpArgs false

/-- the texts that the laws look at -/
def fewL (l : List (List UInt8)) : List (List UInt8) := (l.take 12).map fun s => s.take 80
theorem fewL_length (l : List (List UInt8)) : (fewL l).length = min 12 l.length := by simp [fewL]
theorem fewL_take (l : List (List UInt8)) (k : Nat) (hk : k < l.length) (h12 : k < 12) : fewL (l.take (k + 1)) = fewL (l.take k) ++ [(l[k]).take 80] := by
  unfold fewL
  rw [List.take_of_length_le (l := l.take (k + 1)) (by rw [List.length_take]; omega), List.take_of_length_le (l := l.take k) (by rw [List.length_take]; omega), List.take_succ_eq_append_getElem hk, List.map_append]
  rfl
theorem fewL_end (l : List (List UInt8)) (k : Nat) (h : k = l.length ∨ k = 12) : fewL (l.take k) = fewL l := by
  unfold fewL
  rcases h with rfl | rfl
  · rw [List.take_length]
  · rw [List.take_take]; rfl
theorem fewL_len (l : List (List UInt8)) : ∀ c ∈ fewL l, c.length ≤ 80 := fun c hc => by
  obtain ⟨d, _, rfl⟩ := List.mem_map.1 hc
  rw [List.length_take]; omega

end Go.Proofs.YtfhfhjcdeeepbaaGreatDoor
