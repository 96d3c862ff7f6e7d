/-
  Walk: the laws' buffer (filled).
-/
import Derived.Test.YtfhfhjcdeeepbaaGreatDoorGpAwake
namespace Go.Proofs.YtfhfhjcdeeepbaaGreatDoor
open Go.RowKit
set_option linter.unusedVariables false
set_option linter.unusedSimpArgs false

theorem gisC_wf {c : List Int} (h : wf c) : isC (eb c) = true := by
  unfold isC
  rw [rs_wf h, cls_one h]
  simp
/-- the clusters of the text that the laws look at -/
def cutL (s : ByteArray) : List (List UInt8) := (cls (rs (s.data.toList.take 200))).map eb
theorem cutL_is (s : ByteArray) : ∀ c ∈ cutL s, isC c = true := fun c hc => by
  obtain ⟨d, hd, rfl⟩ := List.mem_map.1 hc
  exact gisC_wf (cls_wf (rs_isR _) d hd)
theorem cutL_len (s : ByteArray) : (cutL s).length ≤ 200 := by
  unfold cutL
  rw [List.length_map]
  have := cls_len (s.data.toList.take 200)
  rw [List.length_take] at this
  omega
theorem gex_take (s : ByteArray) (k : Nat) : s.extract 0 k = ⟨(s.data.toList.take k).toArray⟩ := by
  apply ByteArray.ext
  apply Array.ext'
  rw [Lib.extract_data]
  simp
/-- what filled hands back -/
def FilP (w : World) (s : ByteArray) (a : Int) (e : Ending) (w' : World) : Prop :=
  ∃ g A n C f t, e = .returned (.pointer (some ⟨g, 0, none⟩)) ∧ GpAt w' w.heap.size g A n C 300 f t ((cutL s).take (clampN a (cutL s).length)) ((cutL s).drop (clampN a (cutL s).length)) ∧ Below w.heap.size w w'
end Go.Proofs.YtfhfhjcdeeepbaaGreatDoor
