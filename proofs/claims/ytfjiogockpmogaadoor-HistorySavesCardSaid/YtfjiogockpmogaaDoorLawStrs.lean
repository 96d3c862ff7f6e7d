/-
  What arguments of []string and []int show.
-/
import Derived.Test.YtfjiogockpmogaaDoorLaw
import Derived.SliceStrings
import Derived.Test.YtfjiogockpmogaaDoorGfF
namespace Go.Proofs.YtfjiogockpmogaaDoor
open Go.ChangeShapes Go.WideShapes Go.ChangeAt Go.RowKit
set_option linter.unusedVariables false
set_option maxRecDepth 100000

/-- A row of one-cell elements that lies in memory, as a list. -/
theorem sl_of_cellsG {α : Type} {w : World} {a : Addr} {n : Nat} {zs : List α} {V : α → Value} {d0 : α} (hz : zs.length ≥ n) (hcell : ∀ i, i < zs.length → w.cell? (a.add i) = some (V (zs.getD i d0))) :
    Sl w w.heap.size (some a) ((zs.take n).map V) := by
  rcases Nat.eq_zero_or_pos n with h0 | h0
  · subst h0; simp [Sl]
  · obtain ⟨b, off, spot⟩ := a
    have hc0 := hcell 0 (by omega)
    have hspot : spot = none := by simpa [Addr.add] using World.cell?_spot hc0
    subst hspot
    have hc : ∀ i, i < zs.length → w.cell? ⟨b, off + i, none⟩ = some (V (zs.getD i d0)) := by
      intro i hi
      have := hcell i hi
      unfold Addr.add at this
      split at this
      · next h => subst h; simpa using this
      · exact this
    refine .inr ⟨b, off, rfl, World.block_lt_of_cell? w _ (hc 0 (by omega)), fun j u hu => ?_⟩
    rw [List.getElem?_map, List.getElem?_take] at hu
    split at hu
    · next h =>
      have hj : j < zs.length := by omega
      rw [List.getElem?_eq_getElem hj] at hu
      simp at hu
      rw [hc j hj, ← hu]
      simp [List.getD_eq_getElem?_getD, hj]
    · simp at hu

section
variable {H : Type} {enc : TypeId × Value → H}
theorem open_i64s {W : World} {base : Nat} {v : Value} {d : DataW H} {p : List MemPlace} (hok : Value.okWide Tryd.prog W .any base 108 v)
    (h : DataW.Trod enc Tryd.prog W 0 (fun _ => true) true 108 v d p) :
    ∃ A n c l, v = .slice A n c ∧ n = (l : List Int).length ∧ n ≤ c ∧ c ≤ maxLen ∧ (A = none → c = 0) ∧ Sl W W.heap.size A (l.map (Value.int .i64)) := by
  obtain ⟨a0, len, cap, rfl⟩ := okWide_slice Tryd.underlying108 hok
  obtain ⟨fuel, hf⟩ := h
  rcases open_ints Tryd.underlying108 Tryd.underlying3 (by kernel_rfl) hf with ⟨hcs, _⟩ | ⟨x, l, c, zs, hcs, _, hl, hm, hz, _, hcell, hwz⟩
  · simp [Value.cells] at hcs
    obtain ⟨rfl, rfl, rfl⟩ := hcs
    exact ⟨none, 0, 0, [], rfl, rfl, by omega, by simp [maxLen], fun _ => rfl, .inl rfl⟩
  · simp [Value.cells] at hcs
    obtain ⟨rfl, rfl, rfl⟩ := hcs
    have hz' : zs.length = cap := by simpa using hz
    exact ⟨some x, len, cap, zs.take len, rfl, by simp; omega, hl, hm, (fun h => by cases h), sl_of_cellsG (n := len) (by omega) hcell⟩
theorem open_strs {W : World} {base : Nat} {v : Value} {d : DataW H} {p : List MemPlace} (hok : Value.okWide Tryd.prog W .any base 27 v)
    (h : DataW.Trod enc Tryd.prog W 0 (fun _ => true) true 27 v d p) :
    ∃ A n c l, v = .slice A n c ∧ n = (l : List (List UInt8)).length ∧ n ≤ c ∧ c ≤ maxLen ∧ (A = none → c = 0) ∧ Sl W W.heap.size A (sv l) ∧ ∀ s ∈ l, s.length ≤ maxLen := by
  obtain ⟨a0, len, cap, rfl⟩ := okWide_slice Tryd.underlying27 hok
  obtain ⟨fuel, hf⟩ := h
  rcases open_strings Tryd.underlying27 Tryd.underlying9 (by kernel_rfl) hf with ⟨hcs, _⟩ | ⟨x, l, c, zs, hcs, _, hl, hm, hz, _, hcell, hwz⟩
  · simp [Value.cells] at hcs
    obtain ⟨rfl, rfl, rfl⟩ := hcs
    exact ⟨none, 0, 0, [], rfl, rfl, by omega, by simp [maxLen], fun _ => rfl, .inl rfl, fun s hs => by cases hs⟩
  · simp [Value.cells] at hcs
    obtain ⟨rfl, rfl, rfl⟩ := hcs
    have hz' : zs.length = cap := by simpa using hz
    have hS := sl_of_cellsG (n := len) (V := Value.string) (by omega) hcell
    have e : (zs.take len).map Value.string = sv ((zs.take len).map fun z => z.data.toList) := by
      unfold sv
      rw [List.map_map]
      apply List.map_congr_left
      intro z hz
      simp
    rw [e] at hS
    refine ⟨some x, len, cap, (zs.take len).map fun z => z.data.toList, rfl, by simp; omega, hl, hm, (fun h => by cases h), hS, fun s hs => ?_⟩
    obtain ⟨z, hz, rfl⟩ := List.mem_map.1 hs
    have := hwz z (List.mem_of_mem_take hz)
    simpa using this
end
end Go.Proofs.YtfjiogockpmogaaDoor
