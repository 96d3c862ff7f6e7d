/-
  What an argument of []int32 shows; an int's bounds.
-/
import Derived.Test.YtfmkeeaenjeneaaGreatDoorLaw
namespace Go.Proofs.YtfmkeeaenjeneaaGreatDoor
open Go.ChangeShapes Go.WideShapes Go.ChangeAt Go.RowKit
set_option linter.unusedVariables false
set_option maxRecDepth 100000

theorem cell_lt32 {w : World} {b o : Nat} {v : Value} (h : w.cell? ⟨b, o, none⟩ = some v) : b < w.heap.size := by
  rcases Nat.lt_or_ge b w.heap.size with h' | h'
  · exact h'
  · simp [World.cell?, Array.getElem?_eq_none h'] at h

/-- A row of int32 that lies in memory, as a list. -/
theorem sl_of_cells32 {w : World} {a : Addr} {n : Nat} {zs : List Int} (hz : zs.length ≥ n) (hcell : ∀ i, i < zs.length → w.cell? (a.add i) = some (.int .i32 (zs.getD i 0))) :
    Sl w w.heap.size (some a) ((zs.take n).map (Value.int .i32)) := by
  rcases Nat.eq_zero_or_pos n with h0 | h0
  · subst h0; simp [Sl]
  · obtain ⟨b, off, spot⟩ := a
    have hc0 := hcell 0 (by omega)
    have hspot : spot = none := by simpa [Addr.add] using World.cell?_spot hc0
    subst hspot
    have hc : ∀ i, i < zs.length → w.cell? ⟨b, off + i, none⟩ = some (.int .i32 (zs.getD i 0)) := by
      intro i hi
      have := hcell i hi
      unfold Addr.add at this
      split at this
      · next h => subst h; simpa using this
      · exact this
    refine .inr ⟨b, off, rfl, cell_lt32 (hc 0 (by omega)), fun j u hu => ?_⟩
    rw [List.getElem?_map, List.getElem?_take] at hu
    split at hu
    · next h =>
      have hj : j < zs.length := by omega
      rw [List.getElem?_eq_getElem hj] at hu
      simp at hu
      rw [hc j hj, ← hu]
      simp [List.getD_eq_getElem?_getD, hj]
    · simp at hu

section
variable {H : Type} {enc : TypeId × Value → H}
theorem open_int32s {W : World} {base : Nat} {v : Value} {d : DataW H} {p : List MemPlace} (hok : Value.okWide Tryz.prog W .any base 168 v)
    (h : DataW.Trod enc Tryz.prog W 0 (fun _ => true) true 168 v d p) :
    ∃ A n c l, v = .slice A n c ∧ n = (l : List Int).length ∧ n ≤ c ∧ c ≤ maxLen ∧ (A = none → c = 0) ∧ Sl W W.heap.size A (l.map (Value.int .i32)) := by
  obtain ⟨a0, len, cap, rfl⟩ := okWide_slice Tryz.underlying168 hok
  obtain ⟨fuel, hf⟩ := h
  rcases open_ints Tryz.underlying168 Tryz.underlying21 (by kernel_rfl) hf with ⟨hcs, _⟩ | ⟨x, l, c, zs, hcs, _, hl, hm, hz, _, hcell, hwz⟩
  · simp [Value.cells] at hcs
    obtain ⟨rfl, rfl, rfl⟩ := hcs
    exact ⟨none, 0, 0, [], rfl, rfl, by omega, by simp [maxLen], fun _ => rfl, .inl rfl⟩
  · simp [Value.cells] at hcs
    obtain ⟨rfl, rfl, rfl⟩ := hcs
    have hz' : zs.length = cap := by simpa using hz
    exact ⟨some x, len, cap, zs.take len, rfl, by simp; omega, hl, hm, (fun h => by cases h), sl_of_cells32 (n := len) (by omega) hcell⟩

/-- An int's bounds. -/
theorem open_i64 {W : World} {base : Nat} {t : TypeId} {v : Value} {d : DataW H} {p : List MemPlace} (ht : Tryz.prog.underlying t = some (.int .i64)) (hok : Value.okWide Tryz.prog W .any base t v)
    (h : DataW.Trod enc Tryz.prog W 0 (fun _ => true) true t v d p) : ∃ n : Int, v = .int .i64 n ∧ -9223372036854775808 ≤ n ∧ n ≤ 9223372036854775807 := by
  obtain ⟨n, rfl, rfl, rfl, hw⟩ := open_int ht hok h
  simp only [Lit.wf, IntKind.min, IntKind.max, IntKind.signed, IntKind.bits] at hw
  simp at hw
  exact ⟨n, rfl, by omega⟩
theorem open_u8 {W : World} {base : Nat} {t : TypeId} {v : Value} {d : DataW H} {p : List MemPlace} (ht : Tryz.prog.underlying t = some (.int .u8)) (hok : Value.okWide Tryz.prog W .any base t v)
    (h : DataW.Trod enc Tryz.prog W 0 (fun _ => true) true t v d p) : ∃ n : Int, v = .int .u8 n ∧ 0 ≤ n ∧ n ≤ 255 := by
  obtain ⟨n, rfl, rfl, rfl, hw⟩ := open_int ht hok h
  simp only [Lit.wf, IntKind.min, IntKind.max, IntKind.signed, IntKind.bits] at hw
  simp at hw
  exact ⟨n, rfl, by omega⟩
theorem open_i8 {W : World} {base : Nat} {t : TypeId} {v : Value} {d : DataW H} {p : List MemPlace} (ht : Tryz.prog.underlying t = some (.int .i8)) (hok : Value.okWide Tryz.prog W .any base t v)
    (h : DataW.Trod enc Tryz.prog W 0 (fun _ => true) true t v d p) : ∃ n : Int, v = .int .i8 n ∧ -128 ≤ n ∧ n ≤ 127 := by
  obtain ⟨n, rfl, rfl, rfl, hw⟩ := open_int ht hok h
  simp only [Lit.wf, IntKind.min, IntKind.max, IntKind.signed, IntKind.bits] at hw
  simp at hw
  exact ⟨n, rfl, by omega⟩
end
end Go.Proofs.YtfmkeeaenjeneaaGreatDoor
