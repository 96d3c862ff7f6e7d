/-
  What an argument of []byte shows.
-/
import Derived.Test.YtfmkeeaenjeneaaGreatDoorLaw
import Derived.Test.YtfmkeeaenjeneaaGreatDoorGfA
namespace Go.Proofs.YtfmkeeaenjeneaaGreatDoor
open Go.ChangeShapes Go.WideShapes Go.ChangeAt Go.RowKit
set_option linter.unusedVariables false

theorem cell_lt {w : World} {b o : Nat} {v : Value} (h : w.cell? ⟨b, o, none⟩ = some v) : b < w.heap.size := by
  rcases Nat.lt_or_ge b w.heap.size with h' | h'
  · exact h'
  · simp [World.cell?, Array.getElem?_eq_none h'] at h

theorem bytes_of (zs : List Int) (h : ∀ n ∈ zs, 0 ≤ n ∧ n < 256) : zs.map (Value.int .u8) = bv (zs.map fun n => UInt8.ofNat n.toNat) := by
  unfold bv
  rw [List.map_map]
  refine List.map_congr_left fun n hn => ?_
  obtain ⟨h0, h1⟩ := h n hn
  have e : (UInt8.ofNat n.toNat).toNat = n.toNat % 256 := UInt8.toNat_ofNat'
  simp only [Function.comp, e]
  congr 1
  rw [Nat.mod_eq_of_lt (by omega)]
  omega

/-- A row of bytes that lies in memory, as a list. -/
theorem sl_of_cells {w : World} {a : Addr} {n : Nat} {zs : List Int} (hz : zs.length ≥ n) (hcell : ∀ i, i < zs.length → w.cell? (a.add i) = some (.int .u8 (zs.getD i 0))) (hw : ∀ m ∈ zs, (Lit.int .u8 m).wf = true) :
    ∃ l : List UInt8, l.length = n ∧ Sl w w.heap.size (some a) (bv l) := by
  have hb : ∀ m ∈ zs.take n, 0 ≤ m ∧ m < 256 := by
    intro m hm
    have := hw m (List.mem_of_mem_take hm)
    simp only [Lit.wf, IntKind.min, IntKind.max, IntKind.signed, IntKind.bits] at this
    simp at this
    omega
  refine ⟨(zs.take n).map fun n => UInt8.ofNat n.toNat, by simp; omega, ?_⟩
  rw [← bytes_of _ hb]
  rcases Nat.eq_zero_or_pos n with h0 | h0
  · subst h0; simp [Sl]
  · obtain ⟨b, off, spot⟩ := a
    have hc0 := hcell 0 (by omega)
    have hspot : spot = none := by simpa [Addr.add] using World.cell?_spot hc0
    subst hspot
    have hc : ∀ i, i < zs.length → w.cell? ⟨b, off + i, none⟩ = some (.int .u8 (zs.getD i 0)) := by
      intro i hi
      have := hcell i hi
      unfold Addr.add at this
      split at this
      · next h => subst h; simpa using this
      · exact this
    refine .inr ⟨b, off, rfl, cell_lt (hc 0 (by omega)), fun j u hu => ?_⟩
    rw [List.getElem?_map, List.getElem?_take] at hu
    split at hu
    · next h =>
      have hj : j < zs.length := by omega
      rw [List.getElem?_eq_getElem hj] at hu
      simp at hu
      rw [hc j hj, ← hu]
      simp [List.getD_eq_getElem?_getD, hj]
    · simp at hu

section
variable {H : Type} {enc : TypeId × Value → H}
set_option maxRecDepth 100000 in
theorem open_bytes {W : World} {base : Nat} {v : Value} {d : DataW H} {p : List MemPlace} (hok : Value.okWide Tryz.prog W .any base 32 v)
    (h : DataW.Trod enc Tryz.prog W 0 (fun _ => true) true 32 v d p) :
    ∃ A n c l, v = .slice A n c ∧ n = (l : List UInt8).length ∧ n ≤ c ∧ c ≤ maxLen ∧ (A = none → c = 0) ∧ Sl W W.heap.size A (bv l) := by
  obtain ⟨a0, len, cap, rfl⟩ := okWide_slice Tryz.underlying32 hok
  obtain ⟨fuel, hf⟩ := h
  rcases open_ints Tryz.underlying32 Tryz.underlying5 (by kernel_rfl) hf with ⟨hcs, _⟩ | ⟨x, l, c, zs, hcs, _, hl, hm, hz, _, hcell, hwz⟩
  · simp [Value.cells] at hcs
    obtain ⟨rfl, rfl, rfl⟩ := hcs
    exact ⟨none, 0, 0, [], rfl, rfl, by omega, by simp [maxLen], fun _ => rfl, .inl rfl⟩
  · simp [Value.cells] at hcs
    obtain ⟨rfl, rfl, rfl⟩ := hcs
    have hz' : zs.length = cap := by simpa using hz
    obtain ⟨k, hk, hS⟩ := sl_of_cells (n := len) (by omega) hcell hwz
    exact ⟨some x, len, cap, k, rfl, hk.symm, hl, hm, (fun h => by cases h), hS⟩
end
end Go.Proofs.YtfmkeeaenjeneaaGreatDoor
