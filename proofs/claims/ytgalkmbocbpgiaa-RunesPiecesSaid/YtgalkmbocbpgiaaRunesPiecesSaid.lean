/-
  RunesPieces: for all lists of byte slices the law returns true and writes nothing that was there. No condition.
-/
import Derived.Test.YtgalkmbocbpgiaaRnLaw3
import Derived.Test.YtgalkmbocbpgiaaLawBytes
import Derived.Deep.Matrix
namespace Go.Proofs.Ytgalkmbocbpgiaa
open Go.ChangeShapes Go.WideShapes Go.ChangeAt Go.RowKit Go.Deep
set_option linter.unusedVariables false

section
variable {H : Type} {enc : TypeId × Value → H}
theorem open_bytess {W : World} {base : Nat} {v : Value} {d : DataW H} {p : List MemPlace} (hok : Value.okWide Try.prog W .any base 40 v)
    (h : DataW.Trod enc Try.prog W 0 (fun _ => true) true 40 v d p) :
    ∃ A n c ps, v = .slice A n c ∧ n = (ps : List Pc).length ∧ n ≤ maxLen ∧ Sl W W.heap.size A (pv ps) ∧ ∀ p ∈ ps, p.ok W := by
  obtain ⟨a0, len, cap, rfl⟩ := okWide_slice Try.underlying40 hok
  obtain ⟨fuel, hf⟩ := h
  rcases open_int_rows Try.underlying40 Try.underlying22 Try.underlying5 (by kernel_rfl) (by kernel_rfl) hf with ⟨hcs, _⟩ | ⟨a, l, c, A, L, C, Z, hcs, _, hl, hm, _, hr⟩
  · simp [Value.cells] at hcs
    obtain ⟨rfl, rfl, rfl⟩ := hcs
    exact ⟨none, 0, 0, [], rfl, rfl, by simp [maxLen], .inl rfl, fun p hp => by cases hp⟩
  · simp [Value.cells] at hcs
    obtain ⟨rfl, rfl, rfl⟩ := hcs
    have each : ∀ r, ∃ k : List UInt8, r < len → k.length = L r ∧ Sl W W.heap.size (A r) (bv k) := by
      intro r
      by_cases hrl : r < len
      · obtain ⟨h1, h2, h3, h4, h5, h6, h7⟩ := hr r (by omega)
        cases hA : A r with
        | none =>
          have hz := h6 hA
          exact ⟨[], fun _ => ⟨by simp; omega, .inl rfl⟩⟩
        | some a' =>
          obtain ⟨_, hc⟩ := h7 a' hA
          obtain ⟨k, hk, hS⟩ := sl_of_cells (n := L r) (by omega) (fun i hi => hc i (by omega)) h5
          exact ⟨k, fun _ => ⟨hk, hS⟩⟩
      · exact ⟨[], fun h => absurd h hrl⟩
    obtain ⟨f, hf⟩ := Classical.axiomOfChoice each
    refine ⟨some a, len, cap, (List.range len).map fun r => ⟨A r, L r, C r, f r⟩, rfl, by simp, Nat.le_trans hl hm, ?_, ?_⟩
    · rcases Nat.eq_zero_or_pos len with h0 | h0
      · subst h0; simp [pv, Sl]
      · obtain ⟨b, off, spot⟩ := a
        have hc0 := (hr 0 (by omega)).1
        have hspot : spot = none := by simpa [Addr.add] using World.cell?_spot hc0
        subst hspot
        have hc : ∀ r, r < cap → W.cell? ⟨b, off + r, none⟩ = some (.slice (A r) (L r) (C r)) := by
          intro r hrc
          have := (hr r hrc).1
          unfold Addr.add at this
          split at this
          · next h => subst h; simpa using this
          · exact this
        refine .inr ⟨b, off, rfl, cell_lt (hc 0 (by omega)), fun j u hu => ?_⟩
        have hj : j < len := by
          have := (List.getElem?_eq_some_iff.1 hu).1
          simpa [pv] using this
        rw [hc j (by omega), ← hu]
        simp [pv, hj]
    · intro p hp
      obtain ⟨r, hr', rfl⟩ := List.mem_map.1 hp
      have hrl : r < len := by simpa using hr'
      obtain ⟨h1, h2, h3, h4, h5, h6, h7⟩ := hr r (by omega)
      exact ⟨(hf r hrl).1.symm, h2, h3, h6, (hf r hrl).2⟩
end

set_option maxRecDepth 100000 in
theorem runesPieces_lifted (os : Os) (started : os.Started) (H : Type) (enc : TypeId × Value → H) :
    ReturnsInHanded {} Try.checked os 5 .any (Rows.runesPiecesSpec.pre6 enc Try.prog Try.f5 Rows.runesPiecesRow.domain false) (Rows.runesPiecesSpec.post enc Try.prog Try.f5 false true false false) := by
  refine returnsInHanded_of_change (C := Try.checked) own started (by kernel_rfl) Try.func5
    (ChangeSpec.witness6 (enc := enc) (C := Try.checked) false ⟨#[], #[.slice none 0 0], []⟩ 8 (by kernel_rfl) (by kernel_rfl) (by kernel_rfl) (by kernel_rfl)) ?_
  intro W base args ds gs before hval hW hcnd _
  refine law_frame (T := 4) Try.underlying4 rfl rfl (by kernel_rfl) ?_ ?_ W base args ds gs before hval hW
  · intro ds hl
    match ds, hl with
    | [_], _ => exact ⟨rfl, rfl, rfl⟩
  · intro W base args ds p hval hA
    rw [Try.params5] at hA hval
    obtain ⟨v0, vs0, d0, ds0, p0, q0, hargs, rfl, rfl, h0, r0⟩ := trodAll_cons hA
    obtain ⟨rfl, rfl, rfl⟩ := trodAll_nil r0
    obtain rfl : args = #[v0] := by cases args; simp_all
    obtain ⟨A, n, c, ps, rfl, hn, hnm, hS, hps⟩ := open_bytess (hval 0 40 v0 rfl rfl) h0
    exact law3_walk A n c ps W hn (by simp only [maxLen] at hnm; omega) hS hps

theorem runesPieces_holds : Rows.RunesPiecesSaid :=
  OpenClaim.holds_of_wide 5 Try.f5 rfl rfl rfl rfl rfl rfl rfl ⟨rfl, rfl, rfl, rfl, rfl⟩ rfl rfl rfl rfl rfl (by kernel_rfl) Try.func5 (by kernel_rfl)
    (of_decide_eq_true (by kernel_rfl)) (by unfold Func.isWrapper; rw [if_neg (by decide +kernel)]; exact ⟨rfl, rfl⟩)
    (fun os started H enc _ => runesPieces_lifted os started H enc)
#print axioms runesPieces_holds
end Go.Proofs.Ytgalkmbocbpgiaa
