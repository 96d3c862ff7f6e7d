/-
  What an argument of type []api.Part shows.
-/
import Derived.Test.YtdodogehlnchlaaLaw
import Derived.Deep.Slices
import Derived.Test.YtdodogehlnchlaaLyMath
namespace Go.Proofs.Ytdodogehlnchlaa
open Go.ChangeShapes Go.WideShapes Go.ChangeAt Go.RowKit Go.Deep
set_option linter.unusedVariables false
set_option linter.unusedSimpArgs false

section
variable {H : Type} {enc : TypeId × Value → H} {w : World} {base : Nat} {spare : Nat → Bool} {held : Bool}
set_option maxRecDepth 100000 in
theorem pt_of_trod {fuel : Nat} {cs : List Value} {x : DataW H × List MemPlace} (h : DataW.trod enc Try.prog w base (fun _ => true) held fuel 43 cs = some x) : ∃ o : Pt, cs = ptC o := by
  obtain ⟨xs, n, _, _, hlen, hxl, hf⟩ := DataW.trod_struct Try.underlying43 h
  rw [show Try.prog.cellsOf 43 = 4 by kernel_rfl] at hlen
  match cs, hlen with
  | [c0, c1, c2, c3], _ =>
    have ex : ∀ i, i < xs.length → xs[i]? = some (xs[i]!) := fun i hi => by
      rw [List.getElem?_eq_getElem hi, List.getElem!_eq_getElem?_getD, List.getElem?_eq_getElem hi]; rfl
    have hx3 : xs.length = 4 := hxl
    have ku : Try.prog.cellsOf 3 = 1 := by kernel_rfl
    have f0 := (hf 0 _ rfl).trans (ex 0 (by omega))
    have f1 := (hf 1 _ rfl).trans (ex 1 (by omega))
    have f2 := (hf 2 _ rfl).trans (ex 2 (by omega))
    have f3 := (hf 3 _ rfl).trans (ex 3 (by omega))
    obtain ⟨n0, e0, _, w0⟩ := DataW.trod_int Try.underlying3 f0
    obtain ⟨n1, e1, _, w1⟩ := DataW.trod_int Try.underlying3 f1
    obtain ⟨n2, e2, _, w2⟩ := DataW.trod_int Try.underlying3 f2
    obtain ⟨n3, e3, _, w3⟩ := DataW.trod_int Try.underlying3 f3
    simp [ku] at e0
    simp [ku] at e1
    simp [ku] at e2
    simp [ku] at e3
    refine ⟨⟨n0, n1, n2, n3⟩, ?_⟩
    simp only [ptC]
    rw [e0, e1, e2, e3]

set_option maxRecDepth 100000 in
theorem open_pts {W : World} {v : Value} {d : DataW H} {p : List MemPlace} (hok : Value.okWide Try.prog W .any base 22 v)
    (h : DataW.Trod enc Try.prog W 0 (fun _ => true) true 22 v d p) :
    ∃ A n c P, v = .slice A n c ∧ n ≤ c ∧ Sl W W.heap.size A (ptB P n) := by
  obtain ⟨a0, len, cap, rfl⟩ := okWide_slice Try.underlying22 hok
  obtain ⟨fuel, hf⟩ := h
  rcases open_slice Try.underlying22 hf with ⟨hcs, _⟩ | ⟨a, len', cap', m, n', D, Pl, hcs, hb, hl, hm, hmm, hx, hi⟩
  · simp [Value.cells] at hcs
    obtain ⟨rfl, rfl, rfl⟩ := hcs
    exact ⟨none, 0, 0, fun _ => ⟨0, 0, 0, 0⟩, rfl, Nat.le_refl _, .inl rfl⟩
  · simp [Value.cells] at hcs
    obtain ⟨rfl, rfl, rfl⟩ := hcs
    simp at hmm
    subst hmm
    rw [show Try.prog.cellsOf 43 = 4 by kernel_rfl] at hi
    have key : ∀ k, k ≤ len → ∃ P : Nat → Pt, ∀ j u, (ptB P k)[j]? = some u → W.cell? (a.add j) = some u := by
      intro k
      induction k with
      | zero => intro _; exact ⟨fun _ => ⟨0, 0, 0, 0⟩, by simp [ptB, flB]⟩
      | succ k ih =>
        intro hk
        obtain ⟨P, h3⟩ := ih (by omega)
        obtain ⟨cs', hc, ht⟩ := hi k (by omega)
        obtain ⟨_, hcl, hat⟩ := World.cells?_some hc
        obtain ⟨o, rfl⟩ := pt_of_trod ht
        refine ⟨fun i => if i = k then o else P i, fun j u hu => ?_⟩
        have e : ptB (fun i => if i = k then o else P i) (k + 1) = ptB P k ++ ptC o := by
          unfold ptB
          rw [flB_succ]
          have e1 : flB (fun i => ptC ((fun i => if i = k then o else P i) i)) k = flB (fun i => ptC (P i)) k := flB_congr fun i hi => by
            show ptC (if i = k then o else P i) = _
            rw [if_neg (by omega)]
          rw [e1]
          show _ ++ ptC (if k = k then o else P k) = _
          rw [if_pos rfl]
        rw [e] at hu
        have hol := ptB_len P k
        by_cases hj : j < (ptB P k).length
        · rw [List.getElem?_append_left hj] at hu
          exact h3 j u hu
        · rw [List.getElem?_append_right (by omega)] at hu
          have hjl := (List.getElem?_eq_some_iff.1 hu).1
          rw [ptC_len] at hjl
          have := hat (j - (ptB P k).length) hjl
          rw [hu, add_add, hol] at this
          rw [show k * 4 + (j - k * 4) = j by omega] at this
          exact this
    obtain ⟨P, h3⟩ := key len (Nat.le_refl _)
    refine ⟨some a, len, _, P, rfl, hl, ?_⟩
    rcases Nat.eq_zero_or_pos len with h0 | h0
    · subst h0
      exact .inl rfl
    · obtain ⟨b, off, spot⟩ := a
      have hlen : 0 < (ptB P len).length := by rw [ptB_len]; omega
      have hc0 := h3 0 _ (List.getElem?_eq_getElem hlen)
      have hspot : spot = none := by simpa [Addr.add] using World.cell?_spot hc0
      subst hspot
      have hc : ∀ j u, (ptB P len)[j]? = some u → W.cell? ⟨b, off + j, none⟩ = some u := fun j u hu => by
        have := h3 j u hu
        rwa [Addr.add_mid] at this
      exact .inr ⟨b, off, rfl, World.block_lt_of_cell? W ⟨b, off + 0, none⟩ (hc 0 _ (List.getElem?_eq_getElem hlen)), hc⟩
end
end Go.Proofs.Ytdodogehlnchlaa
