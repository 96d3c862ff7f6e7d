/-
  What an argument of type []Op of layer 14 shows.
-/
import Derived.Test.YtfjiogockpmogaaDoorLaw
import Derived.Deep.Slices
namespace Go.Proofs.YtfjiogockpmogaaDoor
open Go.ChangeShapes Go.WideShapes Go.ChangeAt Go.RowKit Go.Deep
set_option linter.unusedVariables false
set_option linter.unusedSimpArgs false

structure OpH where
  kd : Int
  s : ByteArray
  t : ByteArray
def OpH.cells (o : OpH) : List Value := [.int .u8 o.kd, .string o.s, .string o.t]
theorem OpH.len (o : OpH) : o.cells.length = 3 := rfl
theorem OpH.one (o : OpH) : ∀ v ∈ o.cells, v.oneCell' = true := by
  intro v hv
  simp [OpH.cells] at hv
  rcases hv with rfl | rfl | rfl <;> rfl
theorem oph_size : (Tryd.prog.info? 34).map (·.size) = some 3 := by kernel_rfl
structure OpH.ok (o : OpH) : Prop where
  d0 : 0 ≤ o.kd
  d1 : o.kd ≤ 255
  s : o.s.size ≤ maxLen
  t : o.t.size ≤ maxLen
def ohc (l : List OpH) : List Value := l.flatMap OpH.cells
theorem ohc_length (l : List OpH) : (ohc l).length = l.length * 3 := by
  induction l with
  | nil => rfl
  | cons o l ih => simp only [ohc, List.flatMap_cons, List.length_append, List.length_cons] at *; rw [OpH.len]; omega
theorem ohc_get {l : List OpH} {k : Nat} {o : OpH} (h : l[k]? = some o) {j : Nat} {v : Value} (hv : o.cells[j]? = some v) : (ohc l)[k * 3 + j]? = some v := by
  have hj : j < 3 := by have := (List.getElem?_eq_some_iff.1 hv).1; rw [OpH.len] at this; exact this
  induction l generalizing k with
  | nil => simp at h
  | cons x l ih =>
    cases k with
    | zero =>
      simp at h
      subst h
      rw [ohc, List.flatMap_cons, List.getElem?_append_left (by rw [OpH.len]; omega), Nat.zero_mul, Nat.zero_add]
      exact hv
    | succ k =>
      rw [ohc, List.flatMap_cons, List.getElem?_append_right (by rw [OpH.len]; omega), OpH.len, show (k + 1) * 3 + j - 3 = k * 3 + j by omega]
      exact ih (by simpa using h)

section
variable {H : Type} {enc : TypeId × Value → H} {w : World} {base : Nat} {spare : Nat → Bool} {held : Bool}
theorem ewf64h {n : Int} (h : (Lit.int .i64 n).wf = true) : -9223372036854775808 ≤ n ∧ n ≤ 9223372036854775807 := by
  simp only [Lit.wf, IntKind.min, IntKind.max, IntKind.signed, IntKind.bits] at h
  simp at h
  omega
theorem ewfu8h {n : Int} (h : (Lit.int .u8 n).wf = true) : 0 ≤ n ∧ n ≤ 255 := by
  simp only [Lit.wf, IntKind.min, IntKind.max, IntKind.signed, IntKind.bits] at h
  simp at h
  omega
set_option maxRecDepth 100000 in
theorem oph_of_trod {fuel : Nat} {cs : List Value} {x : DataW H × List MemPlace} (h : DataW.trod enc Tryd.prog w base (fun _ => true) held fuel 34 cs = some x) : ∃ o : OpH, cs = o.cells ∧ o.ok := by
  obtain ⟨xs, n, _, _, hlen, hxl, hf⟩ := DataW.trod_struct Tryd.underlying34 h
  rw [show Tryd.prog.cellsOf 34 = 3 by kernel_rfl] at hlen
  match cs, hlen with
  | [c0, c1, c2], _ =>
    have ex : ∀ i, i < xs.length → xs[i]? = some (xs[i]!) := fun i hi => by
      rw [List.getElem?_eq_getElem hi, List.getElem!_eq_getElem?_getD, List.getElem?_eq_getElem hi]; rfl
    have hx3 : xs.length = 3 := hxl
    have ku : Tryd.prog.cellsOf 5 = 1 := by kernel_rfl
    have ks : Tryd.prog.cellsOf 9 = 1 := by kernel_rfl
    
    have f0 := (hf 0 _ rfl).trans (ex 0 (by omega))
    have f1 := (hf 1 _ rfl).trans (ex 1 (by omega))
    have f2 := (hf 2 _ rfl).trans (ex 2 (by omega))
    obtain ⟨n0, e0, _, w0⟩ := DataW.trod_int Tryd.underlying5 f0
    obtain ⟨s1, e1, _, w1⟩ := DataW.trod_string Tryd.underlying9 f1
    obtain ⟨s2, e2, _, w2⟩ := DataW.trod_string Tryd.underlying9 f2
    simp [ku] at e0
    simp [ks] at e1
    simp [ks] at e2
    obtain ⟨b2, b3⟩ := ewfu8h w0
    refine ⟨⟨n0, s1, s2⟩, ?_, ⟨b2, b3, w1, w2⟩⟩
    simp only [OpH.cells]
    rw [e0, e1, e2]

set_option maxRecDepth 100000 in
theorem open_opsH {W : World} {v : Value} {d : DataW H} {p : List MemPlace} (hok : Value.okWide Tryd.prog W .any base 22 v)
    (h : DataW.Trod enc Tryd.prog W 0 (fun _ => true) true 22 v d p) :
    ∃ A n c l, v = .slice A n c ∧ n = (l : List OpH).length ∧ n ≤ maxLen ∧ (∀ o ∈ l, o.ok) ∧ Sl W W.heap.size A (ohc l) := by
  obtain ⟨a0, len, cap, rfl⟩ := okWide_slice Tryd.underlying22 hok
  obtain ⟨fuel, hf⟩ := h
  rcases open_slice Tryd.underlying22 hf with ⟨hcs, _⟩ | ⟨a, len', cap', m, n', D, Pl, hcs, hb, hl, hm, hmm, hx, hi⟩
  · simp [Value.cells] at hcs
    obtain ⟨rfl, rfl, rfl⟩ := hcs
    exact ⟨none, 0, 0, [], rfl, rfl, by simp [maxLen], by simp, .inl rfl⟩
  · simp [Value.cells] at hcs
    obtain ⟨rfl, rfl, rfl⟩ := hcs
    simp at hmm
    subst hmm
    rw [show Tryd.prog.cellsOf 34 = 3 by kernel_rfl] at hi
    have key : ∀ k, k ≤ len → ∃ l : List OpH, l.length = k ∧ (∀ o ∈ l, o.ok) ∧ ∀ j u, (ohc l)[j]? = some u → W.cell? (a.add j) = some u := by
      intro k
      induction k with
      | zero => intro _; exact ⟨[], rfl, by simp, by simp [ohc]⟩
      | succ k ih =>
        intro hk
        obtain ⟨l, h1, h2, h3⟩ := ih (by omega)
        obtain ⟨cs', hc, ht⟩ := hi k (by omega)
        obtain ⟨_, hcl, hat⟩ := World.cells?_some hc
        obtain ⟨o, rfl, ho⟩ := oph_of_trod ht
        refine ⟨l ++ [o], by simp [h1], fun q hq => ?_, fun j u hu => ?_⟩
        · rcases List.mem_append.1 hq with hq | hq
          · exact h2 q hq
          · simp at hq; subst hq; exact ho
        · have e : ohc (l ++ [o]) = ohc l ++ o.cells := by simp [ohc]
          rw [e] at hu
          have hol := ohc_length l
          by_cases hj : j < (ohc l).length
          · rw [List.getElem?_append_left hj] at hu
            exact h3 j u hu
          · rw [List.getElem?_append_right (by omega)] at hu
            have hjl := (List.getElem?_eq_some_iff.1 hu).1
            rw [OpH.len] at hjl
            have := hat (j - (ohc l).length) hjl
            rw [hu, add_add, hol, h1] at this
            rw [show k * 3 + (j - k * 3) = j by omega] at this
            exact this
    obtain ⟨l, h1, h2, h3⟩ := key len (Nat.le_refl _)
    refine ⟨some a, len, _, l, rfl, h1.symm, Nat.le_trans hl hm, h2, ?_⟩
    rcases Nat.eq_zero_or_pos len with h0 | h0
    · subst h0
      have : l = [] := List.eq_nil_of_length_eq_zero h1
      subst this
      exact .inl rfl
    · obtain ⟨b, off, spot⟩ := a
      have hlen : 0 < (ohc l).length := by rw [ohc_length]; omega
      have hc0 := h3 0 _ (List.getElem?_eq_getElem hlen)
      have hspot : spot = none := by simpa [Addr.add] using World.cell?_spot hc0
      subst hspot
      have hc : ∀ j u, (ohc l)[j]? = some u → W.cell? ⟨b, off + j, none⟩ = some u := fun j u hu => by
        have := h3 j u hu
        rwa [Addr.add_mid] at this
      exact .inr ⟨b, off, rfl, World.block_lt_of_cell? W ⟨b, off + 0, none⟩ (hc 0 _ (List.getElem?_eq_getElem hlen)), hc⟩
end
end Go.Proofs.YtfjiogockpmogaaDoor
