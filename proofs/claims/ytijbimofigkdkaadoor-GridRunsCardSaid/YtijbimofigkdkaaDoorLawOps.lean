/-
  What arguments of type Op and []Op show.
-/
import Derived.Test.YtijbimofigkdkaaDoorLawBytes
import Derived.Test.YtijbimofigkdkaaDoorGrFill
import Derived.Deep.Slices
namespace Go.Proofs.YtijbimofigkdkaaDoor
open Go.ChangeShapes Go.WideShapes Go.ChangeAt Go.RowKit Go.Deep
set_option linter.unusedVariables false
set_option linter.unusedSimpArgs false

section
variable {H : Type} {enc : TypeId × Value → H} {w : World} {base : Nat} {spare : Nat → Bool} {held : Bool}
theorem wf64 {n : Int} (h : (Lit.int .i64 n).wf = true) : -9223372036854775808 ≤ n ∧ n ≤ 9223372036854775807 := by
  simp only [Lit.wf, IntKind.min, IntKind.max, IntKind.signed, IntKind.bits] at h
  simp at h
  omega
theorem wfu8 {n : Int} (h : (Lit.int .u8 n).wf = true) : 0 ≤ n ∧ n ≤ 255 := by
  simp only [Lit.wf, IntKind.min, IntKind.max, IntKind.signed, IntKind.bits] at h
  simp at h
  omega
set_option maxRecDepth 100000 in
theorem sty_of_trod {fuel : Nat} {cs : List Value} {x : DataW H × List MemPlace} (h : DataW.trod enc Tryd.prog w base spare held fuel 34 cs = some x) : ∃ y : Sty, cs = y.cells := by
  obtain ⟨xs, n, _, _, hlen, hxl, hf⟩ := DataW.trod_struct Tryd.underlying34 h
  rw [show Tryd.prog.cellsOf 34 = 5 by kernel_rfl] at hlen
  match cs, hlen with
  | [c0, c1, c2, c3, c4], _ =>
    have ex : ∀ i, i < xs.length → xs[i]? = some (xs[i]!) := fun i hi => by
      rw [List.getElem?_eq_getElem hi, List.getElem!_eq_getElem?_getD, List.getElem?_eq_getElem hi]; rfl
    have hx5 : xs.length = 5 := hxl
    have kb : Tryd.prog.cellsOf 4 = 1 := by kernel_rfl
    have ki : Tryd.prog.cellsOf 3 = 1 := by kernel_rfl
    have f0 := (hf 0 _ rfl).trans (ex 0 (by omega))
    have f1 := (hf 1 _ rfl).trans (ex 1 (by omega))
    have f2 := (hf 2 _ rfl).trans (ex 2 (by omega))
    have f3 := (hf 3 _ rfl).trans (ex 3 (by omega))
    have f4 := (hf 4 _ rfl).trans (ex 4 (by omega))
    obtain ⟨b0, e0, _⟩ := DataW.trod_bool Tryd.underlying4 f0
    obtain ⟨b1, e1, _⟩ := DataW.trod_bool Tryd.underlying4 f1
    obtain ⟨b2, e2, _⟩ := DataW.trod_bool Tryd.underlying4 f2
    obtain ⟨n3, e3, _⟩ := DataW.trod_int Tryd.underlying3 f3
    obtain ⟨n4, e4, _⟩ := DataW.trod_int Tryd.underlying3 f4
    simp [kb] at e0 e1 e2
    simp [ki] at e3 e4
    exact ⟨⟨b0, b1, b2, n3, n4⟩, by rw [e0, e1, e2, e3, e4]; rfl⟩
theorem str_eta (s : ByteArray) : s = ⟨s.data.toList.toArray⟩ := by
  apply ByteArray.ext; simp
set_option maxRecDepth 100000 in
theorem op_of_trod {fuel : Nat} {cs : List Value} {x : DataW H × List MemPlace} (h : DataW.trod enc Tryd.prog w base spare held fuel 36 cs = some x) : ∃ o : OpV, cs = o.cells ∧ o.ok := by
  obtain ⟨xs, n, _, _, hlen, hxl, hf⟩ := DataW.trod_struct Tryd.underlying36 h
  rw [show Tryd.prog.cellsOf 36 = 12 by kernel_rfl] at hlen
  match cs, hlen with
  | [c0, c1, c2, c3, c4, c5, c6, c7, c8, c9, c10, c11], _ =>
    have ex : ∀ i, i < xs.length → xs[i]? = some (xs[i]!) := fun i hi => by
      rw [List.getElem?_eq_getElem hi, List.getElem!_eq_getElem?_getD, List.getElem?_eq_getElem hi]; rfl
    have hx8 : xs.length = 8 := hxl
    have ku : Tryd.prog.cellsOf 5 = 1 := by kernel_rfl
    have ki : Tryd.prog.cellsOf 3 = 1 := by kernel_rfl
    have ks : Tryd.prog.cellsOf 9 = 1 := by kernel_rfl
    have ky : Tryd.prog.cellsOf 34 = 5 := by kernel_rfl
    have f0 := (hf 0 _ rfl).trans (ex 0 (by omega))
    have f1 := (hf 1 _ rfl).trans (ex 1 (by omega))
    have f2 := (hf 2 _ rfl).trans (ex 2 (by omega))
    have f3 := (hf 3 _ rfl).trans (ex 3 (by omega))
    have f4 := (hf 4 _ rfl).trans (ex 4 (by omega))
    have f5 := (hf 5 _ rfl).trans (ex 5 (by omega))
    have f6 := (hf 6 _ rfl).trans (ex 6 (by omega))
    have f7 := (hf 7 _ rfl).trans (ex 7 (by omega))
    obtain ⟨n0, e0, _, w0⟩ := DataW.trod_int Tryd.underlying5 f0
    obtain ⟨n1, e1, _, w1⟩ := DataW.trod_int Tryd.underlying3 f1
    obtain ⟨n2, e2, _, w2⟩ := DataW.trod_int Tryd.underlying3 f2
    obtain ⟨s3, e3, _, w3⟩ := DataW.trod_string Tryd.underlying9 f3
    obtain ⟨n4, e4, _, w4⟩ := DataW.trod_int Tryd.underlying3 f4
    obtain ⟨y5, e5⟩ := sty_of_trod f5
    obtain ⟨n6, e6, _, w6⟩ := DataW.trod_int Tryd.underlying3 f6
    obtain ⟨n7, e7, _, w7⟩ := DataW.trod_int Tryd.underlying3 f7
    simp [ku] at e0
    simp [ki] at e1 e2 e4 e6 e7
    simp [ks] at e3
    simp [ky, Sty.cells] at e5
    obtain ⟨a1, a2⟩ := wf64 w1
    obtain ⟨a3, a4⟩ := wf64 w2
    obtain ⟨a5, a6⟩ := wf64 w4
    obtain ⟨a7, a8⟩ := wf64 w6
    obtain ⟨a9, b1⟩ := wf64 w7
    obtain ⟨b2, b3⟩ := wfu8 w0

    refine ⟨⟨n0, n1, n2, s3.data.toList, n4, y5, n6, n7⟩, ?_, ⟨b2, b3, ?_, a1, a2, a3, a4, a5, a6, a7, a8, a9, b1⟩⟩
    · have hs3 := str_eta s3
      simp only [OpV.cells]
      rw [← hs3, e0, e1, e2, e3, e4, e6, e7, e5.1, e5.2.1, e5.2.2.1, e5.2.2.2.1, e5.2.2.2.2]
    · show s3.data.toList.length ≤ _
      have : s3.data.toList.length = s3.size := rfl
      unfold maxLen at w3
      omega

set_option maxRecDepth 100000 in
theorem open_op {W : World} {v : Value} {d : DataW H} {p : List MemPlace} (hok : Value.okWide Tryd.prog W .any base 36 v)
    (h : DataW.Trod enc Tryd.prog W 0 (fun _ => true) true 36 v d p) : ∃ o : OpV, v = .agg o.cells.toArray ∧ o.ok := by
  obtain ⟨cs, rfl, hsz⟩ := okWide_struct Tryd.underlying36 hok
  obtain ⟨fuel, hf⟩ := h
  obtain ⟨o, ho, h2⟩ := op_of_trod hf
  refine ⟨o, ?_, h2⟩
  rw [← ho]
  simp [Value.cells]

set_option maxRecDepth 100000 in
theorem open_ops {W : World} {v : Value} {d : DataW H} {p : List MemPlace} (hok : Value.okWide Tryd.prog W .any base 22 v)
    (h : DataW.Trod enc Tryd.prog W 0 (fun _ => true) true 22 v d p) :
    ∃ A n c l, v = .slice A n c ∧ n = (l : List OpV).length ∧ n ≤ maxLen ∧ (∀ o ∈ l, o.ok) ∧ Sl W W.heap.size A (oc l) := by
  obtain ⟨a0, len, cap, rfl⟩ := okWide_slice Tryd.underlying22 hok
  obtain ⟨fuel, hf⟩ := h
  rcases open_slice Tryd.underlying22 hf with ⟨hcs, _⟩ | ⟨a, len', cap', m, n', D, Pl, hcs, hb, hl, hm, hmm, hx, hi⟩
  · simp [Value.cells] at hcs
    obtain ⟨rfl, rfl, rfl⟩ := hcs
    exact ⟨none, 0, 0, [], rfl, rfl, by simp [maxLen], by simp, .inl rfl⟩
  · simp [Value.cells] at hcs
    obtain ⟨rfl, rfl, rfl⟩ := hcs
    simp at hmm
    subst hmm
    rw [show Tryd.prog.cellsOf 36 = 12 by kernel_rfl] at hi
    have key : ∀ k, k ≤ len → ∃ l : List OpV, l.length = k ∧ (∀ o ∈ l, o.ok) ∧ ∀ j u, (oc l)[j]? = some u → W.cell? (a.add j) = some u := by
      intro k
      induction k with
      | zero => intro _; exact ⟨[], rfl, by simp, by simp [oc]⟩
      | succ k ih =>
        intro hk
        obtain ⟨l, h1, h2, h3⟩ := ih (by omega)
        obtain ⟨cs', hc, ht⟩ := hi k (by omega)
        obtain ⟨_, hcl, hat⟩ := World.cells?_some hc
        obtain ⟨o, rfl, ho⟩ := op_of_trod ht
        refine ⟨l ++ [o], by simp [h1], fun q hq => ?_, fun j u hu => ?_⟩
        · rcases List.mem_append.1 hq with hq | hq
          · exact h2 q hq
          · simp at hq; subst hq; exact ho
        · have e : oc (l ++ [o]) = oc l ++ o.cells := by simp [oc]
          rw [e] at hu
          have hol := oc_length l
          by_cases hj : j < (oc l).length
          · rw [List.getElem?_append_left hj] at hu
            exact h3 j u hu
          · rw [List.getElem?_append_right (by omega)] at hu
            have hjl := (List.getElem?_eq_some_iff.1 hu).1
            rw [OpV.len] at hjl
            have := hat (j - (oc l).length) hjl
            rw [hu, add_add, hol, h1] at this
            rw [show k * 12 + (j - k * 12) = j by omega] at this
            exact this
    obtain ⟨l, h1, h2, h3⟩ := key len (Nat.le_refl _)
    refine ⟨some a, len, _, l, rfl, h1.symm, Nat.le_trans hl hm, h2, ?_⟩
    rcases Nat.eq_zero_or_pos len with h0 | h0
    · subst h0
      have : l = [] := List.eq_nil_of_length_eq_zero h1
      subst this
      exact .inl rfl
    · obtain ⟨b, off, spot⟩ := a
      have hlen : 0 < (oc l).length := by rw [oc_length]; omega
      have hc0 := h3 0 _ (List.getElem?_eq_getElem hlen)
      have hspot : spot = none := by simpa [Addr.add] using World.cell?_spot hc0
      subst hspot
      have hc : ∀ j u, (oc l)[j]? = some u → W.cell? ⟨b, off + j, none⟩ = some u := fun j u hu => by
        have := h3 j u hu
        rwa [Addr.add_mid] at this
      exact .inr ⟨b, off, rfl, cell_lt (hc 0 _ (List.getElem?_eq_getElem hlen)), hc⟩
end
end Go.Proofs.YtijbimofigkdkaaDoor
