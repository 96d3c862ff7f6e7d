/-
  What arguments of type Op and []Op of layer 9 show.
-/
import Derived.Test.YtipglbpmpcoidaaGreatDoorLawInts
import Derived.Test.YtipglbpmpcoidaaGreatDoorFrDoorB
import Derived.Test.YtipglbpmpcoidaaGreatDoorFrRef
import Derived.Deep.Slices
namespace Go.Proofs.YtipglbpmpcoidaaGreatDoor
open Go.ChangeShapes Go.WideShapes Go.ChangeAt Go.RowKit Go.Deep
set_option linter.unusedVariables false
set_option linter.unusedSimpArgs false

structure OpF where
  kd : Int
  row : Int
  col : Int
  z : Int
  s : ByteArray
  y : Sty
  sn : Bool
def OpF.cells (o : OpF) : List Value := [.int .u8 o.kd, .int .i64 o.row, .int .i64 o.col, .int .i64 o.z, .string o.s, .bool o.y.b, .bool o.y.u, .bool o.y.i, .int .i64 o.y.f, .int .i64 o.y.g, .bool o.sn]
theorem OpF.len (o : OpF) : o.cells.length = 11 := rfl
theorem OpF.one (o : OpF) : ∀ v ∈ o.cells, v.oneCell' = true := by
  intro v hv
  simp [OpF.cells] at hv
  rcases hv with rfl | rfl | rfl | rfl | rfl | rfl | rfl | rfl | rfl | rfl | rfl <;> rfl
def fozero : OpF := ⟨0, 0, 0, 0, ⟨#[]⟩, Sty.zero, false⟩
theorem fop_size : (Tryz.prog.info? 38).map (·.size) = some 11 := by kernel_rfl
structure OpF.ok (o : OpF) : Prop where
  d0 : 0 ≤ o.kd
  d1 : o.kd ≤ 255
  s : o.s.size ≤ maxLen
  r0 : -9223372036854775808 ≤ o.row
  r1 : o.row ≤ 9223372036854775807
  c0 : -9223372036854775808 ≤ o.col
  c1 : o.col ≤ 9223372036854775807
  t0 : -9223372036854775808 ≤ o.z
  t1 : o.z ≤ 9223372036854775807
def foc (l : List OpF) : List Value := l.flatMap OpF.cells
theorem foc_length (l : List OpF) : (foc l).length = l.length * 11 := by
  induction l with
  | nil => rfl
  | cons o l ih => simp only [foc, List.flatMap_cons, List.length_append, List.length_cons] at *; rw [OpF.len]; omega
theorem foc_get {l : List OpF} {k : Nat} {o : OpF} (h : l[k]? = some o) {j : Nat} {v : Value} (hv : o.cells[j]? = some v) : (foc l)[k * 11 + j]? = some v := by
  have hj : j < 11 := by have := (List.getElem?_eq_some_iff.1 hv).1; rw [OpF.len] at this; exact this
  induction l generalizing k with
  | nil => simp at h
  | cons x l ih =>
    cases k with
    | zero =>
      simp at h
      subst h
      rw [foc, List.flatMap_cons, List.getElem?_append_left (by rw [OpF.len]; omega), Nat.zero_mul, Nat.zero_add]
      exact hv
    | succ k =>
      rw [foc, List.flatMap_cons, List.getElem?_append_right (by rw [OpF.len]; omega), OpF.len, show (k + 1) * 11 + j - 11 = k * 11 + j by omega]
      exact ih (by simpa using h)

section
variable {H : Type} {enc : TypeId × Value → H} {w : World} {base : Nat} {spare : Nat → Bool} {held : Bool}
theorem fwf64 {n : Int} (h : (Lit.int .i64 n).wf = true) : -9223372036854775808 ≤ n ∧ n ≤ 9223372036854775807 := by
  simp only [Lit.wf, IntKind.min, IntKind.max, IntKind.signed, IntKind.bits] at h
  simp at h
  omega
theorem fwfu8 {n : Int} (h : (Lit.int .u8 n).wf = true) : 0 ≤ n ∧ n ≤ 255 := by
  simp only [Lit.wf, IntKind.min, IntKind.max, IntKind.signed, IntKind.bits] at h
  simp at h
  omega
set_option maxRecDepth 100000 in
theorem fsty_of_trod {fuel : Nat} {cs : List Value} {x : DataW H × List MemPlace} (h : DataW.trod enc Tryz.prog w base spare held fuel 36 cs = some x) : ∃ y : Sty, cs = y.cells := by
  obtain ⟨xs, n, _, _, hlen, hxl, hf⟩ := DataW.trod_struct Tryz.underlying36 h
  rw [show Tryz.prog.cellsOf 36 = 5 by kernel_rfl] at hlen
  match cs, hlen with
  | [c0, c1, c2, c3, c4], _ =>
    have ex : ∀ i, i < xs.length → xs[i]? = some (xs[i]!) := fun i hi => by
      rw [List.getElem?_eq_getElem hi, List.getElem!_eq_getElem?_getD, List.getElem?_eq_getElem hi]; rfl
    have hx5 : xs.length = 5 := hxl
    have kb : Tryz.prog.cellsOf 4 = 1 := by kernel_rfl
    have ki : Tryz.prog.cellsOf 3 = 1 := by kernel_rfl
    have f0 := (hf 0 _ rfl).trans (ex 0 (by omega))
    have f1 := (hf 1 _ rfl).trans (ex 1 (by omega))
    have f2 := (hf 2 _ rfl).trans (ex 2 (by omega))
    have f3 := (hf 3 _ rfl).trans (ex 3 (by omega))
    have f4 := (hf 4 _ rfl).trans (ex 4 (by omega))
    obtain ⟨b0, e0, _⟩ := DataW.trod_bool Tryz.underlying4 f0
    obtain ⟨b1, e1, _⟩ := DataW.trod_bool Tryz.underlying4 f1
    obtain ⟨b2, e2, _⟩ := DataW.trod_bool Tryz.underlying4 f2
    obtain ⟨n3, e3, _⟩ := DataW.trod_int Tryz.underlying3 f3
    obtain ⟨n4, e4, _⟩ := DataW.trod_int Tryz.underlying3 f4
    simp [kb] at e0 e1 e2
    simp [ki] at e3 e4
    exact ⟨⟨b0, b1, b2, n3, n4⟩, by rw [e0, e1, e2, e3, e4]; rfl⟩
set_option maxRecDepth 100000 in
theorem fop_of_trod {fuel : Nat} {cs : List Value} {x : DataW H × List MemPlace} (h : DataW.trod enc Tryz.prog w base spare held fuel 38 cs = some x) : ∃ o : OpF, cs = o.cells ∧ o.ok := by
  obtain ⟨xs, n, _, _, hlen, hxl, hf⟩ := DataW.trod_struct Tryz.underlying38 h
  rw [show Tryz.prog.cellsOf 38 = 11 by kernel_rfl] at hlen
  match cs, hlen with
  | [c0, c1, c2, c3, c4, c5, c6, c7, c8, c9, c10], _ =>
    have ex : ∀ i, i < xs.length → xs[i]? = some (xs[i]!) := fun i hi => by
      rw [List.getElem?_eq_getElem hi, List.getElem!_eq_getElem?_getD, List.getElem?_eq_getElem hi]; rfl
    have hx7 : xs.length = 7 := hxl
    have ku : Tryz.prog.cellsOf 5 = 1 := by kernel_rfl
    have ki : Tryz.prog.cellsOf 3 = 1 := by kernel_rfl
    have ks : Tryz.prog.cellsOf 9 = 1 := by kernel_rfl
    have kb : Tryz.prog.cellsOf 4 = 1 := by kernel_rfl
    have ky : Tryz.prog.cellsOf 36 = 5 := by kernel_rfl
    have f0 := (hf 0 _ rfl).trans (ex 0 (by omega))
    have f1 := (hf 1 _ rfl).trans (ex 1 (by omega))
    have f2 := (hf 2 _ rfl).trans (ex 2 (by omega))
    have f3 := (hf 3 _ rfl).trans (ex 3 (by omega))
    have f4 := (hf 4 _ rfl).trans (ex 4 (by omega))
    have f5 := (hf 5 _ rfl).trans (ex 5 (by omega))
    have f6 := (hf 6 _ rfl).trans (ex 6 (by omega))
    obtain ⟨n0, e0, _, w0⟩ := DataW.trod_int Tryz.underlying5 f0
    obtain ⟨n1, e1, _, w1⟩ := DataW.trod_int Tryz.underlying3 f1
    obtain ⟨n2, e2, _, w2⟩ := DataW.trod_int Tryz.underlying3 f2
    obtain ⟨n3, e3, _, w3⟩ := DataW.trod_int Tryz.underlying3 f3
    obtain ⟨s4, e4, _, w4⟩ := DataW.trod_string Tryz.underlying9 f4
    obtain ⟨y5, e5⟩ := fsty_of_trod f5
    obtain ⟨b6, e6, _⟩ := DataW.trod_bool Tryz.underlying4 f6
    simp [ku] at e0
    simp [ki] at e1 e2 e3
    simp [ks] at e4
    simp [kb] at e6
    simp [ky, Sty.cells] at e5
    obtain ⟨a1, a2⟩ := fwf64 w1
    obtain ⟨a3, a4⟩ := fwf64 w2
    obtain ⟨a5, a6⟩ := fwf64 w3
    obtain ⟨b2, b3⟩ := fwfu8 w0
    refine ⟨⟨n0, n1, n2, n3, s4, y5, b6⟩, ?_, ⟨b2, b3, w4, a1, a2, a3, a4, a5, a6⟩⟩
    simp only [OpF.cells]
    rw [e0, e1, e2, e3, e4, e6, e5.1, e5.2.1, e5.2.2.1, e5.2.2.2.1, e5.2.2.2.2]

set_option maxRecDepth 100000 in
theorem open_opF {W : World} {v : Value} {d : DataW H} {p : List MemPlace} (hok : Value.okWide Tryz.prog W .any base 38 v)
    (h : DataW.Trod enc Tryz.prog W 0 (fun _ => true) true 38 v d p) : ∃ o : OpF, v = .agg o.cells.toArray ∧ o.ok := by
  obtain ⟨cs, rfl, hsz⟩ := okWide_struct Tryz.underlying38 hok
  obtain ⟨fuel, hf⟩ := h
  obtain ⟨o, ho, h2⟩ := fop_of_trod hf
  refine ⟨o, ?_, h2⟩
  rw [← ho]
  simp [Value.cells]

set_option maxRecDepth 100000 in
theorem open_opsF {W : World} {v : Value} {d : DataW H} {p : List MemPlace} (hok : Value.okWide Tryz.prog W .any base 22 v)
    (h : DataW.Trod enc Tryz.prog W 0 (fun _ => true) true 22 v d p) :
    ∃ A n c l, v = .slice A n c ∧ n = (l : List OpF).length ∧ n ≤ maxLen ∧ (∀ o ∈ l, o.ok) ∧ Sl W W.heap.size A (foc l) := by
  obtain ⟨a0, len, cap, rfl⟩ := okWide_slice Tryz.underlying22 hok
  obtain ⟨fuel, hf⟩ := h
  rcases open_slice Tryz.underlying22 hf with ⟨hcs, _⟩ | ⟨a, len', cap', m, n', D, Pl, hcs, hb, hl, hm, hmm, hx, hi⟩
  · simp [Value.cells] at hcs
    obtain ⟨rfl, rfl, rfl⟩ := hcs
    exact ⟨none, 0, 0, [], rfl, rfl, by simp [maxLen], by simp, .inl rfl⟩
  · simp [Value.cells] at hcs
    obtain ⟨rfl, rfl, rfl⟩ := hcs
    simp at hmm
    subst hmm
    rw [show Tryz.prog.cellsOf 38 = 11 by kernel_rfl] at hi
    have key : ∀ k, k ≤ len → ∃ l : List OpF, l.length = k ∧ (∀ o ∈ l, o.ok) ∧ ∀ j u, (foc l)[j]? = some u → W.cell? (a.add j) = some u := by
      intro k
      induction k with
      | zero => intro _; exact ⟨[], rfl, by simp, by simp [foc]⟩
      | succ k ih =>
        intro hk
        obtain ⟨l, h1, h2, h3⟩ := ih (by omega)
        obtain ⟨cs', hc, ht⟩ := hi k (by omega)
        obtain ⟨_, hcl, hat⟩ := World.cells?_some hc
        obtain ⟨o, rfl, ho⟩ := fop_of_trod ht
        refine ⟨l ++ [o], by simp [h1], fun q hq => ?_, fun j u hu => ?_⟩
        · rcases List.mem_append.1 hq with hq | hq
          · exact h2 q hq
          · simp at hq; subst hq; exact ho
        · have e : foc (l ++ [o]) = foc l ++ o.cells := by simp [foc]
          rw [e] at hu
          have hol := foc_length l
          by_cases hj : j < (foc l).length
          · rw [List.getElem?_append_left hj] at hu
            exact h3 j u hu
          · rw [List.getElem?_append_right (by omega)] at hu
            have hjl := (List.getElem?_eq_some_iff.1 hu).1
            rw [OpF.len] at hjl
            have := hat (j - (foc l).length) hjl
            rw [hu, add_add, hol, h1] at this
            rw [show k * 11 + (j - k * 11) = j by omega] at this
            exact this
    obtain ⟨l, h1, h2, h3⟩ := key len (Nat.le_refl _)
    refine ⟨some a, len, _, l, rfl, h1.symm, Nat.le_trans hl hm, h2, ?_⟩
    rcases Nat.eq_zero_or_pos len with h0 | h0
    · subst h0
      have : l = [] := List.eq_nil_of_length_eq_zero h1
      subst this
      exact .inl rfl
    · obtain ⟨b, off, spot⟩ := a
      have hlen : 0 < (foc l).length := by rw [foc_length]; omega
      have hc0 := h3 0 _ (List.getElem?_eq_getElem hlen)
      have hspot : spot = none := by simpa [Addr.add] using World.cell?_spot hc0
      subst hspot
      have hc : ∀ j u, (foc l)[j]? = some u → W.cell? ⟨b, off + j, none⟩ = some u := fun j u hu => by
        have := h3 j u hu
        rwa [Addr.add_mid] at this
      exact .inr ⟨b, off, rfl, cell_lt (hc 0 _ (List.getElem?_eq_getElem hlen)), hc⟩
end
end Go.Proofs.YtipglbpmpcoidaaGreatDoor
