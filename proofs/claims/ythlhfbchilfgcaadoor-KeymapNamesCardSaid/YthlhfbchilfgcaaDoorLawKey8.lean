/-
  What arguments of type api.Key show, and how long their texts are.
-/
import Derived.Test.YthlhfbchilfgcaaDoorLaw
import Derived.Test.YthlhfbchilfgcaaDoorKmMath
import Derived.Deep.Slices
import Derived.SizedLaws
namespace Go.Proofs.YthlhfbchilfgcaaDoor
open Go.ChangeShapes Go.WideShapes Go.ChangeAt Go.RowKit Go.Deep
set_option linter.unusedVariables false
set_option linter.unusedSimpArgs false

section
variable {H : Type} {enc : TypeId × Value → H} {w : World} {base : Nat} {spare : Nat → Bool} {held : Bool}
set_option maxRecDepth 100000 in
theorem key_trod {fuel : Nat} {cs : List Value} {x : DataW H × List MemPlace} (h : DataW.trod enc Tryd.prog w base spare held fuel 24 cs = some x) : ∃ y : Kv, cs = y.cells ∧ y.s.length ∈ x.1.weights Tryd.prog 24 := by
  obtain ⟨xs, n, _, hx, hlen, hxl, hf⟩ := DataW.trod_struct Tryd.underlying24 h
  rw [show Tryd.prog.cellsOf 24 = 6 by kernel_rfl] at hlen
  match cs, hlen with
  | [c0, c1, c2, c3, c4, c5], _ =>
    have ex : ∀ i, i < xs.length → xs[i]? = some (xs[i]!) := fun i hi => by
      rw [List.getElem?_eq_getElem hi, List.getElem!_eq_getElem?_getD, List.getElem?_eq_getElem hi]; rfl
    have hx6 : xs.length = 6 := hxl
    have kb : Tryd.prog.cellsOf 4 = 1 := by kernel_rfl
    have ki : Tryd.prog.cellsOf 3 = 1 := by kernel_rfl
    have kc' : Tryd.prog.cellsOf 22 = 1 := by kernel_rfl
    have ks : Tryd.prog.cellsOf 9 = 1 := by kernel_rfl
    have f0 := (hf 0 _ rfl).trans (ex 0 (by omega))
    have f1 := (hf 1 _ rfl).trans (ex 1 (by omega))
    have f2 := (hf 2 _ rfl).trans (ex 2 (by omega))
    have f3 := (hf 3 _ rfl).trans (ex 3 (by omega))
    have f4 := (hf 4 _ rfl).trans (ex 4 (by omega))
    have f5 := (hf 5 _ rfl).trans (ex 5 (by omega))
    obtain ⟨n0, e0, _⟩ := DataW.trod_int Tryd.underlying22 f0
    obtain ⟨s1, e1, x1, _⟩ := DataW.trod_string Tryd.underlying9 f1
    obtain ⟨n2, e2, _⟩ := DataW.trod_int Tryd.underlying3 f2
    obtain ⟨b3, e3, _⟩ := DataW.trod_bool Tryd.underlying4 f3
    obtain ⟨b4, e4, _⟩ := DataW.trod_bool Tryd.underlying4 f4
    obtain ⟨b5, e5, _⟩ := DataW.trod_bool Tryd.underlying4 f5
    simp [kb] at e3 e4 e5
    simp [ki] at e2
    simp [kc'] at e0
    simp [ks] at e1
    refine ⟨⟨n0, s1.data.toList, n2, b3, b4, b5⟩, by rw [e0, e1, e2, e3, e4, e5]; rfl, ?_⟩
    have g1 : (xs.map (·.1))[1]? = some (.lit (.string s1.data.toList)) := by
      rw [List.getElem?_map, ex 1 (by omega), x1]; rfl
    rw [hx]
    have hm := DataW.weights_mem_each (P := Tryd.prog) (ts := (Tryd.prog.fieldsOf 24).toList.map (·.type)) (ds := xs.map (·.1)) (j := 1) (t := 9) (d := .lit (.string s1.data.toList)) (by simp only [Program.fieldsOf, Tryd.underlying24]; rfl) g1 s1.data.toList.length (by simp [DataW.weights])
    simp only [DataW.weights, Tryd.underlying24]
    simp only [Program.fieldsOf, Tryd.underlying24] at hm
    exact hm

set_option maxRecDepth 100000 in
theorem open_key {W : World} {v : Value} {d : DataW H} {p : List MemPlace} (hok : Value.okWide Tryd.prog W .any base 24 v)
    (h : DataW.Trod enc Tryd.prog W 0 (fun _ => true) true 24 v d p) : ∃ y : Kv, v = .agg #[.int .i64 y.c, .string ⟨y.s.toArray⟩, .int .i64 y.n, .bool y.a, .bool y.h, .bool y.t] ∧ y.s.length ∈ d.weights Tryd.prog 24 := by
  obtain ⟨cs, rfl, hsz⟩ := okWide_struct Tryd.underlying24 hok
  obtain ⟨fuel, hf⟩ := h
  obtain ⟨y, hy, hw⟩ := key_trod hf
  refine ⟨y, ?_, hw⟩
  have e : cs = y.cells.toArray := by rw [← hy]; simp [Value.cells]
  rw [e]
  rfl
end
end Go.Proofs.YthlhfbchilfgcaaDoor
