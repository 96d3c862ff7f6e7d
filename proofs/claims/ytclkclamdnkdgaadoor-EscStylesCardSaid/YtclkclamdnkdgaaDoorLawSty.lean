/-
  What arguments of type api.Style show (for programs without the Op of layer 4; there LawOps).
-/
import Derived.Test.YtclkclamdnkdgaaDoorLaw
import Derived.Test.YtclkclamdnkdgaaDoorEsSty
import Derived.Deep.Slices
namespace Go.Proofs.YtclkclamdnkdgaaDoor
open Go.ChangeShapes Go.WideShapes Go.ChangeAt Go.RowKit Go.Deep
set_option linter.unusedVariables false
set_option linter.unusedSimpArgs false

section
variable {H : Type} {enc : TypeId × Value → H} {w : World} {base : Nat} {spare : Nat → Bool} {held : Bool}
set_option maxRecDepth 100000 in
theorem sty_trod {fuel : Nat} {cs : List Value} {x : DataW H × List MemPlace} (h : DataW.trod enc Tryd.prog w base spare held fuel 33 cs = some x) : ∃ y : Sty, cs = y.cells := by
  obtain ⟨xs, n, _, _, hlen, hxl, hf⟩ := DataW.trod_struct Tryd.underlying33 h
  rw [show Tryd.prog.cellsOf 33 = 5 by kernel_rfl] at hlen
  match cs, hlen with
  | [c0, c1, c2, c3, c4], _ =>
    have ex : ∀ i, i < xs.length → xs[i]? = some (xs[i]!) := fun i hi => by
      rw [List.getElem?_eq_getElem hi, List.getElem!_eq_getElem?_getD, List.getElem?_eq_getElem hi]; rfl
    have hx5 : xs.length = 5 := hxl
    have kb : Tryd.prog.cellsOf 4 = 1 := by kernel_rfl
    have ki : Tryd.prog.cellsOf 3 = 1 := by kernel_rfl
    have f0 := (hf 0 _ rfl).trans (ex 0 (by omega))
    have f1 := (hf 1 _ rfl).trans (ex 1 (by omega))
    have f2 := (hf 2 _ rfl).trans (ex 2 (by omega))
    have f3 := (hf 3 _ rfl).trans (ex 3 (by omega))
    have f4 := (hf 4 _ rfl).trans (ex 4 (by omega))
    obtain ⟨b0, e0, _⟩ := DataW.trod_bool Tryd.underlying4 f0
    obtain ⟨b1, e1, _⟩ := DataW.trod_bool Tryd.underlying4 f1
    obtain ⟨b2, e2, _⟩ := DataW.trod_bool Tryd.underlying4 f2
    obtain ⟨n3, e3, _⟩ := DataW.trod_int Tryd.underlying3 f3
    obtain ⟨n4, e4, _⟩ := DataW.trod_int Tryd.underlying3 f4
    simp [kb] at e0 e1 e2
    simp [ki] at e3 e4
    exact ⟨⟨b0, b1, b2, n3, n4⟩, by rw [e0, e1, e2, e3, e4]; rfl⟩

set_option maxRecDepth 100000 in
theorem open_sty {W : World} {v : Value} {d : DataW H} {p : List MemPlace} (hok : Value.okWide Tryd.prog W .any base 33 v)
    (h : DataW.Trod enc Tryd.prog W 0 (fun _ => true) true 33 v d p) : ∃ y : Sty, v = y.val := by
  obtain ⟨cs, rfl, hsz⟩ := okWide_struct Tryd.underlying33 hok
  obtain ⟨fuel, hf⟩ := h
  obtain ⟨y, hy⟩ := sty_trod hf
  refine ⟨y, ?_⟩
  have e : cs = y.cells.toArray := by rw [← hy]; simp [Value.cells]
  rw [e]
  rfl
end
end Go.Proofs.YtclkclamdnkdgaaDoor
