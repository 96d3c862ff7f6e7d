/-
  Walks: Fork of a decoder that is not pasting.
-/
import Derived.Test.YteolafeeggjblaaDoorKnTick
namespace Go.Proofs.YteolafeeggjblaaDoor
open Go.RowKit Go.Sort
set_option linter.unusedVariables false
set_option linter.unusedSimpArgs false

set_option maxRecDepth 100000 in
set_option maxHeartbeats 4000000 in
theorem fork_no (D : Nat) (s : List UInt8) (w : World) (h : DBlk w D s (.pointer none)) :
    Calls Tryd.prog 16 #[.pointer (some ⟨D, 0, none⟩)] w fun e w' => ∃ D', e = .returned (.pointer (some ⟨D', 0, none⟩)) ∧ w.heap.size ≤ D' ∧ DBlk w' D' s (.pointer none) ∧ DBlk w' D s (.pointer none) ∧ Below w.heap.size w w' := by
  have H := Lib.hid h
  clear h
  go_enter Tryd.func16, Tryd.ntmps16
  go_wp2_with (first
    | (go_at_call 20; refine (made_yes D s _ _ H.out).mono ?_; rintro e w' ⟨rfl, rfl⟩)
    | (go_at_call 7; refine (dnew_any _).mono ?_; rintro e w1 ⟨rfl, hd1, hb1⟩; have HD1 := Lib.hid hd1; have HB1 := Lib.hid hb1; have h1 := H.out.below hb1 H.out.lt; have H1 := Lib.hid h1; have x1 : w1.cell? ⟨D, 1, none⟩ = some (.string ⟨s.toArray⟩) := h1.cell 1; have x2 : (w1.setCell ⟨w.heap.size, 1, none⟩ (.string ⟨s.toArray⟩)).cell? ⟨D, 2, none⟩ = some (.pointer none) := (Chg.setCell (S := one w.heap.size) (Chg.refl _ w1) (p := ⟨w.heap.size, 1, none⟩) (.inl rfl) _).cell (h1.cell 2) (fun e => by have := H.out.lt; have e' : D = w.heap.size := e; omega); have y1 : w1.cell? ⟨w.heap.size, 1, none⟩ = some (.string ⟨#[]⟩) := hd1.cell 1; have f1 := hd1.frozen 1; have he := fun w => pptr_eqn w; clear hd1 hb1 h1))
  go_ret
  refine ⟨_, rfl, Nat.le_refl _, HD1.out.set_ 1 _, ?_, HB1.out.setCell (p := ⟨w.heap.size, 1, none⟩) (Nat.le_refl _) _⟩
  exact H1.out.chg (Chg.setCell (S := one w.heap.size) (Chg.refl _ w1) (p := ⟨w.heap.size, 1, none⟩) (.inl rfl) _) (fun e => by have := H.out.lt; have e' : D = w.heap.size := e; omega)
end Go.Proofs.YteolafeeggjblaaDoor
