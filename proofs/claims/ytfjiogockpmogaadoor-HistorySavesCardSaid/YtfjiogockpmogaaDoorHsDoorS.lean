/-
  What the rows of layer 14 list: the ranges, as the walks want them.
-/
import Derived.Test.YtfjiogockpmogaaDoorLawD
import Derived.Test.YtfjiogockpmogaaDoorGfW
namespace Go.Proofs.YtfjiogockpmogaaDoor
open Go.ChangeShapes Go.WideShapes Go.ChangeAt Go.RowKit
set_option linter.unusedVariables false

def flatI (T : List (Int × Int)) : List Int := T.flatMap fun x => [x.1, x.2]
theorem flatI_map (T : List (Int × Int)) : (flatI T).map (Value.int .i32) = flatT T := by
  induction T with
  | nil => rfl
  | cons x T ih =>
    have e1 : flatI (x :: T) = x.1 :: x.2 :: flatI T := rfl
    have e2 : flatT (x :: T) = .int .i32 x.1 :: .int .i32 x.2 :: flatT T := rfl
    rw [e1, e2, ← ih]
    rfl
theorem Tab.of_cells {W : World} {g : Nat} {T : List (Int × Int)} (h : ∀ i, W.cell? ⟨g, i, none⟩ = ((flatI T).map fun z => Value.int .i32 z)[i]?) : Tab W g T := by
  intro k x hx
  have h1 := h (2 * k)
  have h2 := h (2 * k + 1)
  have e : ((flatI T).map fun z => Value.int .i32 z) = flatT T := flatI_map T
  rw [e] at h1 h2
  have h3 := flatT_get T k x hx
  exact ⟨h1.trans h3.1, h2.trans h3.2⟩
theorem cell_block {w : World} {b o : Nat} {v : Value} (h : w.cell? ⟨b, o, none⟩ = some v) : b < w.heap.size := by
  rcases Nat.lt_or_ge b w.heap.size with h' | h'
  · exact h'
  · simp [World.cell?, Array.getElem?_eq_none h'] at h

theorem mk_data : (Rows.laid_placard_width_marks : DataW Unit) = Lib.tabData .i32 (flatI mkT) := rfl
theorem wd_data : (Rows.laid_placard_width_wides : DataW Unit) = Lib.tabData .i32 (flatI wdT) := rfl

theorem tabs_of {W : World} (hm : Tab W 1 mkT) (hw : Tab W 2 wdT) : Tabs W :=
  ⟨hm, hw, cell_block (hm 0 _ rfl).1, cell_block (hw 0 _ rfl).1⟩

set_option maxRecDepth 100000 in
/-- What the condition gives the walks. -/
theorem tabs_of_laid {W : World} (h : laidMetH Tryd.prog Rows.historySavesRow.laid W) : Tabs W := by
  rw [MakeChecks.laidMetH_plain _ _ _ (by kernel_rfl)] at h
  obtain ⟨ps, hl, _⟩ := h
  obtain ⟨h1, q, hr⟩ := laidVar_tab (g := 1) (t := 145) (e := 21) (n := 56) (k := .i32) (zs := flatI mkT) (by kernel_rfl) (by kernel_rfl) (by kernel_rfl) (by kernel_rfl) (by kernel_rfl) (by kernel_rfl) mk_data hl
  obtain ⟨h2, _⟩ := laidVar_tab (g := 2) (t := 146) (e := 21) (n := 102) (k := .i32) (zs := flatI wdT) (by kernel_rfl) (by kernel_rfl) (by kernel_rfl) (by kernel_rfl) (by kernel_rfl) (by kernel_rfl) wd_data hr
  exact tabs_of (Tab.of_cells h1) (Tab.of_cells h2)



/-- The door's own heap meets the condition. -/
theorem door_met (os : Os) (args : Array Value) : laidMetH Tryd.prog Rows.historySavesRow.laid ((World.doorLaid Tryd.prog 400 os).forCall (fun _ _ => 0) ⟨#[], args, []⟩).memory := by
  rw [MakeChecks.laidMetH_plain _ _ _ (by kernel_rfl)]
  exact laidMet_of_run' 8 (by kernel_rfl) (by kernel_rfl)
end Go.Proofs.YtfjiogockpmogaaDoor
