/-
  What the rows of layer 5 list: the ranges and the blank, as the walks want them.
-/
import Derived.Test.YtfmkeeaenjeneaaGreatDoorLawD
import Derived.Test.YtfmkeeaenjeneaaGreatDoorLawBytes
import Derived.Test.YtfmkeeaenjeneaaGreatDoorGfW
import Derived.Test.YtfmkeeaenjeneaaGreatDoorGfG
import Derived.Lay
namespace Go.Proofs.YtfmkeeaenjeneaaGreatDoor
open Go.ChangeShapes Go.WideShapes Go.ChangeAt Go.RowKit
set_option linter.unusedVariables false
set_option linter.unusedSimpArgs false

theorem str_eta (s : ByteArray) : s = ⟨s.data.toList.toArray⟩ := by
  apply ByteArray.ext; simp
set_option maxRecDepth 100000 in
theorem blank_cells {W : World} {fuel : Nat} {cs : List Value} {p : List MemPlace} (h : DataW.trod (fun _ => ()) Tryz.prog W 0 (fun _ => true) false fuel 83 cs = some ((Rows.laid_placard_grid_blank : DataW Unit), p)) : cs = bl.cells := by
  obtain ⟨xs, n, _, hx, hlen, hxl, hf⟩ := DataW.trod_struct Tryz.underlying83 h
  rw [show Tryz.prog.cellsOf 83 = 7 by kernel_rfl] at hlen
  have kb : Tryz.prog.cellsOf 4 = 1 := by kernel_rfl
  have ki : Tryz.prog.cellsOf 3 = 1 := by kernel_rfl
  have ks : Tryz.prog.cellsOf 9 = 1 := by kernel_rfl
  have ky : Tryz.prog.cellsOf 31 = 5 := by kernel_rfl
  match cs, hlen with
  | [c0, c1, c2, c3, c4, c5, c6], _ =>
    match xs, hxl with
    | [x0, x1, x2], _ =>
      have f0 := hf 0 _ rfl
      have f1 := hf 1 _ rfl
      have f2 := hf 2 _ rfl
      simp only [List.getElem?_cons_zero, List.getElem?_cons_succ] at f0 f1 f2
      simp only [Rows.laid_placard_grid_blank, Prod.mk.injEq, DataW.agg.injEq, List.map_cons, List.map_nil, List.cons.injEq, and_true] at hx
      obtain ⟨⟨g0, g1, g2⟩, _⟩ := hx
      obtain ⟨s0, e0, z0, _⟩ := DataW.trod_string Tryz.underlying9 f0
      obtain ⟨n1, e1, z1, _⟩ := DataW.trod_int Tryz.underlying3 f1
      obtain ⟨ys, n', _, hy, hlen2, hyl, hf2⟩ := DataW.trod_struct Tryz.underlying31 f2
      match ys, hyl with
      | [y0, y1, y2, y3, y4], _ =>
        have k0 := hf2 0 _ rfl
        have k1 := hf2 1 _ rfl
        have k2 := hf2 2 _ rfl
        have k3 := hf2 3 _ rfl
        have k4 := hf2 4 _ rfl
        simp only [List.getElem?_cons_zero, List.getElem?_cons_succ] at k0 k1 k2 k3 k4
        rw [hy] at g2
        simp only [DataW.agg.injEq, List.map_cons, List.map_nil, List.cons.injEq, and_true] at g2
        obtain ⟨a0, a1, a2, a3, a4⟩ := g2
        obtain ⟨b0, e2, w0⟩ := DataW.trod_bool Tryz.underlying4 k0
        obtain ⟨b1, e3, w1⟩ := DataW.trod_bool Tryz.underlying4 k1
        obtain ⟨b2, e4, w2⟩ := DataW.trod_bool Tryz.underlying4 k2
        obtain ⟨m3, e5, w3, _⟩ := DataW.trod_int Tryz.underlying3 k3
        obtain ⟨m4, e6, w4, _⟩ := DataW.trod_int Tryz.underlying3 k4
        rw [w0] at a0; rw [w1] at a1; rw [w2] at a2; rw [w3] at a3; rw [w4] at a4; rw [z0] at g0; rw [z1] at g1
        simp at a0 a1 a2 a3 a4 g0 g1
        simp [kb, ki, ks, ky] at e0 e1 e2 e3 e4 e5 e6
        have hs := str_eta s0
        rw [← g0] at hs
        subst hs

        rw [e0, e1, e2, e3, e4, e5, e6]
        rw [a0, a1, a2, ← a3, ← a4, ← g1]
        rfl

def flatI (T : List (Int × Int)) : List Int := T.flatMap fun x => [x.1, x.2]
theorem flatI_map (T : List (Int × Int)) : (flatI T).map (Value.int .i32) = flatT T := by
  induction T with
  | nil => rfl
  | cons x T ih =>
    have e1 : flatI (x :: T) = x.1 :: x.2 :: flatI T := rfl
    have e2 : flatT (x :: T) = .int .i32 x.1 :: .int .i32 x.2 :: flatT T := rfl
    rw [e1, e2, ← ih]
    rfl
theorem Tab.of_cells {W : World} {g : Nat} {T : List (Int × Int)} (h : ∀ i, W.cell? ⟨g, i, none⟩ = ((flatI T).map fun z => Value.int .i32 z)[i]?) : Tab W g T := by
  intro k x hx
  have h1 := h (2 * k)
  have h2 := h (2 * k + 1)
  have e : ((flatI T).map fun z => Value.int .i32 z) = flatT T := flatI_map T
  rw [e] at h1 h2
  have h3 := flatT_get T k x hx
  exact ⟨h1.trans h3.1, h2.trans h3.2⟩
theorem cell_block {w : World} {b o : Nat} {v : Value} (h : w.cell? ⟨b, o, none⟩ = some v) : b < w.heap.size := by
  rcases Nat.lt_or_ge b w.heap.size with h' | h'
  · exact h'
  · simp [World.cell?, Array.getElem?_eq_none h'] at h

theorem mk_data : (Rows.laid_placard_width_marks : DataW Unit) = Lib.tabData .i32 (flatI mkT) := rfl
theorem wd_data : (Rows.laid_placard_width_wides : DataW Unit) = Lib.tabData .i32 (flatI wdT) := rfl

theorem tabs_of {W : World} (hm : Tab W 2 mkT) (hw : Tab W 1 wdT) : Tabs W :=
  ⟨hm, hw, cell_block (hm 0 _ rfl).1, cell_block (hw 0 _ rfl).1⟩


set_option maxRecDepth 100000 in
theorem factsR_of_laid {W : World} (h : laidMetH Tryz.prog Rows.termPiecesRow.laid W) : BlankT W ∧ Tabs W := by
  rw [MakeChecks.laidMetH_plain _ _ _ (by kernel_rfl)] at h
  obtain ⟨ps, hl, _⟩ := h
  obtain ⟨_, _, _, _, _, q1, _, _, _, _, hl1, _⟩ := hl
  obtain ⟨h1, q, hr⟩ := laidVar_tab (g := 2) (t := 189) (e := 21) (n := 56) (k := .i32) (zs := flatI mkT) (by kernel_rfl) (by kernel_rfl) (by kernel_rfl) (by kernel_rfl) (by kernel_rfl) (by kernel_rfl) mk_data hl1
  obtain ⟨h2, q2, hl2⟩ := laidVar_tab (g := 1) (t := 187) (e := 21) (n := 102) (k := .i32) (zs := flatI wdT) (by kernel_rfl) (by kernel_rfl) (by kernel_rfl) (by kernel_rfl) (by kernel_rfl) (by kernel_rfl) wd_data hr
  refine ⟨?_, tabs_of (Tab.of_cells h1) (Tab.of_cells h2)⟩
  obtain ⟨g, t, cs, fuel, p, q, hg, ht, hvar, hd, _, _⟩ := hl2
  have hgn : Tryz.prog.globalNamed "placard/grid.blank" = some 0 := by kernel_rfl
  obtain rfl : g = 0 := Option.some.inj (hg.symm.trans hgn)
  have htn : (Tryz.prog.globals[0]?).map (·.type) = some 83 := by kernel_rfl
  obtain rfl : t = 83 := Option.some.inj (ht.symm.trans htn)
  have hc := blank_cells hd
  have hcell : ∀ i, W.cell? ⟨0, i, none⟩ = bl.cells[i]? := fun i => by
    rw [World.var?_cell hgn hvar i, ← hc]
    simp
  refine ⟨fun j v hv => by rw [Nat.zero_add, hcell]; exact hv, cell_lt (o := 0) (v := .string ⟨#[32]⟩) ?_⟩
  rw [hcell]
  rfl

/-- The heap that holds what the rows list meets the condition. -/
theorem termR_met (os : Os) (args : Array Value) : laidMetH Tryz.prog Rows.termPiecesRow.laid ((World.laidAll Tryz.prog os Rows.termPiecesRow.laid).forCall (fun _ _ => 0) ⟨#[], args, []⟩).memory := by
  rw [MakeChecks.laidMetH_plain _ _ _ (by kernel_rfl)]
  exact laidMet_laidAll _ (by kernel_rfl) (by kernel_rfl)
end Go.Proofs.YtfmkeeaenjeneaaGreatDoor
