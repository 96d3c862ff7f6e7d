/-
  What the law LayoutBoxes walks on: told whole, boxes in rows.
-/
import Derived.Test.YtdodogehlnchlaaLyBMeet
namespace Go.Proofs.Ytdodogehlnchlaa
open Go.RowKit Go.Shelf Go.Sort
set_option linter.unusedVariables false
set_option linter.unusedSimpArgs false

theorem bxC_one (b : Bx) : ∀ v ∈ bxC b, v.oneCell' = true := by
  intro v hv
  simp only [bxC, List.mem_cons, List.not_mem_nil, or_false] at hv
  rcases hv with rfl | rfl | rfl | rfl <;> rfl
theorem bxC_len (b : Bx) : (bxC b).length = 4 := rfl
theorem bx_at {w : World} {B i : Nat} {A : Option Addr} {L : List Bx} {b : Bx} (h : Sl w B A (bxB L)) (hi : L[i]? = some b) : ∃ g off, A = some ⟨g, off, none⟩ ∧ g < B ∧ w.rangeAt g (off + i * 4) (bxC b) := by
  have hl : i < L.length := (List.getElem?_eq_some_iff.1 hi).1
  obtain ⟨g, off, e, hg, hc⟩ := h.open_ (by rw [bxB_length]; omega)
  refine ⟨g, off, e, hg, fun j v hv => ?_⟩
  rw [Nat.add_assoc]
  exact hc _ v (bxB_get hi hv)
theorem told_full (ww hh gap : Int) (Ar Ac : Option Addr) (n m cr cc : Nat) (Pr Pc : Nat → Pt) (w : World) (hn : n ≤ 12) (hm : m ≤ 12) (hSr : Sl w w.heap.size Ar (ptB Pr n)) (hSc : Sl w w.heap.size Ac (ptB Pc m)) :
    Calls Try.prog 23 #[.int .i64 ww, .int .i64 hh, .int .i64 gap, .slice Ar n cr, .slice Ac m cc, .int .i64 1000] w fun e w' => ∃ A c, e = .returned (.tuple #[.slice A (bxsR ww hh gap n m Pr Pc).length c, .bool true]) ∧ Sl w' w'.heap.size A (bxB (bxsR ww hh gap n m Pr Pc)) ∧ Below w.heap.size w w' := by
  have hl := (bxs_ok (ww := ww) (hh := hh) (gap := gap) (n := n) (m := m) (Pr := Pr) (Pc := Pc)).2.2
  have h2 : n * m ≤ 12 * 12 := Nat.mul_le_mul hn hm
  refine (told_any ww hh gap Ar Ac n m cr cc Pr Pc 1000 w (by omega) (by omega) (by omega) hSr hSc).mono ?_
  rintro e w' ⟨A, c, he, ho, hb⟩
  have e1 : min (bxsR ww hh gap n m Pr Pc).length 1000 = (bxsR ww hh gap n m Pr Pc).length := by omega
  rw [e1] at he ho
  rw [List.take_of_length_le (by omega)] at ho
  exact ⟨A, c, he, ho.sl, hb⟩
theorem told_cut (ww hh gap : Int) (Ar Ac : Option Addr) (n m cr cc : Nat) (Pr Pc : Nat → Pt) (s : Nat) (w : World) (hs : s ≤ 255) (hn : n ≤ 12) (hm : m ≤ 12) (hSr : Sl w w.heap.size Ar (ptB Pr n)) (hSc : Sl w w.heap.size Ac (ptB Pc m)) :
    Calls Try.prog 23 #[.int .i64 ww, .int .i64 hh, .int .i64 gap, .slice Ar n cr, .slice Ac m cc, .int .i64 s] w fun e w' => ∃ A c, e = .returned (.tuple #[.slice A (min (bxsR ww hh gap n m Pr Pc).length s) c, .bool true]) ∧ Sl w' w'.heap.size A (bxB ((bxsR ww hh gap n m Pr Pc).take s)) ∧ Below w.heap.size w w' := by
  refine (told_any ww hh gap Ar Ac n m cr cc Pr Pc s w (by omega) (by omega) (by omega) hSr hSc).mono ?_
  rintro e w' ⟨A, c, he, ho, hb⟩
  exact ⟨A, c, he, ho.sl, hb⟩
theorem rboxes_full (ww hh gap : Int) (Ar Ac : Option Addr) (n m cr cc : Nat) (Pr Pc : Nat → Pt) (w : World) (hn : n ≤ 12) (hm : m ≤ 12) (hSr : Sl w w.heap.size Ar (ptB Pr n)) (hSc : Sl w w.heap.size Ac (ptB Pc m)) :
    Calls Try.prog 24 #[.int .i64 ww, .int .i64 hh, .int .i64 gap, .slice Ar n cr, .slice Ac m cc] w fun e w' => ∃ A c, e = .returned (.slice A (bxsR ww hh gap n m Pr Pc).length c) ∧ Sl w' w'.heap.size A (bxB (bxsR ww hh gap n m Pr Pc)) ∧ Below w.heap.size w w' := by
  refine (rboxes_any ww hh gap Ar Ac n m cr cc Pr Pc w (by omega) (by omega) hSr hSc).mono ?_
  rintro e w' ⟨⟨A, c, he, ho⟩, hb⟩
  exact ⟨A, c, he, ho.sl, hb⟩
end Go.Proofs.Ytdodogehlnchlaa
