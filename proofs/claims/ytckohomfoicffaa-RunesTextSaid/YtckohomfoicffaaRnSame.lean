/-
  Walks: placardlaw01.same.
-/
import Derived.Test.YtckohomfoicffaaRnTold
import Derived.IntWalk
namespace Go.Proofs.Ytckohomfoicffaa
open Go.RowKit Go.Shelf
set_option linter.unusedVariables false

set_option maxRecDepth 100000 in
set_option maxHeartbeats 2000000 in
theorem same_any (R : List (Nat × Int)) (q n : Nat) (A1 A2 A3 A4 : Option Addr) (c1 c2 m c3 c4 : Nat) (w : World) (hR : R.length ≤ 100000) (hn : n = (R.take q).length) (hm : m = R.length)
    (h1 : Sl w w.heap.size A1 (rv (R.take q))) (h2 : Sl w w.heap.size A2 (av (R.take q))) (h3 : Sl w w.heap.size A3 (rv R)) (h4 : Sl w w.heap.size A4 (av R)) :
    Calls Try.prog 8 #[.slice A1 n c1, .slice A2 n c2, .slice A3 m c3, .slice A4 m c4, .int .i64 n] w fun e w' => e = .returned (.bool true) ∧ Below w.heap.size w w' := by
  have hnm : n ≤ m := by rw [hn, hm, List.length_take]; omega
  have hm1 : m ≤ 100000 := by omega
  have hcells : ∀ k, k < n → ∃ (r : Int) (i : Nat) (b1 o1 b2 o2 b3 o3 b4 o4 : Nat), (A1 = some ⟨b1, o1, none⟩ ∧ A2 = some ⟨b2, o2, none⟩ ∧ A3 = some ⟨b3, o3, none⟩ ∧ A4 = some ⟨b4, o4, none⟩) ∧ (b1 < w.heap.size ∧ b2 < w.heap.size ∧ b3 < w.heap.size ∧ b4 < w.heap.size) ∧
      w.cell? ⟨b1, o1 + k, none⟩ = some (.int .i32 r) ∧ w.cell? ⟨b2, o2 + k, none⟩ = some (.int .i64 i) ∧ w.cell? ⟨b3, o3 + k, none⟩ = some (.int .i32 r) ∧ w.cell? ⟨b4, o4 + k, none⟩ = some (.int .i64 i) := by
    intro k hk
    have hkl : k < R.length := by omega
    have hkq : k < q := by rw [hn, List.length_take] at hk; omega
    have hx : R[k]? = some R[k] := List.getElem?_eq_getElem hkl
    have hx2 : (R.take q)[k]? = some R[k] := by rw [List.getElem?_take, if_pos hkq]; exact hx
    obtain ⟨b1, o1, e1, k1, g1⟩ := h1.open_ (by rw [rv, List.length_map]; omega)
    obtain ⟨b2, o2, e2, k2, g2⟩ := h2.open_ (by rw [av, List.length_map]; omega)
    obtain ⟨b3, o3, e3, k3, g3⟩ := h3.open_ (by rw [rv, List.length_map]; omega)
    obtain ⟨b4, o4, e4, k4, g4⟩ := h4.open_ (by rw [av, List.length_map]; omega)
    exact ⟨R[k].2, R[k].1, b1, o1, b2, o2, b3, o3, b4, o4, ⟨e1, e2, e3, e4⟩, ⟨k1, k2, k3, k4⟩, g1 k _ (by rw [rv, List.getElem?_map, hx2]; rfl), g2 k _ (by rw [av, List.getElem?_map, hx2]; rfl), g3 k _ (by rw [rv, List.getElem?_map, hx]; rfl), g4 k _ (by rw [av, List.getElem?_map, hx]; rfl)⟩
  have HC := Lib.hid hcells
  clear hcells hn hm h1 h2 h3 h4
  have hnm' : ¬ (m : Int) < (n : Int) := by omega
  go_enter Try.func8, Try.ntmps8
  go_wp2
  go_loopw [11] (fun i wr => ∃ k : Nat, k ≤ n ∧ i = .int .i64 k ∧ Below w.heap.size w wr) (fun i _ => n - (intOf i).toNat)
  case atStart => exact ⟨0, by omega, rfl, Below.refl _ _⟩
  case round =>
    obtain ⟨k, hk, rfl, hbw⟩ := hrel
    by_cases hlt : k < n
    · obtain ⟨r, i, b1, o1, b2, o2, b3, o3, b4, o4, ⟨e1, e2, e3, e4⟩, ⟨k1, k2, k3, k4⟩, g1, g2, g3, g4⟩ := HC.out k hlt
      subst e1 e2 e3 e4
      have d1 := (hbw.cell (p := ⟨b1, o1 + k, none⟩) k1).trans g1
      have d2 := (hbw.cell (p := ⟨b2, o2 + k, none⟩) k2).trans g2
      have d3 := (hbw.cell (p := ⟨b3, o3 + k, none⟩) k3).trans g3
      have d4 := (hbw.cell (p := ⟨b4, o4 + k, none⟩) k4).trans g4
      clear g1 g2 g3 g4
      have hkn : (k : Int) < (n : Int) := by omega
      have hkm : (k : Int) < (m : Int) := by omega
      go_wp2
      go_quiet (fail)
      go_wp2
      go_roundw
      case rel => exact ⟨k + 1, by omega, by go_num, hbw.trans (below_drewN (Below.refl _ _) _)⟩
      case measure => simp [intOf]; omega
    · have hkn : ¬ (k : Int) < (n : Int) := by omega
      go_wp2
      go_ret
      exact ⟨rfl, hbw⟩
end Go.Proofs.Ytckohomfoicffaa
