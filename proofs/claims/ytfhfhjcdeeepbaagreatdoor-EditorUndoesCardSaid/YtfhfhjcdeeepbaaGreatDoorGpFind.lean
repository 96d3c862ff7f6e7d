/-
  Walk: Find.
-/
import Derived.Test.YtfhfhjcdeeepbaaGreatDoorGpStand
namespace Go.Proofs.YtfhfhjcdeeepbaaGreatDoor
open Go.RowKit Go.Shelf
attribute [local go_sem] Oper.semAt_some
set_option linter.unusedVariables false
set_option linter.unusedSimpArgs false

/-- do the texts stand at a place from the cursor on? -/
def okAt (line l : List (List UInt8)) (cur i : Nat) : Bool := decide (cur ≤ i) && standB line l i
/-- what Find tells -/
def FindR (line l : List (List UInt8)) (cur : Nat) (v : Int) (b : Bool) : Prop :=
  (b = true ∧ l ≠ [] ∧ ∃ i : Nat, v = i ∧ i < line.length ∧ okAt line l cur i = true ∧ ∀ j, j < i → okAt line l cur j = false) ∨
  (b = false ∧ v = 0 ∧ (l = [] ∨ ∀ j, j < line.length → okAt line l cur j = false))
/-- what Find hands back -/
def FindP (w : World) (line l : List (List UInt8)) (cur : Nat) (e : Ending) (w' : World) : Prop :=
  ∃ v b, e = .returned (.tuple #[.int .i64 v, .bool b]) ∧ FindR line l cur v b ∧ Below w.heap.size w w'

/-- how a range of Find may be left -/
def FindX (w : World) (line l : List (List UInt8)) (cur : Nat) (c : Code) (pre : List (Nat × List UInt8)) (f : Nat → Prop) (W : World) : Prop :=
  c = .ret ∧ ∃ pre' x, pre = pre' ++ [x] ∧ okAt line l cur x.1 = true ∧ (∀ y ∈ pre', okAt line l cur y.1 = false) ∧ Boxed W (w.heap.size + 1 + 1) 3 (.int .i64 x.1) ∧ Boxed W (w.heap.size + 1 + 1 + 1) 4 (.bool true) ∧ Below w.heap.size w W
theorem findX_ab {w : World} {b : Nat} {line l : List (List UInt8)} {cur : Nat} {c : Code} (hb : w.heap.size + 4 ≤ b) : AbP b (FindX w line l cur c) := by
  rintro pre f f' X Y ⟨hc, pre', x, e1, e2, e3, b1, b2, hB⟩ ht hf
  refine ⟨hc, pre', x, e1, e2, e3, ht.block _ _ b1 (.inl (by omega)), ht.block _ _ b2 (.inl (by omega)), ?_⟩
  exact AbP.below (n₀ := w.heap.size) (β := Unit) (by omega) (Nat.le_refl _) () f f' X Y hB ht hf
/-- what a range of Find keeps -/
def FindI (w : World) (z g : Nat) (X : Option Addr) (m d : Nat) (line l : List (List UInt8)) (cur : Nat) (pre : List (Nat × List UInt8)) (f : Nat → Prop) (W : World) : Prop :=
  (Boxed W w.heap.size 43 (.pointer (some ⟨g, 0, none⟩)) ∧ Boxed W (w.heap.size + 1) 38 (.slice X m d) ∧ Boxed W (w.heap.size + 1 + 1) 3 (.int .i64 0) ∧ Boxed W (w.heap.size + 1 + 1 + 1) 4 (.bool false) ∧ Boxed W z 3 (.int .i64 cur)) ∧ Below w.heap.size w W ∧ ∀ y ∈ pre, okAt line l cur y.1 = false
theorem findI_ab {w : World} {z g b : Nat} {X : Option Addr} {m d : Nat} {line l : List (List UInt8)} {cur : Nat} (hz : w.heap.size + 4 ≤ z) (hb : z < b) : AbP b (FindI w z g X m d line l cur) := by
  rintro pre f f' U Y ⟨⟨b0, b1, b2, b3, b4⟩, hB, hn⟩ ht hf
  refine ⟨⟨ht.block _ _ b0 (.inl (by omega)), ht.block _ _ b1 (.inl (by omega)), ht.block _ _ b2 (.inl (by omega)), ht.block _ _ b3 (.inl (by omega)), ht.block _ _ b4 (.inl (by omega))⟩, ?_, hn⟩
  exact AbP.below (n₀ := w.heap.size) (β := Unit) (by omega) (Nat.le_refl _) () f f' U Y hB ht hf
theorem FindI.step {w : World} {z g : Nat} {X : Option Addr} {m d : Nat} {line l : List (List UInt8)} {cur : Nat} {pre : List (Nat × List UInt8)} {f : Nat → Prop} {W W' : World} (h : FindI w z g X m d line l cur pre f W) (hb : Below W.heap.size W W') (x : Nat × List UInt8) (hx : okAt line l cur x.1 = false) : FindI w z g X m d line l cur (pre ++ [x]) f W' := by
  obtain ⟨⟨b0, b1, b2, b3, b4⟩, hB, hn⟩ := h
  refine ⟨⟨(hb.block _ b0.lt).trans b0, (hb.block _ b1.lt).trans b1, (hb.block _ b2.lt).trans b2, (hb.block _ b3.lt).trans b3, (hb.block _ b4.lt).trans b4⟩, hB.trans (hb.mono hB.size), fun y hy => ?_⟩
  rcases List.mem_append.1 hy with hy | hy
  · exact hn y hy
  · obtain rfl : y = x := by simpa using hy
    exact hx

end Go.Proofs.YtfhfhjcdeeepbaaGreatDoor
