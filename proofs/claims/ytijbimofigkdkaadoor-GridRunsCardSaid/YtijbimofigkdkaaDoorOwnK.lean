/-
  Rows of the call's own that are written in place: as blocks known whole.
-/
import Derived.Test.YtijbimofigkdkaaDoorRfMem
namespace Go.Proofs.YtijbimofigkdkaaDoor
open Go.RowKit
set_option linter.unusedVariables false

theorem own_blk {w : World} {base n size : Nat} {e : TypeId} {v : Value} {xs : List Value} (h : w.ownsRow base e size v n xs) (hn : 0 < n) :
    ∃ g cap cur, v = .slice (some ⟨g, 0, none⟩) n cap ∧ base ≤ g ∧ Blk w g e cur ∧ cur.take (n * size) = xs ∧ n * size ≤ cur.length := by
  rcases h with ⟨hl, ⟨hv, h0⟩ | ⟨g, cap, cur, hv, hb, hh, hnc, hc, hcur, ht⟩⟩
  · omega
  · refine ⟨g, cap, cur.toList, hv, hb, by unfold Blk; rw [Array.toArray_toList]; exact hh, ht, ?_⟩
    rw [Array.length_toList, hcur]
    exact Nat.mul_le_mul_right _ hnc
theorem own_blk2 {w : World} {base n size : Nat} {e : TypeId} {v : Value} {xs : List Value} (h : w.ownsRow base e size v n xs) (hn : 0 < n) :
    ∃ g cap cur, v = .slice (some ⟨g, 0, none⟩) n cap ∧ base ≤ g ∧ Blk w g e cur ∧ cur.take (n * size) = xs ∧ n * size ≤ cur.length ∧
      ∀ (w' : World) (cur' : List Value), Blk w' g e cur' → cur'.length = cur.length → w'.ownsRow base e size (.slice (some ⟨g, 0, none⟩) n cap) n (cur'.take (n * size)) := by
  rcases h with ⟨hl, ⟨hv, h0⟩ | ⟨g, cap, cur, hv, hb, hh, hnc, hc, hcur, ht⟩⟩
  · omega
  · have hle : n * size ≤ cur.toList.length := by rw [Array.length_toList, hcur]; exact Nat.mul_le_mul_right _ hnc
    refine ⟨g, cap, cur.toList, hv, hb, by unfold Blk; rw [Array.toArray_toList]; exact hh, ht, hle, fun w' cur' hb' hl' => ⟨by rw [List.length_take]; omega, .inr ⟨g, cap, cur'.toArray, rfl, hb, hb', hnc, hc, ?_, by simp⟩⟩⟩
    rw [List.size_toArray, hl', Array.length_toList, hcur]
theorem own_cap {w : World} {base n c size : Nat} {e : TypeId} {A : Option Addr} {xs : List Value} (h : w.ownsRow base e size (.slice A n c) n xs) : n ≤ c := by
  rcases h with ⟨hl, ⟨hv, h0⟩ | ⟨g, cap, cur, hv, hb, hh, hnc, hc, hcur, ht⟩⟩
  · omega
  · injection hv with _ _ e
    omega
theorem take_splice (cs ds : List Value) (o m : Nat) (h1 : o + ds.length ≤ m) (h2 : m ≤ cs.length) : (splice cs o ds).take m = splice (cs.take m) o ds := by
  unfold splice
  have e1 : min o cs.length = o := by omega
  have e2 : (cs.take o ++ (ds ++ cs.drop (o + ds.length))).take m = cs.take o ++ (ds ++ (cs.drop (o + ds.length)).take (m - o - ds.length)) := by
    rw [List.take_append, List.take_append, List.take_take, List.length_take, e1, List.take_of_length_le (l := ds) (by omega), show min m o = o by omega]
  have e3 : (cs.take m).take o = cs.take o := by rw [List.take_take, show min o m = o by omega]
  rw [e2, e3, List.drop_take]
  congr 3
  omega
theorem sld_of_blk {w : World} {g m : Nat} {t : TypeId} {cs xs : List Value} {D : Nat → Prop} (hb : Blk w g t cs) (h : cs.take m = xs) (hD : D g) : SlD w D (some ⟨g, 0, none⟩) xs := by
  refine .inr ⟨g, 0, rfl, hb.lt, hD, fun j u hu => ?_⟩
  rw [Nat.zero_add, hb.cell, ← hu, ← h, List.getElem?_take]
  split
  · rfl
  · next hj =>
    exfalso
    rw [← h, List.getElem?_take, if_neg hj] at hu
    cases hu
theorem Blk.new1 (w : World) (o : Obj) (t : TypeId) (cs : List Value) : Blk ((w.alloc o).alloc (.cells cs.toArray t)) (w.heap.size + 1) t cs := by
  have := Blk.new (w.alloc o) t cs
  simpa using this
theorem Blk.new2 (w : World) (o o' : Obj) (t : TypeId) (cs : List Value) : Blk (((w.alloc o).alloc o').alloc (.cells cs.toArray t)) (w.heap.size + 2) t cs := by
  have := Blk.new1 (w.alloc o) o' t cs
  simpa using this
theorem splice_one (cs : List Value) (k : Nat) (v : Value) (h : k < cs.length) : splice cs k [v] = cs.set k v := by
  unfold splice
  rw [List.set_eq_take_append_cons_drop, if_pos h]
  simp
end Go.Proofs.YtijbimofigkdkaaDoor
