/-
  Plain mathematics: a row with a gap, and what is written into it. No program is named here.
-/
import Derived.Laws.CopyOwn
namespace Go.Proofs.YtfhfhjcdeeepbaaGreatDoor
open Go.RowKit
set_option linter.unusedVariables false

variable {α : Type}
theorem splice_mid (A B C D : List α) (o : Nat) (ho : o = A.length) (h : D.length = B.length) : splice (A ++ (B ++ C)) o D = A ++ (D ++ C) := by
  subst ho
  unfold splice
  rw [List.take_left, ← List.append_assoc A B C, h, show A.length + B.length = (A ++ B).length by simp, List.drop_left]
/-- A row with a gap, and what lies behind it in the block. -/
def gc (z : α) (p : List α) (k : Nat) (s tl : List α) : List α := p ++ (List.replicate k z ++ (s ++ tl))
theorem gc_length (z : α) (p : List α) (k : Nat) (s tl : List α) : (gc z p k s tl).length = p.length + k + s.length + tl.length := by simp [gc]; omega
theorem gc_one {P : α → Prop} {z : α} {p : List α} {k : Nat} {s tl : List α} (hp : ∀ v ∈ p, P v) (hs : ∀ v ∈ s, P v) (ht : ∀ v ∈ tl, P v) (hz : P z) : ∀ v ∈ gc z p k s tl, P v := by
  intro v hv
  simp only [gc, List.mem_append] at hv
  rcases hv with h | h | h | h
  · exact hp v h
  · rw [List.eq_of_mem_replicate h]; exact hz
  · exact hs v h
  · exact ht v h
theorem gc_pre (z : α) (p : List α) (k : Nat) (s tl : List α) {j : Nat} (h : j < p.length) : (gc z p k s tl)[j]? = p[j]? := by
  unfold gc; rw [List.getElem?_append_left h]
theorem gc_suf (z : α) (p : List α) (k : Nat) (s tl : List α) {j o : Nat} (ho : o = p.length + k) (h : j < s.length) : (gc z p k s tl)[o + j]? = s[j]? := by
  subst ho
  unfold gc
  rw [List.getElem?_append_right (by omega), List.getElem?_append_right (by simp; omega), List.length_replicate, List.getElem?_append_left (by omega)]
  congr 1; omega
/-- the gap is opened further to the left -/
theorem gc_left (z : α) (p m : List α) (k : Nat) (s tl : List α) (a b : Nat) (ha : a = p.length) (hb : b = p.length + k) :
    splice (splice (gc z (p ++ m) k s tl) b m) a (List.replicate k z) = gc z p k (m ++ s) tl := by
  subst ha; subst hb
  have e : gc z (p ++ m) k s tl = (p ++ (m ++ List.replicate k z).take k) ++ ((m ++ List.replicate k z).drop k ++ (s ++ tl)) := by
    unfold gc
    rw [List.append_assoc p m, ← List.append_assoc m, List.append_assoc p, ← List.append_assoc (List.take k _), List.take_append_drop]
  rw [e, splice_mid _ _ _ m _ (by simp) (by simp), List.append_assoc p, splice_mid _ _ _ _ _ rfl (by simp)]
  simp [gc]
/-- the gap is opened further to the right -/
theorem gc_right (z : α) (p m : List α) (k : Nat) (s tl : List α) (a b : Nat) (ha : a = p.length) (hb : b = p.length + m.length) :
    splice (splice (gc z p k (m ++ s) tl) a m) b (List.replicate k z) = gc z (p ++ m) k s tl := by
  subst ha; subst hb
  have e : gc z p k (m ++ s) tl = p ++ ((List.replicate k z ++ m).take m.length ++ ((List.replicate k z ++ m).drop m.length ++ (s ++ tl))) := by
    unfold gc
    rw [← List.append_assoc (List.take _ _), List.take_append_drop]
    simp
  rw [e, splice_mid _ _ _ m _ rfl (by simp), ← List.append_assoc p m, splice_mid _ _ _ _ _ (by simp) (by simp)]
  simp [gc]
/-- the gap is filled at its begin -/
theorem gc_fill (z : α) (p m : List α) (k : Nat) (s tl : List α) (a : Nat) (ha : a = p.length) (h : m.length ≤ k) :
    splice (gc z p k s tl) a m = gc z (p ++ m) (k - m.length) s tl := by
  have e : gc z p k s tl = p ++ (List.replicate m.length z ++ (List.replicate (k - m.length) z ++ (s ++ tl))) := by
    unfold gc
    rw [← List.append_assoc (List.replicate _ _) (List.replicate _ _), List.replicate_append_replicate, show m.length + (k - m.length) = k by omega]
  rw [e, splice_mid _ _ _ m _ ha (by simp)]
  simp [gc]
/-- a row that was just made gets what stood ahead of the gap, and what stood behind it -/
theorem gc_new (z : α) (p s : List α) (n b : Nat) (h : p.length + s.length ≤ n) (hb : b = n - s.length) :
    splice (splice (List.replicate n z) 0 p) b s = gc z p (n - p.length - s.length) s [] := by
  subst hb
  have e : List.replicate n z = [] ++ (List.replicate p.length z ++ List.replicate (n - p.length) z) := by
    rw [List.replicate_append_replicate, List.nil_append]; congr 1; omega
  rw [e, splice_mid [] _ _ p 0 rfl (by simp), List.nil_append]
  have e2 : p ++ List.replicate (n - p.length) z = (p ++ List.replicate (n - p.length - s.length) z) ++ (List.replicate s.length z ++ []) := by
    rw [List.append_nil, List.append_assoc, List.replicate_append_replicate]; congr 2; omega
  rw [e2, splice_mid _ _ _ s _ (by simp; omega) (by simp)]
  simp [gc]
/-- the first of what stands behind the gap are swallowed -/
theorem gc_swallow (z : α) (p s : List α) (k n : Nat) (tl : List α) (a : Nat) (ha : a = p.length + k) (h : n ≤ s.length) :
    splice (gc z p k s tl) a (List.replicate n z) = gc z p (k + n) (s.drop n) tl := by
  have e : gc z p k s tl = (p ++ List.replicate k z) ++ (s.take n ++ (s.drop n ++ tl)) := by
    unfold gc
    rw [← List.append_assoc (List.take _ _), List.take_append_drop, List.append_assoc]
  rw [e, splice_mid _ _ _ _ _ (by simp [ha]) (by simp; omega)]
  simp only [gc, ← List.append_assoc]
  congr 2
  rw [List.append_assoc, List.replicate_append_replicate]
theorem gc_setp (z : α) (p : List α) (k : Nat) (s tl : List α) (j : Nat) (v : α) (h : j < p.length) : (gc z p k s tl).set j v = gc z (p.set j v) k s tl := by
  unfold gc; rw [List.set_append_left _ _ h]
theorem gc_sets (z : α) (p : List α) (k : Nat) (s tl : List α) (j o : Nat) (v : α) (ho : o = p.length + k + j) (h : j < s.length) : (gc z p k s tl).set o v = gc z p k (s.set j v) tl := by
  subst ho
  unfold gc
  rw [List.set_append_right _ _ (by omega), List.set_append_right _ _ (by simp; omega), List.set_append_left _ _ (by simp; omega)]
  congr 3
  congr 1
  simp; omega
theorem gc_take (z : α) (p : List α) (k : Nat) (s tl : List α) (n : Nat) (hn : n = p.length + k + s.length) : (gc z p k s tl).take n = gc z p k s [] := by
  have e : gc z p k s tl = gc z p k s [] ++ tl := by simp [gc]
  rw [e, List.take_left' (by rw [gc_length, hn]; rfl)]

/-! The line, wherever the gap is. -/
theorem line_left (p s : List α) (a : Nat) (h : a ≤ p.length) : (p ++ s).take a = p.take a ∧ (p ++ s).drop a = p.drop a ++ s := by
  refine ⟨?_, ?_⟩
  · rw [List.take_append_of_le_length h]
  · rw [List.drop_append_of_le_length h]
theorem line_right (p s : List α) (a : Nat) (h : p.length ≤ a) : (p ++ s).take a = p ++ s.take (a - p.length) ∧ (p ++ s).drop a = s.drop (a - p.length) := by
  refine ⟨?_, ?_⟩
  · rw [List.take_append, List.take_of_length_le h]
  · rw [List.drop_append, List.drop_of_length_le h, List.nil_append]
end Go.Proofs.YtfhfhjcdeeepbaaGreatDoor
