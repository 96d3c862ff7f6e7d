/-
  What Resize makes of a row, as plain lists.
-/
import Derived.Test.YtijbimofigkdkaaDoorRfMem
namespace Go.Proofs.YtijbimofigkdkaaDoor
open Go.RowKit
set_option linter.unusedVariables false

theorem Wf.append {l m : List Cl} (hl : Wf l) (hm : Wf m) : Wf (l ++ m) := by
  have get : ∀ (i : Nat) c, (l ++ m)[i]? = some c → (i < l.length ∧ l[i]? = some c) ∨ (l.length ≤ i ∧ m[i - l.length]? = some c) := fun i c h => by
    by_cases hi : i < l.length
    · rw [List.getElem?_append_left hi] at h; exact .inl ⟨hi, h⟩
    · rw [List.getElem?_append_right (by omega)] at h; exact .inr ⟨by omega, h⟩
  refine ⟨fun i c h => ?_, fun i c h h2 => ?_, fun i c h h0 => ?_, fun i c h h0 => ?_, fun i c h => ?_⟩
  · rcases get i c h with ⟨_, h⟩ | ⟨_, h⟩
    · exact hl.w _ _ h
    · exact hm.w _ _ h
  · rcases get i c h with ⟨hi, h⟩ | ⟨hi, h⟩
    · have h3 := hl.wide _ _ h h2
      have := (List.getElem?_eq_some_iff.1 h3).1
      rw [List.getElem?_append_left this]
      exact h3
    · have h3 := hm.wide _ _ h h2
      rw [List.getElem?_append_right (by omega), show i + 1 - l.length = i - l.length + 1 by omega]
      exact h3
  · rcases get i c h with ⟨hi, h⟩ | ⟨hi, h⟩
    · obtain ⟨j, d, hj, hd, hw⟩ := hl.tail _ _ h h0
      refine ⟨j, d, hj, ?_, hw⟩
      rw [List.getElem?_append_left (by omega)]
      exact hd
    · obtain ⟨j, d, hj, hd, hw⟩ := hm.tail _ _ h h0
      refine ⟨l.length + j, d, by omega, ?_, hw⟩
      rw [List.getElem?_append_right (by omega), show l.length + j - l.length = j by omega]
      exact hd
  · rcases get i c h with ⟨_, h⟩ | ⟨_, h⟩
    · exact hl.full _ _ h h0
    · exact hm.full _ _ h h0
  · rcases get i c h with ⟨_, h⟩ | ⟨_, h⟩
    · exact hl.short _ _ h
    · exact hm.short _ _ h
theorem Wf.take {l : List Cl} (hl : Wf l) (k : Nat) (hk : ∀ c, l[k - 1]? = some c → c.w ≠ 2) : Wf (l.take k) := by
  have get : ∀ (i : Nat) c, (l.take k)[i]? = some c → i < k ∧ l[i]? = some c := fun i c h => by
    rw [List.getElem?_take] at h
    split at h
    · next hi => exact ⟨hi, h⟩
    · cases h
  refine ⟨fun i c h => hl.w _ _ (get i c h).2, fun i c h h2 => ?_, fun i c h h0 => ?_, fun i c h h0 => hl.full _ _ (get i c h).2 h0, fun i c h => hl.short _ _ (get i c h).2⟩
  · obtain ⟨hi, h⟩ := get i c h
    have h3 := hl.wide _ _ h h2
    rw [List.getElem?_take, if_pos]
    · exact h3
    · rcases Nat.lt_or_ge (i + 1) k with h' | h'
      · exact h'
      · exfalso
        have : i = k - 1 := by omega
        subst this
        exact hk c h h2
  · obtain ⟨hi, h⟩ := get i c h
    obtain ⟨j, d, hj, hd, hw⟩ := hl.tail _ _ h h0
    refine ⟨j, d, hj, ?_, hw⟩
    rw [List.getElem?_take, if_pos (by omega)]
    exact hd

/-- a row behind the copy -/
def cpyM (l : List Cl) (W : Nat) : List Cl := l.take W ++ List.replicate (W - l.length) bl
theorem cpyM_length (l : List Cl) (W : Nat) : (cpyM l W).length = W := by unfold cpyM; simp; omega
theorem cpyM_splice (l : List Cl) (W : Nat) : splice (List.replicate W bl) 0 (l.take W) = cpyM l W := by
  unfold splice cpyM
  rw [List.take_zero, List.nil_append, Nat.zero_add, List.drop_replicate, List.length_take]
  congr 2
  omega
/-- the last cell of it, and the row that fits -/
theorem fit_cpy {l : List Cl} (hl : Wf l) (W : Nat) (h1 : 1 ≤ W) (hl1 : 1 ≤ l.length) : ∃ x, (cpyM l W)[W - 1]? = some x ∧ fitM l W = (if x.w = 2 then (cpyM l W).set (W - 1) bl else cpyM l W) ∧ Wf (fitM l W) := by
  rcases Nat.lt_or_ge l.length W with hW | hW
  · -- wider
    have hc : cpyM l W = l ++ List.replicate (W - l.length) bl := by unfold cpyM; rw [List.take_of_length_le (by omega)]
    have hx : (cpyM l W)[W - 1]? = some bl := by
      rw [hc, List.getElem?_append_right (by omega), List.getElem?_replicate, if_pos (by omega)]
    have hlast : l[l.length - 1]? = some (l[l.length - 1]'(by omega)) := List.getElem?_eq_getElem _
    have hnw : (l[l.length - 1]'(by omega)).w ≠ 2 := fun e => by
      have := hl.wide _ _ hlast e
      have := (List.getElem?_eq_some_iff.1 this).1
      omega
    have hf : fitM l W = cpyM l W := by
      unfold fitM cpyM
      simp only
      rw [List.take_of_length_le (by omega), hlast]
      simp only
      rw [if_neg hnw]
    refine ⟨bl, hx, by rw [hf, if_neg (by simp [bl])], ?_⟩
    rw [hf, hc]
    exact hl.append (Wf.blanks _)
  · have hlen : (l.take W).length = W := by rw [List.length_take]; omega
    have hc : cpyM l W = l.take W := by unfold cpyM; rw [show W - l.length = 0 by omega]; simp
    have hlast : l[W - 1]? = some (l[W - 1]'(by omega)) := List.getElem?_eq_getElem _
    have hlt : (l.take W)[W - 1]? = some (l[W - 1]'(by omega)) := by rw [List.getElem?_take, if_pos (by omega)]; exact hlast
    generalize l[W - 1]'(by omega) = x at hlast hlt
    have hf : fitM l W = if x.w = 2 then (l.take W).set (W - 1) bl else l.take W := by
      unfold fitM
      simp only
      rw [hlen, hlt]
      simp
    refine ⟨x, by rw [hc]; exact hlt, by rw [hf, hc], ?_⟩
    rw [hf]
    split
    · next h2 =>
      have e : (l.take W).set (W - 1) bl = (blankM l (W - 1)).take W := by
        unfold blankM
        rw [hlast]
        simp only
        rw [if_pos h2, show W - 1 + 1 = W by omega, List.take_set, List.take_set]
        congr 1
        rw [List.set_eq_of_length_le (by rw [hlen]; omega)]
      rw [e]
      refine (hl.blank (W - 1)).take W fun c hcc => ?_
      rw [blankM_self hl (by omega)] at hcc
      injection hcc with hcc
      subst hcc
      simp [bl]
    · next h2 =>
      refine hl.take W fun c hcc => ?_
      rw [hlast] at hcc
      injection hcc with hcc
      subst hcc
      exact h2
end Go.Proofs.YtijbimofigkdkaaDoor
