/-
  What Write comes to: the plain mathematics.
-/
import Derived.Test.YtfmkeeaenjeneaaGreatDoorTmOne
namespace Go.Proofs.YtfmkeeaenjeneaaGreatDoor
open Go.RowKit
set_option linter.unusedVariables false

theorem stepT_stuck {T : TS} {B : List UInt8} (h : (stepT T B).2 = 0) : B.length < 32 := by
  cases B with
  | nil => simp
  | cons c l =>
    by_cases h27 : c = 27
    · subst h27
      rw [stepT_esc] at h
      simp only at h
      cases l with
      | nil => simp
      | cons d m =>
        unfold cutE at h
        simp only [List.getElem?_cons_succ, List.getElem?_cons_zero] at h
        by_cases h91 : d = 91
        · rw [if_pos h91] at h
          unfold cutS at h
          by_cases h32 : 32 ≤ midN (27 :: d :: m)
          · rw [if_pos h32] at h; cases h
          · rw [if_neg h32] at h
            cases hx : (27 :: d :: m)[midN (27 :: d :: m)]? with
            | none =>
              have := List.getElem?_eq_none_iff.1 hx
              omega
            | some x =>
              rw [hx] at h
              simp only at h
              have h2 : 2 ≤ midN (27 :: d :: m) := by unfold midN parN; omega
              split at h
              · simp at h
              · simp at h; omega
        · rw [if_neg h91] at h
          split at h <;> simp at h
    · by_cases h32 : c < 32 ∨ c = 127
      · rw [stepT_ctl h27 h32] at h
        simp at h
      · rw [stepT_rune h27 h32] at h
        by_cases hm : (nx (c :: l)).2.2 = true
        · have := nx_more hm
          omega
        · rw [if_neg hm] at h
          have := (nx_n (c :: l) (by simpa using hm)).1
          simp only at h
          omega
theorem runT_stuck : ∀ (f : Nat) (T : TS) (B : List UInt8), B.length ≤ f → (stepT (runT f T B).1 (runT f T B).2).2 = 0 := by
  intro f
  induction f with
  | zero =>
    intro T B h
    have hb : B = [] := List.eq_nil_of_length_eq_zero (by omega)
    subst hb
    rfl
  | succ f ih =>
    intro T B h
    rw [runT]
    by_cases h0 : (stepT T B).2 = 0
    · rw [if_pos h0]; exact h0
    · rw [if_neg h0]
      exact ih _ _ (by rw [List.length_drop]; omega)
theorem bytesT_lt (T : TS) (B : List UInt8) : (bytesT T B).2.length < 32 := stepT_stuck (runT_stuck _ T B (Nat.le_refl _))
theorem bytesT_step {T : TS} {B : List UInt8} (h : (stepT T B).2 ≠ 0) : bytesT T B = bytesT (stepT T B).1 (B.drop (stepT T B).2) := by
  have hle := stepT_le T B
  unfold bytesT
  obtain ⟨g, hg⟩ : ∃ g, B.length = g + 1 := ⟨B.length - 1, by omega⟩
  conv => lhs; rw [hg, runT, if_neg h]
  exact runT_enough _ _ _ _ (by rw [List.length_drop]; omega) (Nat.le_refl _)
theorem bytesT_stop {T : TS} {B : List UInt8} (h : (stepT T B).2 = 0) : bytesT T B = (T, B) := by
  unfold bytesT
  cases hB : B.length with
  | zero => rfl
  | succ g => rw [runT, if_pos h]
theorem bytesT_idem (T : TS) (B : List UInt8) : bytesT (bytesT T B).1 (bytesT T B).2 = bytesT T B := bytesT_stop (runT_stuck _ T B (Nat.le_refl _))

/-- what a terminal is behind bytes -/
def wrT (s : TS × List UInt8) (b : List UInt8) : TS × List UInt8 := b.foldl (fun s c => bytesT s.1 (s.2 ++ [c])) s
theorem wrT_snoc (s : TS × List UInt8) (b : List UInt8) (c : UInt8) : wrT s (b ++ [c]) = bytesT (wrT s b).1 ((wrT s b).2 ++ [c]) := by unfold wrT; rw [List.foldl_append]; rfl
theorem wrT_append (s : TS × List UInt8) (b c : List UInt8) : wrT s (b ++ c) = wrT (wrT s b) c := by unfold wrT; rw [List.foldl_append]
theorem wrT_take (s : TS × List UInt8) (b : List UInt8) {k : Nat} (h : k < b.length) : wrT s (b.take (k + 1)) = bytesT (wrT s (b.take k)).1 ((wrT s (b.take k)).2 ++ [b[k]]) := by
  rw [List.take_succ_eq_append_getElem h, wrT_snoc]
theorem wrT_lt {s : TS × List UInt8} (hs : s.2.length < 32) (b : List UInt8) : (wrT s b).2.length < 32 := by
  rcases List.eq_nil_or_concat b with rfl | ⟨l, c, rfl⟩
  · exact hs
  · rw [List.concat_eq_append, wrT_snoc]; exact bytesT_lt _ _
/-- bytes one by one make what they make at once -/
theorem wrT_eq (T : TS) (B : List UInt8) (hB : (stepT T B).2 = 0) : ∀ (n : Nat) (b : List UInt8), b.length = n → wrT (T, B) b = bytesT T (B ++ b) := by
  intro n
  induction n with
  | zero =>
    intro b hb
    have : b = [] := List.eq_nil_of_length_eq_zero hb
    subst this
    rw [List.append_nil, bytesT_stop hB]; rfl
  | succ n ih =>
    intro b hb
    rcases List.eq_nil_or_concat b with rfl | ⟨l, c, rfl⟩
    · simp at hb
    · rw [List.concat_eq_append] at hb ⊢
      rw [wrT_snoc, ih l (by simpa using hb), ← List.append_assoc, ← bytesT_append]
/-- parts: where each lies, its bytes, its capacity -/
abbrev Part := Option Addr × List UInt8 × Nat
def wrA (s : TS × List UInt8) (vs : List Part) : TS × List UInt8 := vs.foldl (fun s v => wrT s v.2.1) s
theorem wrA_take (s : TS × List UInt8) (vs : List Part) {k : Nat} (h : k < vs.length) : wrA s (vs.take (k + 1)) = wrT (wrA s (vs.take k)) vs[k].2.1 := by
  unfold wrA; rw [List.take_succ_eq_append_getElem h, List.foldl_append]; rfl
theorem wrA_lt {s : TS × List UInt8} (hs : s.2.length < 32) : ∀ vs : List Part, (wrA s vs).2.length < 32 := by
  intro vs
  induction vs generalizing s with
  | nil => exact hs
  | cons v vs ih => exact ih (wrT_lt hs _)
end Go.Proofs.YtfmkeeaenjeneaaGreatDoor
