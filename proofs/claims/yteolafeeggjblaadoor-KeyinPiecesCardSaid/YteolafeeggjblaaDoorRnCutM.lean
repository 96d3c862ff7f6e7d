/-
  The plain mathematics of cutting bytes that come in pieces. No program is named here.
-/
import Derived.Test.YteolafeeggjblaaDoorRnAllM
namespace Go.Proofs.YteolafeeggjblaaDoor

/-- the first place from a on, of k places, from which on the rest is incomplete -/
def cutFrom : Nat → Nat → List UInt8 → Option Nat
  | 0, _, _ => none
  | k + 1, a, l => if (nx (l.drop a)).2.2 = true then some a else cutFrom k (a + 1) l
def cutAt (l : List UInt8) : Option Nat := cutFrom (l.length - (l.length - 3)) (l.length - 3) l
def cutW (l : List UInt8) : List UInt8 := match cutAt l with | some a => l.take a | none => l
def cutR (l : List UInt8) : List UInt8 := match cutAt l with | some a => l.drop a | none => []

theorem cutFrom_some : ∀ (k a b : Nat) (l : List UInt8), cutFrom k a l = some b → a ≤ b ∧ b < a + k ∧ (nx (l.drop b)).2.2 = true ∧ ∀ i, a ≤ i → i < b → (nx (l.drop i)).2.2 = false := by
  intro k
  induction k with
  | zero => intro a b l h; simp [cutFrom] at h
  | succ k ih =>
    intro a b l h
    rw [cutFrom] at h
    by_cases hm : (nx (l.drop a)).2.2 = true
    · rw [if_pos hm] at h
      injection h with h
      subst h
      exact ⟨by omega, by omega, hm, fun i h1 h2 => by omega⟩
    · rw [if_neg hm] at h
      obtain ⟨h1, h2, h3, h4⟩ := ih _ _ _ h
      refine ⟨by omega, by omega, h3, fun i hi1 hi2 => ?_⟩
      rcases Nat.eq_or_lt_of_le hi1 with e | e
      · subst e; simpa using hm
      · exact h4 i (by omega) hi2
theorem cutFrom_none : ∀ (k a : Nat) (l : List UInt8), cutFrom k a l = none → ∀ i, a ≤ i → i < a + k → (nx (l.drop i)).2.2 = false := by
  intro k
  induction k with
  | zero => intro a l _ i h1 h2; omega
  | succ k ih =>
    intro a l h i h1 h2
    rw [cutFrom] at h
    by_cases hm : (nx (l.drop a)).2.2 = true
    · rw [if_pos hm] at h; cases h
    · rw [if_neg hm] at h
      rcases Nat.eq_or_lt_of_le h1 with e | e
      · subst e; simpa using hm
      · exact ih _ _ h i (by omega) (by omega)

/-- what is incomplete has fewer than four bytes -/
theorem nxt_more (k : Nat) : ∀ (s r lo hi : Int) (t : List UInt8), (nxt k s r lo hi t).2.2 = true → t.length < k := by
  induction k with
  | zero => intro s r lo hi t h; simp [nxt] at h
  | succ k ih =>
    intro s r lo hi t h
    cases t with
    | nil => simp
    | cons c t =>
      rw [nxt] at h
      split at h
      · cases h
      · have := ih _ _ _ _ _ h; simp; omega
theorem nx_more {l : List UInt8} (h : (nx l).2.2 = true) : l.length < 4 := by
  cases l with
  | nil => simp
  | cons c t =>
    have hs := hsz_cases c.toNat
    unfold nx at h
    simp only at h
    split at h
    · cases h
    · split at h
      · cases h
      · have := nxt_more _ _ _ _ _ _ h
        simp; omega
/-- an incomplete rest begins with a byte that continues nothing -/
theorem nx_lead {c : UInt8} {t : List UInt8} (h : (nx (c :: t)).2.2 = true) : 191 < (c.toNat : Int) := by
  have hs := hsz_cases c.toNat
  unfold nx at h
  simp only at h
  split at h
  · cases h
  · split at h
    · cases h
    · omega
/-- what is incomplete, with such a byte behind it, is none: one byte that is none stands first -/
theorem nxt_break (k : Nat) : ∀ (s r lo hi : Int) (t q : List UInt8) (c : UInt8), (nxt k s r lo hi t).2.2 = true → hi ≤ 191 → 191 < (c.toNat : Int) → nxt k s r lo hi (t ++ c :: q) = (65533, 1, false) := by
  induction k with
  | zero => intro s r lo hi t q c h; simp [nxt] at h
  | succ k ih =>
    intro s r lo hi t q c h hh hc
    cases t with
    | nil => rw [List.nil_append, nxt, if_pos (.inr (by omega))]
    | cons d t =>
      rw [nxt] at h
      rw [List.cons_append, nxt]
      split at h
      · cases h
      · next hb => rw [if_neg hb]; exact ih _ _ _ _ _ _ _ h (by omega) hc
theorem stp_break {p q : List UInt8} {c : UInt8} (hp : p ≠ []) (h : (nx p).2.2 = true) (hc : 191 < (c.toNat : Int)) : stp (p ++ c :: q) = stp p := by
  rw [stp_more p h]
  cases p with
  | nil => exact absurd rfl hp
  | cons d t =>
    have hs := hsz_cases d.toNat
    have hhi : hhi d.toNat ≤ 191 := by unfold hhi; (repeat' split) <;> omega
    unfold stp
    have e : nx (d :: t ++ c :: q) = (65533, 1, false) := by
      rw [List.cons_append]
      unfold nx at h ⊢
      simp only at h ⊢
      split at h
      · cases h
      · split at h
        · cases h
        · next h0 h1 => rw [if_neg h0, if_neg h1]; exact nxt_break _ _ _ _ _ _ _ _ h hhi hc
    rw [e]
    rfl

theorem nxt_len (k : Nat) : ∀ (s r lo hi : Int) (t : List UInt8), 1 ≤ s → s ≤ (t.length : Int) + 1 ∨ (k : Int) + 1 = s → (nxt k s r lo hi t).2.2 = false → (nxt k s r lo hi t).2.1 ≤ (t.length : Int) + 1 ∨ (k : Int) + 1 ≠ s := by
  intro s r lo hi t h1 h2 h3
  by_cases hk : (k : Int) + 1 = s
  · left
    clear h2
    induction k generalizing s r lo hi t with
    | zero => simp [nxt]; omega
    | succ k ih =>
      cases t with
      | nil => simp [nxt] at h3
      | cons c t =>
        rw [nxt] at h3 ⊢
        split
        · simp; omega
        · next hb =>
          rw [if_neg hb] at h3
          have key : ∀ (k : Nat) (s r lo hi : Int) (t : List UInt8), (nxt k s r lo hi t).2.2 = false → (nxt k s r lo hi t).2.1 = 1 ∨ ((nxt k s r lo hi t).2.1 = s ∧ k ≤ t.length) := by
            intro k
            induction k with
            | zero => intro s r lo hi t _; right; simp [nxt]
            | succ k ih2 =>
              intro s r lo hi t h
              cases t with
              | nil => simp [nxt] at h
              | cons c t =>
                rw [nxt] at h ⊢
                split
                · left; rfl
                · next hb => rw [if_neg hb] at h; rcases ih2 _ _ _ _ _ h with e | e
                             · left; exact e
                             · right; exact ⟨e.1, by simp; omega⟩
          rcases key _ _ _ _ _ _ h3 with e | e
          · rw [e]; simp; omega
          · rw [e.1]; simp; omega
  · right; exact hk
theorem nx_len {l : List UInt8} (hl : l ≠ []) (h : (nx l).2.2 = false) : (nx l).2.1 ≤ (l.length : Int) := by
  cases l with
  | nil => exact absurd rfl hl
  | cons c t =>
    have hs := hsz_cases c.toNat
    unfold nx at h ⊢
    simp only at h ⊢
    split
    · simp; omega
    · next h0 =>
      rw [if_neg h0] at h
      split
      · simp; omega
      · next h1 =>
        rw [if_neg h1] at h
        rcases nxt_len _ (hsz c.toNat) _ _ _ t (by omega) (.inr (by omega)) h with e | e
        · simp only [List.length_cons]; omega
        · exact absurd (by omega) e
theorem stp_len {l : List UInt8} (hl : l ≠ []) : (stp l).2 ≤ l.length := by
  unfold stp
  split
  · have := List.length_pos_iff.2 hl; simp; omega
  · next h => have := nx_len hl (by simpa using h); simp; omega

/-- the runes alone -/
def dec (f : Nat) (l : List UInt8) : List Int := (rns f 0 l).map (·.2)
theorem rns_runes (f : Nat) : ∀ (a b : Nat) (l : List UInt8), (rns f a l).map (·.2) = (rns f b l).map (·.2) := by
  induction f with
  | zero => intro a b l; rfl
  | succ f ih =>
    intro a b l
    rw [rns, rns]
    split
    · rfl
    · simp only [List.map_cons]; rw [ih (a + (stp l).2) (b + (stp l).2)]
def decR (l : List UInt8) : List Int := (rnsOf l).map (·.2)
theorem decR_nil : decR [] = [] := rfl
theorem decR_step {l : List UInt8} (hl : l ≠ []) : decR l = (stp l).1 :: decR (l.drop (stp l).2) := by
  unfold decR rnsOf
  have hp := stp_pos l
  have h0 := List.length_pos_iff.2 hl
  obtain ⟨f, hf⟩ : ∃ f, l.length = f + 1 := ⟨l.length - 1, by omega⟩
  rw [hf, rns, if_neg hl]
  simp only [List.map_cons]
  congr 1
  rw [rns_runes f _ 0, rns_fuel f _ _ _ (by simp; omega) (Nat.le_refl _)]
/-- decoding goes on behind what is decoded alone, where no step looks across -/
theorem decR_append (z : List UInt8) : ∀ (n : Nat) (p : List UInt8), p.length ≤ n → (∀ a, a < p.length → stp (p.drop a ++ z) = stp (p.drop a)) → decR (p ++ z) = decR p ++ decR z := by
  intro n
  induction n with
  | zero =>
    intro p hp _
    have : p = [] := List.eq_nil_of_length_eq_zero (by omega)
    subst this
    simp [decR_nil]
  | succ n ih =>
    intro p hp h
    by_cases he : p = []
    · subst he; simp [decR_nil]
    · have h0 := List.length_pos_iff.2 he
      have hs : stp (p ++ z) = stp p := by simpa using h 0 h0
      have hl := stp_len he
      have hps := stp_pos p
      rw [decR_step (l := p ++ z) (by simp [he]), decR_step he, hs]
      rw [List.drop_append_of_le_length hl]
      rw [ih (p.drop (stp p).2) (by simp; omega) ?_]
      · simp
      · intro a ha
        rw [List.drop_drop]
        have := h ((stp p).2 + a) (by simp at ha; omega)
        simpa using this
/-- bytes cut, and whatever follows -/
theorem dec_cut (l q : List UInt8) : decR (l ++ q) = decR (cutW l) ++ decR (cutR l ++ q) := by
  unfold cutW cutR
  cases hc : cutAt l with
  | none =>
    simp only [List.nil_append]
    refine decR_append q _ l (Nat.le_refl _) fun a ha => ?_
    have hm : (nx (l.drop a)).2.2 = false := by
      rcases Nat.lt_or_ge a (l.length - 3) with h | h
      · cases hx : (nx (l.drop a)).2.2 with
        | false => rfl
        | true => have := nx_more hx; simp at this; omega
      · exact cutFrom_none _ _ _ hc a h (by omega)
    rw [stp_pre _ _ hm]
    unfold stp
    rw [hm]; rfl
  | some b =>
    simp only
    obtain ⟨h1, h2, h3, h4⟩ := cutFrom_some _ _ _ _ hc
    have hb : b < l.length := by omega
    have hl : l ++ q = l.take b ++ (l.drop b ++ q) := by rw [← List.append_assoc, List.take_append_drop]
    rw [hl]
    refine decR_append _ _ (l.take b) (Nat.le_refl _) fun a ha => ?_
    have hab : a < b := by simp at ha; omega
    have hne : (l.take b).drop a ≠ [] := by
      intro e
      have := congrArg List.length e
      simp at this
      omega
    obtain ⟨c, t, hct⟩ : ∃ c t, l.drop b = c :: t := by
      cases hx : l.drop b with
      | nil => have := congrArg List.length hx; simp at this; omega
      | cons c t => exact ⟨c, t, rfl⟩
    rw [hct] at h3
    have hlead := nx_lead h3
    rw [hct, List.cons_append]
    cases hm : (nx ((l.take b).drop a)).2.2 with
    | true => exact stp_break hne hm hlead
    | false =>
      rw [stp_pre _ _ hm]
      unfold stp
      rw [hm]; rfl
theorem cutR_le (l : List UInt8) : (cutR l).length ≤ 3 := by
  unfold cutR
  cases hc : cutAt l with
  | none => simp
  | some b =>
    obtain ⟨h1, h2, h3, h4⟩ := cutFrom_some _ _ _ _ hc
    simp
    omega
end Go.Proofs.YteolafeeggjblaaDoor
