/-
  The plain mathematics of decoding a whole text. No program is named here.
-/
import Derived.Test.YteolafeeggjblaaDoorRnRefM
namespace Go.Proofs.YteolafeeggjblaaDoor

theorem nxt_pre (k : Nat) : ∀ (s r lo hi : Int) (t q : List UInt8), (nxt k s r lo hi t).2.2 = false → nxt k s r lo hi (t ++ q) = nxt k s r lo hi t := by
  induction k with
  | zero => intro s r lo hi t q _; rfl
  | succ k ih =>
    intro s r lo hi t q h
    cases t with
    | nil => simp [nxt] at h
    | cons c t =>
      simp only [List.cons_append]
      rw [nxt, nxt]
      rw [nxt] at h
      by_cases hb : (c.toNat : Int) < lo ∨ hi < (c.toNat : Int)
      · rw [if_pos hb, if_pos hb]
      · rw [if_neg hb, if_neg hb]
        rw [if_neg hb] at h
        exact ih _ _ _ _ _ _ h
theorem nx_pre (p q : List UInt8) (h : (nx p).2.2 = false) : nx (p ++ q) = nx p := by
  cases p with
  | nil => simp [nx] at h
  | cons c t =>
    simp only [List.cons_append]
    by_cases h0 : hsz c.toNat = 0
    · simp [nx, h0]
    · by_cases h1 : hsz c.toNat = 1
      · simp [nx, h1]
      · unfold nx at h ⊢
        simp only at h ⊢
        rw [if_neg h0, if_neg h1] at h ⊢
        rw [if_neg h0, if_neg h1]
        exact nxt_pre _ _ _ _ _ _ _ h
theorem nxt_n (k : Nat) : ∀ (s r lo hi : Int) (t : List UInt8), 1 ≤ s → (nxt k s r lo hi t).2.2 = false → 1 ≤ (nxt k s r lo hi t).2.1 ∧ (nxt k s r lo hi t).2.1 ≤ max s 1 := by
  induction k with
  | zero => intro s r lo hi t hs _; simp [nxt]; omega
  | succ k ih =>
    intro s r lo hi t hs h
    cases t with
    | nil => simp [nxt] at h
    | cons c t =>
      rw [nxt] at h ⊢
      by_cases hb : (c.toNat : Int) < lo ∨ hi < (c.toNat : Int)
      · rw [if_pos hb]; simp; omega
      · rw [if_neg hb] at h ⊢
        exact ih _ _ _ _ _ hs h
theorem nx_n (l : List UInt8) (h : (nx l).2.2 = false) : 1 ≤ (nx l).2.1 ∧ (nx l).2.1 ≤ 4 := by
  cases l with
  | nil => simp [nx] at h
  | cons c t =>
    have hs := hsz_cases c.toNat
    unfold nx at h ⊢
    simp only at h ⊢
    by_cases h0 : hsz c.toNat = 0
    · rw [if_pos h0]; simp
    · rw [if_neg h0] at h ⊢
      by_cases h1 : hsz c.toNat = 1
      · rw [if_pos h1]; simp
      · rw [if_neg h1] at h ⊢
        have := nxt_n _ _ _ _ _ t (by omega) h
        omega

/-- one step of decoding: the rune, and how many bytes it takes -/
def stp (l : List UInt8) : Int × Nat := if (nx l).2.2 = true then (65533, 1) else ((nx l).1, (nx l).2.1.toNat)
theorem stp_pos (l : List UInt8) : 1 ≤ (stp l).2 := by
  unfold stp
  split
  · simp
  · next h => have := nx_n l (by simpa using h); simp; omega
theorem stp_le (l : List UInt8) : (stp l).2 ≤ 4 := by
  unfold stp
  split
  · simp
  · next h => have := nx_n l (by simpa using h); simp; omega
theorem stp_pre (p q : List UInt8) (h : (nx p).2.2 = false) : stp (p ++ q) = ((nx p).1, (nx p).2.1.toNat) := by
  unfold stp
  rw [nx_pre p q h, h]
  rfl
theorem stp_more (l : List UInt8) (h : (nx l).2.2 = true) : stp l = (65533, 1) := by unfold stp; rw [if_pos h]

/-- the runes of a text and their places, from place a on; f: more than enough steps -/
def rns : Nat → Nat → List UInt8 → List (Nat × Int)
  | 0, _, _ => []
  | f + 1, a, l => if l = [] then [] else (a, (stp l).1) :: rns f (a + (stp l).2) (l.drop (stp l).2)
theorem rns_nil (f a : Nat) : rns f a [] = [] := by cases f <;> simp [rns]
theorem rns_fuel (f : Nat) : ∀ (g a : Nat) (l : List UInt8), l.length ≤ f → l.length ≤ g → rns f a l = rns g a l := by
  induction f with
  | zero =>
    intro g a l hf _
    have : l = [] := List.eq_nil_of_length_eq_zero (by omega)
    subst this
    rw [rns_nil, rns_nil]
  | succ f ih =>
    intro g a l hf hg
    by_cases h : l = []
    · subst h; rw [rns_nil, rns_nil]
    · have hl : 0 < l.length := List.length_pos_iff.2 h
      obtain ⟨g, rfl⟩ : ∃ m, g = m + 1 := ⟨g - 1, by omega⟩
      have hp := stp_pos l
      rw [rns, rns, if_neg h, if_neg h, ih g _ _ (by simp; omega) (by simp; omega)]
/-- the runes of a text and their places -/
def rnsOf (l : List UInt8) : List (Nat × Int) := rns l.length 0 l
def rnsAt (l : List UInt8) (a : Nat) : List (Nat × Int) := rns l.length a (l.drop a)
theorem rnsAt_zero (l : List UInt8) : rnsAt l 0 = rnsOf l := rfl
theorem rnsAt_end (l : List UInt8) (a : Nat) (h : l.length ≤ a) : rnsAt l a = [] := by
  unfold rnsAt
  rw [List.drop_eq_nil_of_le h, rns_nil]
theorem rnsAt_step (l : List UInt8) (a : Nat) (h : a < l.length) : rnsAt l a = (a, (stp (l.drop a)).1) :: rnsAt l (a + (stp (l.drop a)).2) := by
  unfold rnsAt
  have hne : l.drop a ≠ [] := by
    intro e
    have := congrArg List.length e
    simp at this
    omega
  have hp := stp_pos (l.drop a)
  obtain ⟨f, hf⟩ : ∃ f, l.length = f + 1 := ⟨l.length - 1, by omega⟩
  rw [hf, rns, if_neg hne, List.drop_drop]
  rw [rns_fuel f (f + 1) _ _ (by simp; omega) (by simp; omega)]
end Go.Proofs.YteolafeeggjblaaDoor
