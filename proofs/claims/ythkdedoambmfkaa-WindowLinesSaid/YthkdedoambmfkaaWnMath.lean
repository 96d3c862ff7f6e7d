/-
  Plain mathematics: the part of a line that is shown (greedy counts of widths). No program is named here.
-/
import Derived.WalkKit
namespace Go.Proofs.Ythkdedoambmfkaa
set_option linter.unusedVariables false

/-- a width, as it counts -/
def wd (x : Int) : Int := if x = 2 then 2 else 1
theorem wd_ge (x : Int) : 1 ≤ wd x ∧ wd x ≤ 2 := by unfold wd; split <;> omega
/-- the sum of widths -/
def sm : List Int → Int
  | [] => 0
  | x :: l => wd x + sm l
theorem sm_bd (l : List Int) : (l.length : Int) ≤ sm l ∧ sm l ≤ 2 * l.length := by
  induction l with
  | nil => simp [sm]
  | cons x l ih => have := wd_ge x; simp only [sm, List.length_cons]; omega
theorem sm_append (a b : List Int) : sm (a ++ b) = sm a + sm b := by
  induction a with
  | nil => simp [sm]
  | cons x l ih => simp only [List.cons_append, sm, ih]; omega
theorem sm_reverse (l : List Int) : sm l.reverse = sm l := by
  induction l with
  | nil => rfl
  | cons x l ih => rw [List.reverse_cons, sm_append, ih]; simp [sm]; omega
/-- how many of them, from the first one on, have room together -/
def fitN (R : Int) : List Int → Nat
  | [] => 0
  | x :: l => if R - wd x < 0 then 0 else fitN (R - wd x) l + 1
theorem fit_iff (l : List Int) : ∀ (R : Int) (k : Nat), k ≤ fitN R l ↔ k = 0 ∨ (k ≤ l.length ∧ sm (l.take k) ≤ R) := by
  induction l with
  | nil => intro R k; simp [fitN]; omega
  | cons x l ih =>
    intro R k
    cases k with
    | zero => simp
    | succ k =>
      have hx := wd_ge x
      have hb := sm_bd (l.take k)
      simp only [fitN, List.take_succ_cons, sm, List.length_cons]
      by_cases h : R - wd x < 0
      · rw [if_pos h]; omega
      · rw [if_neg h]
        have h1 := ih (R - wd x) k
        by_cases hk : k = 0
        · subst hk; simp [sm]; omega
        · constructor
          · intro h2
            rcases h1.1 (by omega) with h3 | h3
            · exact absurd h3 hk
            · exact .inr ⟨by omega, by omega⟩
          · intro h2
            rcases h2 with h3 | h3
            · omega
            · have := h1.2 (.inr ⟨by omega, by omega⟩); omega
theorem fit_le (R : Int) (l : List Int) : fitN R l ≤ l.length := by
  have := (fit_iff l R (fitN R l)).1 (Nat.le_refl _); omega
/-- one more round of the count -/
theorem fit_snoc (R : Int) (a : List Int) (x : Int) (b : List Int) (h : a.length ≤ fitN R (a ++ x :: b)) : (fitN R (a ++ x :: b) = a.length ↔ R - sm a - wd x < 0) := by
  have hl : (a ++ x :: b).take (a.length + 1) = a ++ [x] := by
    rw [show a ++ x :: b = (a ++ [x]) ++ b by simp, List.take_append_of_le_length (by simp), List.take_of_length_le (by simp)]
  have h1 := fit_iff (a ++ x :: b) R (a.length + 1)
  rw [hl, sm_append] at h1
  simp only [sm, List.length_append, List.length_cons] at h1
  constructor
  · intro e
    by_cases hn : R - sm a - wd x < 0
    · exact hn
    · have := h1.2 (.inr ⟨by omega, by omega⟩); omega
  · intro e
    by_cases hn : a.length + 1 ≤ fitN R (a ++ x :: b)
    · rcases h1.1 hn with h2 | h2 <;> omega
    · omega
/-- the cursor, as it counts -/
def clampN (c : Int) (n : Nat) : Nat := (min (max c 0) n).toNat
theorem clampN_le (c : Int) (n : Nat) : clampN c n ≤ n := by unfold clampN; omega
/-- the widths from a place up to another one -/
def smR (L : List Int) (i j : Nat) : Int := sm ((L.take j).drop i)
theorem smR_bd (L : List Int) (i j : Nat) : 0 ≤ smR L i j ∧ smR L i j ≤ 2 * L.length := by
  have h := sm_bd ((L.take j).drop i)
  have : ((L.take j).drop i).length ≤ L.length := by simp; omega
  unfold smR; omega
theorem smR_succ (L : List Int) (i j : Nat) (h : i ≤ j) (hj : j < L.length) : smR L i (j + 1) = smR L i j + wd L[j] := by
  unfold smR
  rw [List.take_succ_eq_append_getElem hj, List.drop_append_of_le_length (by simp; omega), sm_append]
  simp [sm]
theorem smR_self (L : List Int) (i : Nat) : smR L i i = 0 := by
  unfold smR; rw [List.drop_eq_nil_of_le (by simp; omega)]; rfl
/-- the width at the cursor -/
def tkW (L : List Int) (c : Nat) : Int := match L[c]? with | some x => wd x | none => 1
theorem tkW_bd (L : List Int) (c : Nat) : 1 ≤ tkW L c ∧ tkW L c ≤ 2 := by
  unfold tkW; split
  · exact wd_ge _
  · omega
/-- where what is shown begins, and where it ends -/
def lnA (L : List Int) (c : Nat) (room : Int) : Nat := if room < 1 then c else c - fitN (room - tkW L c) (L.take c).reverse
def lnB (L : List Int) (c : Nat) (room : Int) : Nat := if room < 1 then c else lnA L c room + fitN room (L.drop (lnA L c room))
theorem lnA_le (L : List Int) (c : Nat) (room : Int) : lnA L c room ≤ c := by unfold lnA; split <;> omega
theorem lnB_le (L : List Int) (c : Nat) (room : Int) (hc : c ≤ L.length) : lnA L c room ≤ lnB L c room ∧ lnB L c room ≤ L.length := by
  have h1 := lnA_le L c room
  unfold lnB
  split
  · exact ⟨by omega, hc⟩
  · have := fit_le room (L.drop (lnA L c room)); simp at this; omega
theorem take_rev (L : List Int) (c f : Nat) (hf : f ≤ c) (hc : c ≤ L.length) : sm ((L.take c).reverse.take (c - f)) = smR L f c := by
  unfold smR
  rw [List.take_reverse, sm_reverse]
  congr 2
  simp
  omega
/-- the first loop's test, at a place that is not behind where it ends -/
theorem lnA_iff (L : List Int) (c : Nat) (room : Int) (hr : 1 ≤ room) (hc : c ≤ L.length) (f : Nat) (hf : f ≤ lnA L c room) : (f < c ∧ smR L f c + tkW L c > room) ↔ f < lnA L c room := by
  have hle := fit_le (room - tkW L c) (L.take c).reverse
  simp at hle
  have h1 := fit_iff (L.take c).reverse (room - tkW L c) (c - f)
  have h0 := lnA_le L c room
  rw [take_rev L c f (by omega) hc] at h1
  simp only [List.length_reverse, List.length_take] at h1
  have hA : lnA L c room = c - fitN (room - tkW L c) (L.take c).reverse := by unfold lnA; rw [if_neg (by omega)]
  generalize fitN (room - tkW L c) (L.take c).reverse = F at *
  constructor
  · intro ⟨h2, h3⟩
    by_cases hx : c - f ≤ F
    · rcases h1.1 hx with h4 | h4 <;> omega
    · omega
  · intro h2
    refine ⟨by omega, ?_⟩
    by_cases hx : smR L f c + tkW L c > room
    · exact hx
    · have := h1.2 (.inr ⟨by omega, by omega⟩); omega
theorem lnB_iff (L : List Int) (c : Nat) (room : Int) (hr : 1 ≤ room) (hc : c ≤ L.length) (t : Nat) (ht0 : lnA L c room ≤ t) (ht : t ≤ lnB L c room) : (t < L.length ∧ smR L (lnA L c room) (t + 1) ≤ room) ↔ t < lnB L c room := by
  have hB : lnB L c room = lnA L c room + fitN room (L.drop (lnA L c room)) := by unfold lnB; rw [if_neg (by omega)]
  have h1 := fit_iff (L.drop (lnA L c room)) room (t + 1 - lnA L c room)
  generalize lnA L c room = a at *
  generalize fitN room (L.drop a) = F at *
  have e : (L.drop a).take (t + 1 - a) = (L.take (t + 1)).drop a := by rw [List.drop_take]
  rw [e] at h1
  change _ ↔ _ ∨ (_ ∧ smR L a (t + 1) ≤ room) at h1
  simp only [List.length_drop] at h1
  constructor
  · intro ⟨h2, h3⟩
    have := h1.2 (.inr ⟨by omega, h3⟩); omega
  · intro h2
    rcases h1.1 (by omega) with h4 | h4
    · omega
    · exact ⟨by omega, h4.2⟩
/-- where there is room for what the cursor takes, its place is shown -/
theorem ln_shown (L : List Int) (c : Nat) (room : Int) (hr : 2 ≤ room) (hc : c ≤ L.length) : lnA L c room ≤ c ∧ c ≤ lnB L c room ∧ (c < L.length → c < lnB L c room) := by
  have h0 := lnA_le L c room
  have hB := lnB_le L c room hc
  have hit := lnA_iff L c room (by omega) hc (lnA L c room) (Nat.le_refl _)
  have htk := tkW_bd L c
  -- up to the cursor there is room
  have hroom : smR L (lnA L c room) c + tkW L c ≤ room := by
    by_cases h : lnA L c room < c
    · by_cases h2 : smR L (lnA L c room) c + tkW L c > room
      · have := hit.1 ⟨h, h2⟩; omega
      · omega
    · have e : lnA L c room = c := by omega
      rw [e, smR_self]; omega
  -- every place up to the cursor is ahead of the end
  have hmono : ∀ t, lnA L c room ≤ t → t ≤ c → t ≤ lnB L c room := by
    intro t
    induction t with
    | zero => intros; omega
    | succ t ih =>
      intro h1 h2
      by_cases h3 : lnA L c room ≤ t
      · have h4 := ih h3 (by omega)
        have h5 := (lnB_iff L c room (by omega) hc t h3 h4).1 ⟨by omega, by
          -- the sum up to t + 1 is at most that up to c
          have hm : ∀ d, t + 1 + d ≤ L.length → smR L (lnA L c room) (t + 1) ≤ smR L (lnA L c room) (t + 1 + d) := by
            intro d
            induction d with
            | zero => intros; exact Int.le_refl _
            | succ d ihd =>
              intro hd
              have h6 := ihd (by omega)
              have h7 := smR_succ L (lnA L c room) (t + 1 + d) (by omega) (by omega)
              have h8 := wd_ge L[t + 1 + d]
              rw [show t + 1 + (d + 1) = t + 1 + d + 1 by omega, h7]; omega
          have := hm (c - (t + 1)) (by omega)
          rw [show t + 1 + (c - (t + 1)) = c by omega] at this
          omega⟩
        omega
      · omega
  refine ⟨h0, hmono c h0 (Nat.le_refl _), fun hlt => ?_⟩
  refine (lnB_iff L c room (by omega) hc c h0 (hmono c h0 (Nat.le_refl _))).1 ⟨hlt, ?_⟩
  rw [smR_succ L _ c h0 hlt]
  have : tkW L c = wd L[c] := by unfold tkW; rw [List.getElem?_eq_getElem hlt]
  omega
end Go.Proofs.Ythkdedoambmfkaa
