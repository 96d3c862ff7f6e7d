/-
  What Put leaves alone, as plain mathematics; lengths.
-/
import Derived.Test.YtijbimofigkdkaaDoorGrFill
namespace Go.Proofs.YtijbimofigkdkaaDoor
open Go.RowKit
set_option linter.unusedVariables false
set_option linter.unusedSimpArgs false

theorem putM_length (W : Nat) (L : List (List Cl)) (row col : Int) (s : List UInt8) (m : Int) (y : Sty) : (putM W L row col s m y).1.length = L.length := by
  unfold putM
  split
  · rfl
  · split
    · rfl
    · simp
theorem joinM_length (W : Nat) (L : List (List Cl)) (row col : Int) (s : List UInt8) : (joinM W L row col s).1.length = L.length := by
  unfold joinM
  split <;> simp
theorem eraseG_length (W : Nat) (L : List (List Cl)) (row a z : Int) : (eraseG W L row a z).1.length = L.length := by
  unfold eraseG
  split <;> simp
theorem fillO_length (L : List (List Cl)) (o : OpV) : (fillO L o).length = L.length := by
  unfold fillO
  split
  · exact joinM_length ..
  · split
    · exact eraseG_length ..
    · split
      · exact scrollM_length ..
      · exact putM_length ..
theorem fillS_length (l : List OpV) : (fillS l).length = 4 := by
  unfold fillS
  generalize l.take 30 = m
  have : ∀ (m : List OpV) (L : List (List Cl)), (m.foldl (fun L o => fillO L (fewM o)) L).length = L.length := by
    intro m
    induction m with
    | nil => intro L; rfl
    | cons o m ih => intro L; rw [List.foldl_cons, ih, fillO_length]
  rw [this]
  simp [blankG]

theorem blankM_far {l : List Cl} (hl : Wf l) {k i : Nat} (h : i + 1 < k ∨ k + 1 < i) : (blankM l k)[i]? = l[i]? := by
  cases hc : l[k]? with
  | none => unfold blankM; rw [hc]
  | some c =>
    rw [blankM_get hl hc, if_neg (by omega), if_neg (by omega), if_neg (by omega)]
theorem putR_far {l : List Cl} (hl : Wf l) {col i m : Nat} (s : List UInt8) (y : Sty) (hm : m = 1 ∨ m = 2) (h : i + 1 < col ∨ col + m < i) : (putR l col s m y)[i]? = l[i]? := by
  unfold putR
  rcases hm with rfl | rfl
  · rw [if_neg (by omega), List.getElem?_set_ne (by omega)]
    exact blankM_far hl (by omega)
  · rw [if_pos rfl, List.getElem?_set_ne (by omega), List.getElem?_set_ne (by omega)]
    show (blankM (blankM l col) (col + 1))[i]? = _
    rw [blankM_far (hl.blank col) (by omega), blankM_far hl (by omega)]

theorem cellB_nat (L : List (List Cl)) (i j : Nat) : cellB L i j = match L[i]? with | none => (czero, false) | some l => match l[j]? with | none => (czero, false) | some c => (c, true) := by
  unfold cellB
  rw [if_pos ⟨by omega, by omega⟩]
  rfl
/-- Put changes only the positions that it names, and at most one ahead of them and one behind. -/
theorem put_far {L : List (List Cl)} {W : Nat} (hwf : ∀ (i : Nat) l, L[i]? = some l → Wf l) (row col : Int) (s : List UInt8) (m : Int) (y : Sty) (i j : Nat)
    (h : (putM W L row col s m y).2 ≠ 0 ∨ (i : Int) ≠ row ∨ (j : Int) < col - 1 ∨ col + m < (j : Int)) : cellB (putM W L row col s m y).1 i j = cellB L i j := by
  unfold putM at *
  split at h
  · next h1 => rw [if_pos h1]
  · next h1 =>
    rw [if_neg h1]
    split at h
    · next h2 => rw [if_pos h2]
    · next h2 =>
      rw [if_neg h2]
      have a : inB row col W L.length = true := by simpa using fun e => h2 (.inl e)
      obtain ⟨a0, a1, a2, a3⟩ : 0 ≤ row ∧ row < L.length ∧ 0 ≤ col ∧ col < W := by simpa [inB] using a
      have hm : m = 1 ∨ m = 2 := by
        by_cases b : m = 1
        · exact .inl b
        · by_cases c : m = 2
          · exact .inr c
          · exact absurd (.inr (.inr ⟨b, c⟩)) h1
      obtain ⟨r, rfl⟩ := Int.eq_ofNat_of_zero_le a0
      obtain ⟨c, rfl⟩ := Int.eq_ofNat_of_zero_le a2
      obtain ⟨q, rfl⟩ := Int.eq_ofNat_of_zero_le (show 0 ≤ m by omega)
      have hr : r < L.length := by omega
      rw [cellB_nat, cellB_nat]
      simp only [Int.toNat_natCast]
      by_cases hi : i = r
      · subst hi
        rw [List.getElem?_set_self hr, getD_some hr]
        simp only
        rw [putR_far (hwf i _ (getD_some hr)) s y (by omega) (by
          rcases h with h | h | h | h
          · exact absurd rfl h
          · exact absurd rfl h
          · left; omega
          · right; omega)]
      · rw [List.getElem?_set_ne (by omega)]

/-- All cells ahead of a position are equal. -/
def EqU (A B : List (List Cl)) (r c : Nat) : Prop := ∀ i j : Nat, (i < r ∧ j < 12) ∨ (i = r ∧ j < c) → (cellB A i j).1 = (cellB B i j).1
theorem EqU.zero (A B : List (List Cl)) : EqU A B 0 0 := fun i j h => by omega
theorem EqU.step {A B : List (List Cl)} {r c : Nat} (al : Bool) (h : al = true ↔ EqU A B r c) : ((al && decide ((cellB A r c).1 = (cellB B r c).1)) = true ↔ EqU A B r (c + 1)) := by
  rw [Bool.and_eq_true, decide_eq_true_iff, h]
  constructor
  · rintro ⟨h1, h2⟩ i j hij
    by_cases he : i = r ∧ j = c
    · obtain ⟨rfl, rfl⟩ := he; exact h2
    · exact h1 i j (by omega)
  · intro h1
    exact ⟨fun i j hij => h1 i j (by omega), h1 r c (by omega)⟩
theorem EqU.row {A B : List (List Cl)} {r : Nat} (al : Bool) (h : al = true ↔ EqU A B r 12) : (al = true ↔ EqU A B (r + 1) 0) := by
  rw [h]
  constructor
  · intro h1 i j hij
    exact h1 i j (by omega)
  · intro h1 i j hij
    exact h1 i j (by omega)
theorem EqU.all {A B : List (List Cl)} (hA : A.length = 4) (hB : B.length = 4) (wA : ∀ (i : Nat) l, A[i]? = some l → l.length = 12) (wB : ∀ (i : Nat) l, B[i]? = some l → l.length = 12) : EqU A B 4 0 ↔ A = B := by
  constructor
  · intro h
    apply List.ext_getElem?
    intro i
    by_cases hi : i < 4
    · have a := getD_some (L := A) (r := i) (by omega)
      have b := getD_some (L := B) (r := i) (by omega)
      have la := wA i _ a
      have lb := wB i _ b
      rw [a, b]
      congr 1
      apply List.ext_getElem?
      intro j
      by_cases hj : j < 12
      · have := h i j (by omega)
        rw [cellB_nat, cellB_nat, a, b] at this
        simp only at this
        rw [List.getElem?_eq_getElem (by omega), List.getElem?_eq_getElem (by omega)] at this ⊢
        simp only at this
        rw [this]
      · rw [List.getElem?_eq_none (by omega), List.getElem?_eq_none (by omega)]
    · rw [List.getElem?_eq_none (by omega), List.getElem?_eq_none (by omega)]
  · rintro rfl i j _
    rfl
end Go.Proofs.YtijbimofigkdkaaDoor
