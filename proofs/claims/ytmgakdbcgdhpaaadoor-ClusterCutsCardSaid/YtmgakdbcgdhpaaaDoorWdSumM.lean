/-
  Plain mathematics of Sum and Fit. No program is named here.
-/
import Derived.Test.YtmgakdbcgdhpaaaDoorWdMath
namespace Go.Proofs.YtmgakdbcgdhpaaaDoor
set_option linter.unusedVariables false

def sumW (l : List Int) : Int := (l.map ofI).sum
theorem sumW_snoc (l : List Int) (x : Int) : sumW (l ++ [x]) = sumW l + ofI x := by simp [sumW]
theorem sumW_bd (l : List Int) : 0 ≤ sumW l ∧ sumW l ≤ 2 * l.length := by
  induction l with
  | nil => simp [sumW]
  | cons x l ih =>
    have h := ofI_01 x
    have e : sumW (x :: l) = ofI x + sumW l := by simp [sumW]
    rw [e]
    simp only [List.length_cons]
    omega
theorem sumW_take (l : List Int) (k : Nat) (h : k < l.length) : sumW (l.take (k + 1)) = sumW (l.take k) + ofI l[k] := by
  rw [List.take_succ_eq_append_getElem h, sumW_snoc]

/-- how many of them fit, c columns being taken -/
def fitN (most : Int) : List Int → Int → Nat
  | [], _ => 0
  | x :: l, c => if most < c + ofI x then 0 else 1 + fitN most l (c + ofI x)
theorem fitN_le (most : Int) (l : List Int) : ∀ c, fitN most l c ≤ l.length := by
  induction l with
  | nil => intro c; simp [fitN]
  | cons x l ih =>
    intro c
    simp only [fitN]
    split
    · omega
    · have := ih (c + ofI x)
      simp only [List.length_cons]
      omega
/-- what is left decides -/
def fitAt (most : Int) (l : List Int) (k : Nat) : Nat := k + fitN most (l.drop k) (sumW (l.take k))
theorem fitAt_zero (most : Int) (l : List Int) : fitAt most l 0 = fitN most l 0 := by simp [fitAt, sumW]
theorem fitAt_step (most : Int) (l : List Int) (k : Nat) (h : k < l.length) (hn : ¬ most < sumW (l.take k) + ofI l[k]) : fitAt most l (k + 1) = fitAt most l k := by
  unfold fitAt
  rw [List.drop_eq_getElem_cons h]
  simp only [fitN]
  rw [if_neg hn, sumW_take l k h]
  omega
theorem fitAt_stop (most : Int) (l : List Int) (k : Nat) (h : k < l.length) (hn : most < sumW (l.take k) + ofI l[k]) : fitAt most l k = k := by
  unfold fitAt
  rw [List.drop_eq_getElem_cons h]
  simp only [fitN]
  rw [if_pos hn]
  omega
theorem fitAt_end (most : Int) (l : List Int) (k : Nat) (h : l.length ≤ k) : fitAt most l k = k := by
  unfold fitAt
  rw [List.drop_eq_nil_of_le h]
  simp [fitN]
theorem fitN_neg (most : Int) (l : List Int) (h : most < 0) : fitN most l 0 = 0 := by
  cases l with
  | nil => rfl
  | cons x l =>
    simp only [fitN]
    have := (ofI_01 x).1
    rw [if_pos (by omega)]

theorem fitN_spec (most : Int) (l : List Int) : ∀ c, c ≤ most → c + sumW (l.take (fitN most l c)) ≤ most ∧ (fitN most l c < l.length → most < c + sumW (l.take (fitN most l c + 1))) := by
  induction l with
  | nil => intro c h; simp [fitN, sumW]; omega
  | cons x l ih =>
    intro c h
    simp only [fitN]
    split
    · next hs => simp [sumW]; omega
    · next hs =>
      have := ih (c + ofI x) (by omega)
      have e1 : sumW ((x :: l).take (1 + fitN most l (c + ofI x))) = ofI x + sumW (l.take (fitN most l (c + ofI x))) := by
        rw [Nat.add_comm]; simp [sumW]
      have e2 : sumW ((x :: l).take (1 + fitN most l (c + ofI x) + 1)) = ofI x + sumW (l.take (fitN most l (c + ofI x) + 1)) := by
        rw [Nat.add_comm 1]; simp [sumW]
      rw [e1, e2]
      refine ⟨by omega, fun hl => ?_⟩
      have := this.2 (by simp only [List.length_cons] at hl; omega)
      omega
end Go.Proofs.YtmgakdbcgdhpaaaDoor
