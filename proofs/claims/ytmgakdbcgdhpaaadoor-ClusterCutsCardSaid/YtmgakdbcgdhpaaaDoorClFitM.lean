/-
  Plain mathematics of what fits. No program is named here.
-/
import Derived.Test.YtmgakdbcgdhpaaaDoorClMath
namespace Go.Proofs.YtmgakdbcgdhpaaaDoor
set_option linter.unusedVariables false

def okP (most : Int) (x : Int × List UInt8) : Bool := decide (x.1 + fw (rs x.2) ≤ most)
def lastEnd (pre : List (Int × List UInt8)) : Int := match pre.getLast? with
  | none => 0
  | some x => x.1 + fw (rs x.2)
theorem lastEnd_snoc (pre : List (Int × List UInt8)) (x : Int × List UInt8) : lastEnd (pre ++ [x]) = x.1 + fw (rs x.2) := by simp [lastEnd]
def fitC (most : Int) : Int → List (List Int) → List (List Int)
  | _, [] => []
  | a, c :: cs => if most < a + wc c then [] else c :: fitC most (a + wc c) cs
def AllOk (most : Int) (pre : List (Int × List UInt8)) : Prop := ∀ x ∈ pre, okP most x = true
theorem AllOk.nil (most : Int) : AllOk most [] := fun x hx => by cases hx
theorem AllOk.snoc {most : Int} {pre : List (Int × List UInt8)} {x : Int × List UInt8} (h : AllOk most pre) (hx : okP most x = true) : AllOk most (pre ++ [x]) := by
  intro y hy
  rcases List.mem_append.1 hy with h1 | h1
  · exact h y h1
  · simp at h1; subst h1; exact hx
theorem take_all {most : Int} {T : List (Int × List UInt8)} (h : AllOk most T) : T.takeWhile (okP most) = T := by
  induction T with
  | nil => rfl
  | cons x T ih => rw [List.takeWhile_cons_of_pos (h x (by simp)), ih (fun y hy => h y (by simp [hy]))]
theorem take_stop {most : Int} {T p : List (Int × List UInt8)} {x : Int × List UInt8} (h : AllOk most p) (hx : okP most x = false) (hp : p ++ [x] <+: T) : T.takeWhile (okP most) = p := by
  obtain ⟨t, rfl⟩ := hp
  induction p with
  | nil => simp [hx]
  | cons y p ih =>
    have hy := h y (by simp)
    rw [List.cons_append, List.cons_append, List.takeWhile_cons_of_pos hy, ih (fun z hz => h z (by simp [hz]))]
theorem fit_prs {most : Int} (cs : List (List Int)) : ∀ a, (∀ c ∈ cs, wf c) → (prs a cs).takeWhile (okP most) = prs a (fitC most a cs) := by
  induction cs with
  | nil => intro a _; rfl
  | cons c cs ih =>
    intro a h
    have hw : fw (rs (eb c)) = wc c := by rw [rs_wf (h c (by simp)), fw_wf (h c (by simp))]
    simp only [prs, fitC]
    by_cases hm : most < a + wc c
    · rw [if_pos hm, List.takeWhile_cons_of_neg (by simp [okP, hw]; omega)]
      rfl
    · rw [if_neg hm, List.takeWhile_cons_of_pos (by simp [okP, hw]; omega), ih _ (fun d hd => h d (by simp [hd]))]
      rfl
theorem last_prs {cs : List (List Int)} (h : ∀ c ∈ cs, wf c) : lastEnd (prs 0 cs) = sumC cs := by
  rcases List.eq_nil_or_concat cs with rfl | ⟨ds, c, rfl⟩
  · rfl
  · have hw : fw (rs (eb c)) = wc c := by rw [rs_wf (h c (by simp)), fw_wf (h c (by simp))]
    rw [List.concat_eq_append, prs_snoc, lastEnd_snoc, sumC_snoc]
    simp only
    rw [hw]
    omega
theorem fitC_pre (most : Int) (cs : List (List Int)) : ∀ a, fitC most a cs <+: cs := by
  induction cs with
  | nil => intro a; exact List.prefix_refl _
  | cons c cs ih =>
    intro a
    simp only [fitC]
    split
    · exact List.nil_prefix
    · exact List.cons_prefix_cons.2 ⟨rfl, ih _⟩
theorem fitC_le (most : Int) (cs : List (List Int)) : ∀ a, fitC most a cs = [] ∨ a + sumC (fitC most a cs) ≤ most := by
  induction cs with
  | nil => intro a; exact .inl rfl
  | cons c cs ih =>
    intro a
    simp only [fitC]
    split
    · exact .inl rfl
    · next h =>
      right
      rw [sumC_cons]
      rcases ih (a + wc c) with h1 | h1
      · rw [h1]; simp [sumC]; omega
      · omega
theorem fitC_next (most : Int) (cs : List (List Int)) : ∀ a (h : (fitC most a cs).length < cs.length), most < a + sumC (fitC most a cs) + wc (cs[(fitC most a cs).length]) := by
  induction cs with
  | nil => intro a h; simp at h
  | cons c cs ih =>
    intro a h
    by_cases hm : most < a + wc c
    · have e : fitC most a (c :: cs) = [] := by simp [fitC, hm]
      simp only [e, List.length_nil, List.getElem_cons_zero, sumC, List.map_nil, List.sum_nil]
      omega
    · have e : fitC most a (c :: cs) = c :: fitC most (a + wc c) cs := by simp [fitC, hm]
      have hl : (fitC most (a + wc c) cs).length < cs.length := by rw [e] at h; simpa using h
      have := ih (a + wc c) hl
      simp only [e, List.length_cons, List.getElem_cons_succ, sumC_cons]
      omega
/-- what fits, on the way: k clusters are taken -/
theorem fitC_at (most : Int) (cs : List (List Int)) (k : Nat) (hk : k < cs.length) (h : fitC most 0 cs = cs.take k ++ fitC most (sumC (cs.take k)) (cs.drop k)) :
    (most < sumC (cs.take k) + wc cs[k] → fitC most 0 cs = cs.take k) ∧ (¬ most < sumC (cs.take k) + wc cs[k] → fitC most 0 cs = cs.take (k + 1) ++ fitC most (sumC (cs.take (k + 1))) (cs.drop (k + 1))) := by
  rw [List.drop_eq_getElem_cons hk] at h
  have ht : cs.take (k + 1) = cs.take k ++ [cs[k]] := List.take_succ_eq_append_getElem hk
  constructor
  · intro hm
    rw [h]
    simp [fitC, hm]
  · intro hm
    have e1 : fitC most (sumC (cs.take k)) (cs[k] :: cs.drop (k + 1)) = cs[k] :: fitC most (sumC (cs.take k) + wc cs[k]) (cs.drop (k + 1)) := by rw [fitC, if_neg hm]
    rw [h, e1, ht, sumC_snoc, List.append_assoc]
    rfl
end Go.Proofs.YtmgakdbcgdhpaaaDoor
