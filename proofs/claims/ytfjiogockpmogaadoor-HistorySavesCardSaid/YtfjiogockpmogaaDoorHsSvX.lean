/-
  Plain mathematics: the lines of a filled history, and the text of them.
-/
import Derived.Test.YtfjiogockpmogaaDoorHsSvA
import Derived.Test.YtfjiogockpmogaaDoorHsSvG
import Derived.Test.YtfjiogockpmogaaDoorHsFil
import Derived.Test.YtfjiogockpmogaaDoorHsSave
namespace Go.Proofs.YtfjiogockpmogaaDoor
open Go.RowKit
set_option linter.unusedVariables false
set_option linter.unusedSimpArgs false

theorem addL_memX {most : Nat} {l x : List UInt8} {L : List (List UInt8)} (h : x ∈ addL most l L) : x = l ∨ x ∈ L := by
  unfold addL at h
  have h1 := List.mem_of_mem_take h
  rcases List.mem_cons.1 h1 with h2 | h2
  · exact .inl h2
  · exact .inr (List.mem_filter.1 h2).1
theorem fill_mem (most : Nat) (l : List (List UInt8)) : ∀ L x, x ∈ fillL most L l → x ∈ L ∨ ∃ s, x = flatB (cut60 s) ∧ x ≠ [] := by
  induction l with
  | nil => intro L x h; exact .inl h
  | cons s l ih =>
    intro L x h
    rcases ih _ x h with h1 | h1
    · cases hb : addB (flatB (cut60 s)) L with
      | false => rw [hb] at h1; exact .inl h1
      | true =>
        rw [hb] at h1
        rcases addL_memX h1 with rfl | h2
        · refine .inr ⟨s, rfl, ?_⟩
          unfold addB at hb
          simp only [Bool.and_eq_true] at hb
          simpa using hb.1
        · exact .inl h2
    · exact .inr h1
theorem fill_nodup (most : Nat) (l : List (List UInt8)) : ∀ L, L.Nodup → (fillL most L l).Nodup := by
  induction l with
  | nil => intro L h; exact h
  | cons s l ih =>
    intro L h
    refine ih _ ?_
    cases addB (flatB (cut60 s)) L with
    | false => exact h
    | true => exact addL_nodup h
theorem saveB_jnl (L : List (List UInt8)) : saveB L = jnl L.reverse := rfl
theorem jnl_le {M : List (List UInt8)} {b : Nat} (h : ∀ x ∈ M, x.length ≤ b) : (jnl M).length ≤ (b + 1) * M.length := by
  induction M with
  | nil => simp [jnl]
  | cons a M ih =>
    rw [jnl_cons]
    have h1 := ih (fun x hx => h x (by simp [hx]))
    have h2 := h a (by simp)
    simp only [List.length_append, List.length_cons]
    rw [Nat.mul_add]
    omega
/-- what a filled history saves, loads it -/
theorem fill_saved {most : Nat} (h1 : 1 ≤ most) (h2 : most ≤ 256) (l : List (List UInt8)) (hle : (fillL most [] l).length ≤ most) :
    ldC most (saveB (fillL most [] l)) = 0 ∧ (lnsOf (saveB (fillL most [] l))).reverse = fillL most [] l ∧ (saveB (fillL most [] l)).length ≤ 1000000 ∧ ∀ x ∈ pcs (saveB (fillL most [] l)), x.length ≤ 1000 := by
  obtain ⟨G, hG⟩ : ∃ G, G = fillL most [] l := ⟨_, rfl⟩
  have hnd : G.Nodup := by rw [hG]; exact fill_nodup most l [] List.nodup_nil
  have hall : ∀ x ∈ G, okL x = true ∧ (10 : UInt8) ∉ x ∧ x.length ≤ 180 := by
    intro x hx
    rw [hG] at hx
    rcases fill_mem most l [] x hx with h | ⟨s, rfl, hne⟩
    · cases h
    · refine ⟨?_, flatB_no10 _, ?_⟩
      · unfold okL
        rw [flatB_flatB]
        simpa using hne
      · have h3 := flatB_le3 (cut60 s)
        have h4 := cut60_len s
        omega
  rw [← hG] at hle ⊢
  rw [saveB_jnl]
  obtain ⟨e1, e2⟩ := lns_jnl G.reverse (fun x hx => (hall x (List.mem_reverse.1 hx)).2.1)
  have hok : okS (jnl G.reverse) = true := by
    unfold okS
    rw [e1, e2]
    simp only [Bool.and_eq_true, beq_self_eq_true, true_and]
    exact List.all_eq_true.2 (fun x hx => (hall x (List.mem_reverse.1 hx)).1)
  refine ⟨?_, by rw [e1, List.reverse_reverse], ?_, ?_⟩
  · unfold ldC
    rw [if_neg (by omega), if_neg (by rw [hok]; decide), e1, if_neg (show ¬ ¬ G.reverse.Nodup from Decidable.not_not.2 (List.pairwise_reverse.2 (hnd.imp (fun h => Ne.symm h)))), if_neg (by rw [List.length_reverse]; omega)]
  · have h3 := jnl_le (M := G.reverse) (b := 180) (fun x hx => (hall x (List.mem_reverse.1 hx)).2.2)
    rw [List.length_reverse] at h3
    omega
  · intro x hx
    unfold pcs at hx
    rw [e1, e2] at hx
    simp only [if_true, List.append_nil, List.mem_map] at hx
    obtain ⟨y, hy, rfl⟩ := hx
    have := (hall y (List.mem_reverse.1 hy)).2.2
    rw [List.length_append, List.length_singleton]; omega
theorem pcs_short {s : List UInt8} {b : Nat} (h : s.length ≤ b) : ∀ x ∈ pcs s, x.length ≤ b + 1 := by
  intro x hx
  unfold pcs at hx
  rcases List.mem_append.1 hx with h1 | h1
  · obtain ⟨y, hy, rfl⟩ := List.mem_map.1 h1
    have := lns_len hy
    rw [List.length_append, List.length_singleton]; omega
  · split at h1
    · cases h1
    · simp only [List.mem_singleton] at h1
      subst h1
      have := rst_len s
      omega
/-- a text that may be is what its lines save -/
theorem load_saved {most : Int} {s : List UInt8} (h : ldC most s = 0) : saveB (lnsOf s).reverse = s := by
  rw [saveB_jnl, List.reverse_reverse]
  have hok : okS s = true := by
    unfold ldC at h
    split at h
    · exact absurd h (by decide)
    · split at h
      · exact absurd h (by decide)
      · rename_i h2; simpa using h2
  unfold okS at hok
  simp only [Bool.and_eq_true, beq_iff_eq] at hok
  have h1 := jnl_lns s
  rw [hok.1, List.append_nil] at h1
  exact h1
theorem load_most {most : Int} {s : List UInt8} (h : ldC most s = 0) : 1 ≤ most ∧ most ≤ 256 := by
  unfold ldC at h
  split at h
  · exact absurd h (by decide)
  · rename_i h2; exact Decidable.not_not.1 h2
end Go.Proofs.YtfjiogockpmogaaDoor
