/-
  Plain mathematics of boxes: each lies in the room, no two meet. No program is named but by its names.
-/
import Derived.Test.YtdodogehlnchlaaLyRefB
import Derived.Test.YtdodogehlnchlaaLyPlacesL
namespace Go.Proofs.Ytdodogehlnchlaa
open Go.RowKit Go.Shelf Go.Sort
set_option linter.unusedVariables false
set_option linter.unusedSimpArgs false

def meetB (a b : Bx) : Bool := decide (a.r < b.r + b.h) && decide (b.r < a.r + a.h) && decide (a.c < b.c + b.w) && decide (b.c < a.c + a.w)
structure BxOk (hh ww : Int) (b : Bx) : Prop where
  r : 0 ≤ b.r
  c : 0 ≤ b.c
  h : 0 ≤ b.h
  w : 0 ≤ b.w
  rh : b.r + b.h ≤ hh
  cw : b.c + b.w ≤ ww
theorem pl_lt {gap room : Int} {P : Nat → Pt} {n i k : Nat} (h0 : 0 ≤ room) (g0 : 0 ≤ gap) (g9 : gap ≤ 9) (hP : ∀ i, i < n → (P i).Ok) (hk : k < n) (hik : i < k) (bi : kpR gap room P n i = true) (bk : kpR gap room P n k = true) :
    plR gap room 0 P n i + szR gap room P n i ≤ plR gap room 0 P n k := by
  have e1 := (pl_in (al := 0) h0 g0 g9 hP (by omega : i < n) bi).1
  have e2 := (pl_in (al := 0) h0 g0 g9 hP hk bk).1
  have m := pos_mono (x := aheadV (overR gap room P n) 0) (b := kpR gap room P n) (f := szR gap room P n) (k := i + 1) (m := k) g0 (fun j hj => (szR_bd h0 hP (by omega : j < n)).1) (by omega)
  rw [pos_yes bi] at m
  rw [e1, e2]
  omega
theorem ki_pw (b : Nat → Bool) (n : Nat) : (ki b n).Pairwise (· < ·) := List.Pairwise.filter _ List.pairwise_lt_range
theorem bxs_ok {ww hh gap : Int} {n m : Nat} {Pr Pc : Nat → Pt} : (∀ b ∈ bxsR ww hh gap n m Pr Pc, BxOk hh ww b ∧ hh ≤ 500 ∧ ww ≤ 500) ∧ (bxsR ww hh gap n m Pr Pc).Pairwise (fun a b => meetB b a = false) ∧ (bxsR ww hh gap n m Pr Pc).length ≤ n * m := by
  unfold bxsR
  by_cases h : okB ww hh gap n m Pr Pc
  · rw [if_pos h]
    obtain ⟨h1, h2⟩ := h
    obtain ⟨⟨q0, q5, _, _⟩, ⟨n1, n64⟩, hokr⟩ := chkV_ok h1
    obtain ⟨⟨p0, p5, g0, g9⟩, ⟨m1, m64⟩, hokc⟩ := chkV_ok h2
    have hU : kpO (upR hh n Pr) = kpR 0 hh Pr n := l3_kp _ _ _ _ _
    have hT : kpO (sdR ww gap m Pc) = kpR gap ww Pc m := l3_kp _ _ _ _ _
    have hBV : ∀ i k, i < n → k < m → bxOf (upR hh n Pr i) (sdR ww gap m Pc k) = ⟨plR 0 hh 0 Pr n i, plR gap ww 0 Pc m k, szR 0 hh Pr n i, szR gap ww Pc m k⟩ := fun i k hi hk => bx_val q0 p0 hokr hokc hi hk
    refine ⟨?_, ?_, ?_⟩
    · intro b hb
      unfold boxL flL rowB at hb
      obtain ⟨i, hi, hb⟩ := List.mem_flatMap.1 hb
      obtain ⟨k, hk, rfl⟩ := List.mem_map.1 hb
      obtain ⟨hi, bi⟩ := mem_ki.1 hi
      obtain ⟨hk, bk⟩ := mem_ki.1 hk
      rw [hU] at bi
      rw [hT] at bk
      rw [hBV i k hi hk]
      have a1 := pl_in (al := 0) q0 (Int.le_refl 0) (by omega) hokr hi bi
      have a2 := pl_in (al := 0) p0 g0 g9 hokc hk bk
      exact ⟨⟨a1.2.1, a2.2.1, (szR_bd q0 hokr hi).1, (szR_bd p0 hokc hk).1, a1.2.2, a2.2.2⟩, q5, p5⟩
    · unfold boxL flL
      rw [List.pairwise_flatMap]
      refine ⟨fun i hi => ?_, ?_⟩
      · unfold rowB
        rw [List.pairwise_map]
        obtain ⟨hi, bi⟩ := mem_ki.1 hi
        refine List.Pairwise.imp_of_mem ?_ (ki_pw _ _)
        intro k k' hk hk' hlt
        obtain ⟨hk, bk⟩ := mem_ki.1 hk
        obtain ⟨hk', bk'⟩ := mem_ki.1 hk'
        rw [hT] at bk bk'
        rw [hBV i k hi hk, hBV i k' hi hk']
        have := pl_lt p0 g0 g9 hokc hk' hlt bk bk'
        unfold meetB
        simp only [Bool.and_eq_false_iff, decide_eq_false_iff_not]
        exact .inl (.inr (by omega))
      · refine List.Pairwise.imp_of_mem ?_ (ki_pw _ _)
        intro i i' hi hi' hlt x hx y hy
        obtain ⟨hi, bi⟩ := mem_ki.1 hi
        obtain ⟨hi', bi'⟩ := mem_ki.1 hi'
        obtain ⟨k, hk, rfl⟩ := List.mem_map.1 hx
        obtain ⟨k', hk', rfl⟩ := List.mem_map.1 hy
        rw [hU] at bi bi'
        rw [hBV i k hi (mem_ki.1 hk).1, hBV i' k' hi' (mem_ki.1 hk').1]
        have := pl_lt q0 (Int.le_refl 0) (by omega) hokr hi' hlt bi bi'
        unfold meetB
        simp only [Bool.and_eq_false_iff, decide_eq_false_iff_not]
        exact .inl (.inl (.inl (by omega)))
    · unfold boxL
      rw [flL_length]
      exact Nat.mul_le_mul (ki_len _ _) (ki_len _ _)
  · rw [if_neg h]
    exact ⟨by simp, List.Pairwise.nil, by simp⟩
theorem bxs_meet {L : List Bx} (h : L.Pairwise (fun a b => meetB b a = false)) {i k : Nat} {a b : Bx} (hk : k < i) (hi : L[i]? = some a) (hb : L[k]? = some b) : meetB a b = false := by
  obtain ⟨h1, e1⟩ := List.getElem?_eq_some_iff.1 hi
  obtain ⟨h2, e2⟩ := List.getElem?_eq_some_iff.1 hb
  have := List.pairwise_iff_getElem.1 h k i h2 h1 hk
  rwa [e1, e2] at this
end Go.Proofs.Ytdodogehlnchlaa
