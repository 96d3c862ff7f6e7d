/-
  Walks: the reference's control and Mark of layer 3.
-/
import Derived.Test.YtfmkeeaenjeneaaGreatDoorGfW
import Derived.Test.YtfmkeeaenjeneaaGreatDoorGfA
namespace Go.Proofs.YtfmkeeaenjeneaaGreatDoor
open Go.RowKit
set_option linter.unusedVariables false

def isB (r : Int) : Prop := ctB r = false ∧ mkB r = false
def isM (r : Int) : Prop := ctB r = false ∧ mkB r = true
theorem rnB_of {r : Int} (h : isR r) : rnB r = true := by
  unfold rnB; unfold isR at h; simp; omega
theorem isR_of_rnB {r : Int} (h : rnB r = true) : isR r := by
  unfold rnB at h; unfold isR; simp at h; omega
theorem ofI_ct {r : Int} (h : ctB r = true) : ofI r = 0 := by unfold ofI; rw [if_pos (by simp [h])]
theorem ofI_mk {r : Int} (h : mkB r = true) : ofI r = 0 := by unfold ofI; rw [if_pos (by simp [h])]
theorem ofI_base {r : Int} (hr : isR r) (h : isB r) : 1 ≤ ofI r ∧ ofI r ≤ 2 := by
  unfold ofI
  rw [if_neg (by simp [rnB_of hr, h.1, h.2])]
  split <;> omega
theorem ofI_pos {r : Int} (h : 0 < ofI r) : isR r ∧ isB r := by
  unfold ofI at h
  split at h
  · omega
  · next hn =>
    simp at hn
    exact ⟨isR_of_rnB hn.1.1, hn.1.2, hn.2⟩
theorem mk_bounds : ∀ x ∈ mkT, 159 < x.1 ∧ x.2 ≤ 1114111 ∧ (x.2 < 55296 ∨ 57343 < x.1) := by decide +kernel
theorem mk_isR {r : Int} (h : mkB r = true) : isR r ∧ isM r := by
  have h' := h
  unfold mkB inT at h
  rw [List.any_eq_true] at h
  obtain ⟨x, hx, hr⟩ := h
  have := mk_bounds x hx
  simp at hr
  refine ⟨by unfold isR; omega, ?_, h'⟩
  unfold ctB
  simp
  omega


set_option maxHeartbeats 400000 in
theorem rctl3_any (r : Int) (w : World) : Calls Tryz.prog 124 #[.int .i32 r] w fun e w' => e = .returned (.bool (ctB r)) ∧ w = w' := by
  go_enter Tryz.func124, Tryz.ntmps124
  go_wp2
  all_goals
    go_ret
    exact ⟨ret_bool (by unfold ctB; rw [Bool.eq_iff_iff]; simp; omega), rfl⟩

theorem mk_of {r : Int} (h0 : ofI r = 0) (hr : isR r) (hc : ctB r = false) : mkB r = true := by
  cases hm : mkB r with
  | true => rfl
  | false => have := ofI_base hr ⟨hc, hm⟩; omega

set_option maxHeartbeats 1000000 in
theorem rmark3_any (r : Int) (w : World) : Calls Tryz.prog 85 #[.int .i32 r] w fun e w' => e = .returned (.bool (mkB r)) ∧ Below w.heap.size w w' := by
  have hbd := ofI_01 r
  by_cases hm : mkB r = true
  · have h0 := ofI_mk hm
    have h1 := (mk_isR hm).1
    have h2 := (mk_isR hm).2.1
    rw [hm]
    generalize ofI r = v at h0 hbd
    have hof : ∀ w, Calls Tryz.prog 83 #[.int .i32 r] w fun e w' => e = .returned (.int .i64 0) ∧ Below w.heap.size w w' := fun w => by
      have := rof_any r w; rw [ofI_mk hm] at this; exact this
    have HO := Lib.hid hof
    have HR := Lib.hid (decide_eq_true h1)
    have HC := Lib.hid h2
    clear hm h0 h1 h2 hof hbd
    go_enter Tryz.func85, Tryz.ntmps85
    go_wp2_with (first
      | (go_at_call 83; refine (HO.out _).mono ?_; rintro e w1 ⟨rfl, hb1⟩)
      | (go_at_call 123; refine (is_any _ _).mono ?_; rintro e w' ⟨rfl, rfl⟩; rw [HR.out])
      | (go_at_call 124; refine (rctl3_any _ _).mono ?_; rintro e w' ⟨rfl, rfl⟩; rw [HC.out]))
    go_ret
    exact ⟨rfl, hb1⟩
  · have hm' : mkB r = false := by simpa using hm
    rw [hm']
    have hno : ofI r = 0 → isR r → ctB r = true := fun h0 h1 => by
      cases hc : ctB r with
      | true => rfl
      | false => exact absurd (mk_of h0 h1 hc) hm
    by_cases h0 : ofI r = 0
    · have hof : ∀ w, Calls Tryz.prog 83 #[.int .i32 r] w fun e w' => e = .returned (.int .i64 0) ∧ Below w.heap.size w w' := fun w => by
        have := rof_any r w; rw [h0] at this; exact this
      have HO := Lib.hid hof
      by_cases h1 : isR r
      · have HR := Lib.hid (decide_eq_true h1)
        have HC := Lib.hid (hno h0 h1)
        clear hm hm' h0 h1 hof hbd hno
        go_enter Tryz.func85, Tryz.ntmps85
        go_wp2_with (first
          | (go_at_call 83; refine (HO.out _).mono ?_; rintro e w1 ⟨rfl, hb1⟩)
          | (go_at_call 123; refine (is_any _ _).mono ?_; rintro e w' ⟨rfl, rfl⟩; rw [HR.out])
          | (go_at_call 124; refine (rctl3_any _ _).mono ?_; rintro e w' ⟨rfl, rfl⟩; rw [HC.out]))
        go_ret
        exact ⟨rfl, hb1⟩
      · have HR := Lib.hid (decide_eq_false h1)
        clear hm hm' h0 h1 hof hbd hno
        go_enter Tryz.func85, Tryz.ntmps85
        go_wp2_with (first
          | (go_at_call 83; refine (HO.out _).mono ?_; rintro e w1 ⟨rfl, hb1⟩)
          | (go_at_call 123; refine (is_any _ _).mono ?_; rintro e w' ⟨rfl, rfl⟩; rw [HR.out]))
        go_ret
        exact ⟨rfl, hb1⟩
    · have hz : (ofI r == 0) = false := by simp; exact h0
      have hof := rof_any r
      generalize ofI r = v at hof hz h0 hbd
      have HO := Lib.hid hof
      clear hm hm' h0 hof hno hbd
      go_enter Tryz.func85, Tryz.ntmps85
      go_wp2_with (first
        | (go_at_call 83; refine (HO.out _).mono ?_; rintro e w1 ⟨rfl, hb1⟩))
      go_ret
      exact ⟨rfl, hb1⟩
end Go.Proofs.YtfmkeeaenjeneaaGreatDoor
