/-
  Walks: width.Control, Mark, Wide, Of, and the reference's.
-/
import Derived.Test.YtckohomfoicffaaDoorWdWithin
import Derived.WalkSpells
import Derived.WalkLawsBesides
namespace Go.Proofs.YtckohomfoicffaaDoor
open Go.RowKit Go.Shelf
set_option linter.unusedVariables false

theorem ret_bool {a b : Bool} (h : a = b) : Ending.returned (.bool a) = .returned (.bool b) := by rw [h]

/-- The ranges of the program lie where the program's text lays them. -/
structure Tabs (w : World) : Prop where
  mt : Tab w 1 mkT
  wt : Tab w 0 wdT
  mg : 1 < w.heap.size
  wg : 0 < w.heap.size
theorem Tabs.below {w w' : World} (h : Tabs w) (hb : Below w.heap.size w w') : Tabs w' :=
  ⟨h.mt.below hb h.mg, h.wt.below hb h.wg, Nat.lt_of_lt_of_le h.mg hb.size, Nat.lt_of_lt_of_le h.wg hb.size⟩

set_option maxHeartbeats 400000 in
theorem ctl_any (r : Int) (w : World) : Calls Tryd.prog 9 #[.int .i32 r] w fun e w' => e = .returned (.bool (ctB r)) ∧ w = w' := by
  go_enter Tryd.func9, Tryd.ntmps9
  go_wp2
  all_goals
    go_ret
    exact ⟨ret_bool (by unfold ctB; rw [Bool.eq_iff_iff]; simp; omega), rfl⟩
set_option maxHeartbeats 400000 in
theorem rctl_any (r : Int) (w : World) : Calls Tryd.prog 10 #[.int .i32 r] w fun e w' => e = .returned (.bool (ctB r)) ∧ w = w' := by
  go_enter Tryd.func10, Tryd.ntmps10
  go_wp2
  all_goals
    go_ret
    exact ⟨ret_bool (by unfold ctB; rw [Bool.eq_iff_iff]; simp; omega), rfl⟩
set_option maxHeartbeats 400000 in
theorem isr_any (r : Int) (w : World) : Calls Tryd.prog 25 #[.int .i32 r] w fun e w' => e = .returned (.bool (rnB r)) ∧ w = w' := by
  go_enter Tryd.func25, Tryd.ntmps25
  go_wp2
  all_goals
    go_ret
    exact ⟨ret_bool (by unfold rnB; rw [Bool.eq_iff_iff]; simp; omega), rfl⟩
set_option maxHeartbeats 400000 in
theorem risr_any (r : Int) (w : World) : Calls Tryd.prog 28 #[.int .i32 r] w fun e w' => e = .returned (.bool (rnB r)) ∧ w = w' := by
  go_enter Tryd.func28, Tryd.ntmps28
  go_wp2
  all_goals
    go_ret
    exact ⟨ret_bool (by unfold rnB; rw [Bool.eq_iff_iff]; simp; omega), rfl⟩

set_option maxHeartbeats 400000 in
theorem inMarks_any (r : Int) (w : World) (h : Tabs w) : Calls Tryd.prog 26 #[.int .i32 r, .func (.func 32) #[] #[]] w fun e w' => e = .returned (.bool (inT mkT r)) ∧ Below w.heap.size w w' := by
  rw [← wit_eq _ _ mk_srt]
  exact within_any _ mkT r w (enters_of Tryd.func32 (by kernel_rfl) rfl) fun w' hb => marks_stops 4 (by omega) _ w' (h.mt.below hb h.mg) h.mg hb.size
set_option maxHeartbeats 400000 in
theorem inWides_any (r : Int) (w : World) (h : Tabs w) : Calls Tryd.prog 26 #[.int .i32 r, .func (.func 31) #[] #[]] w fun e w' => e = .returned (.bool (inT wdT r)) ∧ Below w.heap.size w w' := by
  rw [← wit_eq _ _ wd_srt]
  exact within_any _ wdT r w (enters_of Tryd.func31 (by kernel_rfl) rfl) fun w' hb => wides_stops 4 (by omega) _ w' (h.wt.below hb h.wg) h.wg hb.size

set_option maxHeartbeats 400000 in
theorem mark_any (r : Int) (w : World) (h : Tabs w) : Calls Tryd.prog 11 #[.int .i32 r] w fun e w' => e = .returned (.bool (mkB r)) ∧ Below w.heap.size w w' := by
  go_enter Tryd.func11, Tryd.ntmps11
  go_wp2_with (first
    | (go_at_call 29; refine (marks_any _).mono ?_; rintro e w' ⟨rfl, rfl⟩)
    | (go_at_call 26; refine (inMarks_any r w h).mono ?_; rintro e w1 ⟨rfl, hb⟩))
  go_ret
  exact ⟨rfl, hb⟩

set_option maxHeartbeats 1000000 in
theorem wide_any (r : Int) (w : World) (h : Tabs w) : Calls Tryd.prog 13 #[.int .i32 r] w fun e w' => e = .returned (.bool (wdB r)) ∧ Below w.heap.size w w' := by
  unfold wdB
  generalize hv : inT wdT r = v
  have HV := Lib.hid hv
  clear hv
  generalize hm : mkB r = m
  have HM := Lib.hid hm
  clear hm
  cases v
  · go_enter Tryd.func13, Tryd.ntmps13
    go_wp2_with (first
      | (go_at_call 27; refine (wides_any _).mono ?_; rintro e w' ⟨rfl, rfl⟩)
      | (go_at_call 26; refine (inWides_any r w h).mono ?_; rintro e w1 ⟨rfl, hb⟩; rw [HV.out]))
    go_ret
    exact ⟨rfl, hb⟩
  · go_enter Tryd.func13, Tryd.ntmps13
    go_wp2_with (first
      | (go_at_call 27; refine (wides_any _).mono ?_; rintro e w' ⟨rfl, rfl⟩)
      | (go_at_call 26; refine (inWides_any r w h).mono ?_; rintro e w1 ⟨rfl, hb⟩; rw [HV.out])
      | (go_at_call 11; refine (mark_any r w1 (h.below hb)).mono ?_; rintro e w2 ⟨rfl, hb2⟩; rw [HM.out]))
    go_ret
    exact ⟨ret_bool (by simp), hb.trans (hb2.mono hb.size)⟩

set_option maxHeartbeats 1000000 in
theorem of_any (r : Int) (w : World) (h : Tabs w) : Calls Tryd.prog 7 #[.int .i32 r] w fun e w' => e = .returned (.int .i64 (ofI r)) ∧ Below w.heap.size w w' := by
  unfold ofI
  generalize hr : rnB r = a
  have HR := Lib.hid hr
  clear hr
  generalize hc : ctB r = b
  have HC := Lib.hid hc
  clear hc
  generalize hm : mkB r = c
  have HM := Lib.hid hm
  clear hm
  generalize hv : inT wdT r = d
  have HV := Lib.hid hv
  clear hv
  cases a <;> cases b <;> cases c <;> cases d
  all_goals
    go_enter Tryd.func7, Tryd.ntmps7
    go_wp2_with (first
      | (go_at_call 25; refine (isr_any r w).mono ?_; rintro e w' ⟨rfl, rfl⟩; rw [HR.out])
      | (go_at_call 9; refine (ctl_any r w).mono ?_; rintro e w' ⟨rfl, rfl⟩; rw [HC.out])
      | (go_at_call 11; refine (mark_any r w h).mono ?_; rintro e w1 ⟨rfl, hb⟩; rw [HM.out])
      | (go_at_call 27; refine (wides_any _).mono ?_; rintro e w' ⟨rfl, rfl⟩)
      | (go_at_call 26; refine (inWides_any r w1 (h.below hb)).mono ?_; rintro e w2 ⟨rfl, hb2⟩; rw [HV.out]))
    go_ret
    first
      | exact ⟨rfl, Below.refl _ _⟩
      | exact ⟨rfl, hb⟩
      | exact ⟨rfl, hb.trans (hb2.mono hb.size)⟩
end Go.Proofs.YtckohomfoicffaaDoor
