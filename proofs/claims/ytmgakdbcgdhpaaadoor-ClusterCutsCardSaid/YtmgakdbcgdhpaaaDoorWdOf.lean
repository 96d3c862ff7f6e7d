/-
  Walks: width.Control, Mark, Wide, Of, and the reference's.
-/
import Derived.Test.YtmgakdbcgdhpaaaDoorWdWithin
import Derived.WalkSpells
import Derived.WalkLawsBesides
namespace Go.Proofs.YtmgakdbcgdhpaaaDoor
open Go.RowKit Go.Shelf
set_option linter.unusedVariables false


/-- The ranges of the program lie where the program's text lays them. -/
structure Tabs (w : World) : Prop where
  mt : Tab w 1 mkT
  wt : Tab w 0 wdT
  mg : 1 < w.heap.size
  wg : 0 < w.heap.size
theorem Tabs.below {w w' : World} (h : Tabs w) (hb : Below w.heap.size w w') : Tabs w' :=
  ⟨h.mt.below hb h.mg, h.wt.below hb h.wg, Nat.lt_of_lt_of_le h.mg hb.size, Nat.lt_of_lt_of_le h.wg hb.size⟩

set_option maxHeartbeats 400000 in
theorem ctl_any (r : Int) (w : World) : Calls Tryd.prog 13 #[.int .i32 r] w fun e w' => e = .returned (.bool (ctB r)) ∧ w = w' := by
  go_enter Tryd.func13, Tryd.ntmps13
  go_wp2
  all_goals
    go_ret
    exact ⟨ret_bool (by unfold ctB; rw [Bool.eq_iff_iff]; simp; omega), rfl⟩
set_option maxHeartbeats 400000 in
theorem rctl_any (r : Int) (w : World) : Calls Tryd.prog 14 #[.int .i32 r] w fun e w' => e = .returned (.bool (ctB r)) ∧ w = w' := by
  go_enter Tryd.func14, Tryd.ntmps14
  go_wp2
  all_goals
    go_ret
    exact ⟨ret_bool (by unfold ctB; rw [Bool.eq_iff_iff]; simp; omega), rfl⟩
set_option maxHeartbeats 400000 in
theorem isr_any (r : Int) (w : World) : Calls Tryd.prog 50 #[.int .i32 r] w fun e w' => e = .returned (.bool (rnB r)) ∧ w = w' := by
  go_enter Tryd.func50, Tryd.ntmps50
  go_wp2
  all_goals
    go_ret
    exact ⟨ret_bool (by unfold rnB; rw [Bool.eq_iff_iff]; simp; omega), rfl⟩
set_option maxHeartbeats 400000 in
theorem risr_any (r : Int) (w : World) : Calls Tryd.prog 53 #[.int .i32 r] w fun e w' => e = .returned (.bool (rnB r)) ∧ w = w' := by
  go_enter Tryd.func53, Tryd.ntmps53
  go_wp2
  all_goals
    go_ret
    exact ⟨ret_bool (by unfold rnB; rw [Bool.eq_iff_iff]; simp; omega), rfl⟩

set_option maxHeartbeats 400000 in
theorem inMarks_any (r : Int) (w : World) (h : Tabs w) : Calls Tryd.prog 51 #[.int .i32 r, .func (.func 63) #[] #[]] w fun e w' => e = .returned (.bool (inT mkT r)) ∧ Below w.heap.size w w' := by
  rw [← wit_eq _ _ mk_srt]
  exact within_any _ mkT r w (enters_of Tryd.func63 (by kernel_rfl) rfl) fun w' hb => marks_stops 4 (by omega) _ w' (h.mt.below hb h.mg) h.mg hb.size
set_option maxHeartbeats 400000 in
theorem inWides_any (r : Int) (w : World) (h : Tabs w) : Calls Tryd.prog 51 #[.int .i32 r, .func (.func 62) #[] #[]] w fun e w' => e = .returned (.bool (inT wdT r)) ∧ Below w.heap.size w w' := by
  rw [← wit_eq _ _ wd_srt]
  exact within_any _ wdT r w (enters_of Tryd.func62 (by kernel_rfl) rfl) fun w' hb => wides_stops 4 (by omega) _ w' (h.wt.below hb h.wg) h.wg hb.size

set_option maxHeartbeats 400000 in
theorem mark_any (r : Int) (w : World) (h : Tabs w) : Calls Tryd.prog 15 #[.int .i32 r] w fun e w' => e = .returned (.bool (mkB r)) ∧ Below w.heap.size w w' := by
  go_enter Tryd.func15, Tryd.ntmps15
  go_wp2_with (first
    | (go_at_call 54; refine (marks_any _).mono ?_; rintro e w' ⟨rfl, rfl⟩)
    | (go_at_call 51; refine (inMarks_any r w h).mono ?_; rintro e w1 ⟨rfl, hb⟩))
  go_ret
  exact ⟨rfl, hb⟩

set_option maxHeartbeats 1000000 in
theorem wide_any (r : Int) (w : World) (h : Tabs w) : Calls Tryd.prog 17 #[.int .i32 r] w fun e w' => e = .returned (.bool (wdB r)) ∧ Below w.heap.size w w' := by
  unfold wdB
  generalize hv : inT wdT r = v
  have HV := Lib.hid hv
  clear hv
  generalize hm : mkB r = m
  have HM := Lib.hid hm
  clear hm
  cases v
  · go_enter Tryd.func17, Tryd.ntmps17
    go_wp2_with (first
      | (go_at_call 52; refine (wides_any _).mono ?_; rintro e w' ⟨rfl, rfl⟩)
      | (go_at_call 51; refine (inWides_any r w h).mono ?_; rintro e w1 ⟨rfl, hb⟩; rw [HV.out]))
    go_ret
    exact ⟨rfl, hb⟩
  · go_enter Tryd.func17, Tryd.ntmps17
    go_wp2_with (first
      | (go_at_call 52; refine (wides_any _).mono ?_; rintro e w' ⟨rfl, rfl⟩)
      | (go_at_call 51; refine (inWides_any r w h).mono ?_; rintro e w1 ⟨rfl, hb⟩; rw [HV.out])
      | (go_at_call 15; refine (mark_any r w1 (h.below hb)).mono ?_; rintro e w2 ⟨rfl, hb2⟩; rw [HM.out]))
    go_ret
    exact ⟨ret_bool (by simp), hb.trans (hb2.mono hb.size)⟩

set_option maxHeartbeats 1000000 in
theorem of_any (r : Int) (w : World) (h : Tabs w) : Calls Tryd.prog 11 #[.int .i32 r] w fun e w' => e = .returned (.int .i64 (ofI r)) ∧ Below w.heap.size w w' := by
  unfold ofI
  generalize hr : rnB r = a
  have HR := Lib.hid hr
  clear hr
  generalize hc : ctB r = b
  have HC := Lib.hid hc
  clear hc
  generalize hm : mkB r = c
  have HM := Lib.hid hm
  clear hm
  generalize hv : inT wdT r = d
  have HV := Lib.hid hv
  clear hv
  cases a <;> cases b <;> cases c <;> cases d
  all_goals
    go_enter Tryd.func11, Tryd.ntmps11
    go_wp2_with (first
      | (go_at_call 50; refine (isr_any r w).mono ?_; rintro e w' ⟨rfl, rfl⟩; rw [HR.out])
      | (go_at_call 13; refine (ctl_any r w).mono ?_; rintro e w' ⟨rfl, rfl⟩; rw [HC.out])
      | (go_at_call 15; refine (mark_any r w h).mono ?_; rintro e w1 ⟨rfl, hb⟩; rw [HM.out])
      | (go_at_call 52; refine (wides_any _).mono ?_; rintro e w' ⟨rfl, rfl⟩)
      | (go_at_call 51; refine (inWides_any r w1 (h.below hb)).mono ?_; rintro e w2 ⟨rfl, hb2⟩; rw [HV.out]))
    go_ret
    first
      | exact ⟨rfl, Below.refl _ _⟩
      | exact ⟨rfl, hb⟩
      | exact ⟨rfl, hb.trans (hb2.mono hb.size)⟩
end Go.Proofs.YtmgakdbcgdhpaaaDoor
