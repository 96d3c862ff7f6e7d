/-
  TermRuns: after any bytes, other sizes and forks a terminal of any size stands as the document's; its cursor stands in it, a wrap is pending on the last column alone, and less than 32 bytes wait: for every input the law returns true and writes nothing that was there. Condition: the package-level variables that the row lists hold what the program's text lays (tied by the card).
-/
import Derived.Test.YtfmkeeaenjeneaaGreatDoorGcL
import Derived.Test.YtfmkeeaenjeneaaGreatDoorGcT
namespace Go.Proofs.YtfmkeeaenjeneaaGreatDoor
open Go.ChangeShapes Go.WideShapes Go.ChangeAt Go.RowKit Go.WideMaps Go.WideElems
open Go.ChangeMaps (open_string shut_string)
set_option linter.unusedVariables false

set_option maxRecDepth 100000 in
theorem termRuns_lifted (os : Os) (started : os.Started) (H : Type) (enc : TypeId × Value → H) :
    ReturnsInHanded {} Tryz.checked os 3 .any (fun w args => (Rows.termRunsSpec.pre enc Tryz.prog Tryz.f3 [] false w args ∧ laidMetH Tryz.prog Rows.termRunsRow.laid w) ∧ sizedMet enc Tryz.prog Tryz.f3 (OpenSpec.ofChange Rows.termRunsSpec) false w args)
      (Rows.termRunsSpec.post enc Tryz.prog Tryz.f3 false true false false) := by
  refine returnsInHanded_of_change_and (C := Tryz.checked) (X := fun w _ => laidMetH Tryz.prog Rows.termRunsRow.laid w) (fun _ _ _ hh h => h.of_heap hh) own started (by kernel_rfl) Tryz.func3
    (ChangeSpec.witness_shaped (enc := enc) (C := Tryz.checked) (os := os) (X := fun w _ => laidMetH Tryz.prog Rows.termRunsRow.laid w) false (World.laidAll Tryz.prog os Rows.termRunsRow.laid) #[.int .i64 0, .int .i64 0, .slice none 0 0] 8 (World.laidAll_os _ _ _) (World.shaped_of_ZipB (by kernel_rfl) (by kernel_rfl)) (by kernel_rfl) (by kernel_rfl) (by kernel_rfl) (termS_met os _)) ?_
  intro W base args ds gs before hval hW _ hAll hL _
  refine law_frame1 (T := 4) Tryz.underlying4 rfl rfl (by kernel_rfl) ?_ W base args ds gs before hval hW ?_
  · intro ds hl
    match ds, hl with
    | [_, _, _], _ => exact ⟨rfl, rfl, rfl⟩
  · intro p hA
    rw [Tryz.params3] at hA hval
    obtain ⟨v0, vs0, d0, ds0, p0, q0, hargs, rfl, rfl, h0, r0⟩ := trodAll_cons hA
    obtain ⟨v1, vs1, d1, ds1, p1, q1, rfl, rfl, rfl, h1, r1⟩ := trodAll_cons r0
    obtain ⟨v2, vs2, d2, ds2, p2, q2, rfl, rfl, rfl, h2, r2⟩ := trodAll_cons r1
    obtain ⟨rfl, rfl, rfl⟩ := trodAll_nil r2
    obtain rfl : args = #[v0, v1, v2] := by cases args; simp_all
    obtain ⟨x0, rfl, lo0, hi0⟩ := open_i64 Tryz.underlying3 (hval 0 3 v0 rfl rfl) h0
    obtain ⟨x1, rfl, lo1, hi1⟩ := open_i64 Tryz.underlying3 (hval 1 3 v1 rfl rfl) h1
    obtain ⟨A2, n2, c2, l2, rfl, hn2, hm2, hok2, hS2⟩ := open_opsT (hval 2 22 v2 rfl rfl) h2
    exact termRuns_walk x0 x1 l2 W hok2 n2 c2 A2 hn2 hm2 hS2 (factsS_of_laid hL).1 (factsS_of_laid hL).2

theorem termRuns_holds : Rows.TermRunsSaid :=
  OpenClaim.holds_of_wide 3 Tryz.f3 rfl rfl rfl rfl rfl rfl rfl ⟨rfl, rfl, rfl, rfl, rfl⟩ rfl rfl rfl rfl rfl (by kernel_rfl) Tryz.func3 (by kernel_rfl)
    (of_decide_eq_true (by kernel_rfl)) (by unfold Func.isWrapper; rw [if_neg (by decide +kernel)]; exact ⟨rfl, rfl⟩)
    (fun os started H enc _ => termRuns_lifted os started H enc)

theorem termRuns_card : Rows.TermRunsCardSaid :=
  Claim7.holds_tied_plain_at .later [] Rows.termRunsCard.laidKinds true Rows.termRunsCard.stood.harness false
    termRuns_holds (fun _ h => by cases h) (by kernel_rfl) (fun _ h => by cases h) termRuns_row_tie rfl ⟨rfl, rfl⟩ (by kernel_rfl) rfl
    (fun f fn hf hfn => by
      obtain rfl : f = 3 := Option.some.inj ((show Tryz.prog.funcNamed Rows.termRunsRow.func = some 3 by kernel_rfl).symm.trans hf) |>.symm
      obtain rfl : fn = Tryz.f3 := (Option.some.inj (Tryz.func3.symm.trans hfn)).symm
      exact ⟨by kernel_rfl, fun j t ht => by
        rw [Tryz.params3] at ht
        have hm := Array.mem_of_getElem? ht
        have hall : (Tryz.f3.params.toList.all fun u => !Tryz.prog.wantsStandIn u) = true := by kernel_rfl
        rw [Tryz.params3] at hall
        exact (show Tryz.prog.wantsStandIn t = false by simpa using List.all_eq_true.1 hall t (by simpa using hm))⟩)
    (by kernel_rfl)
#print axioms termRuns_card
end Go.Proofs.YtfmkeeaenjeneaaGreatDoor
