/-
  HistoryRuns: for every input the law returns true and writes nothing that was there. Condition: the package-level variables that the row lists hold what the program's text lays (tied by the card).
-/
import Derived.Test.YtfjiogockpmogaaDoorHsDoorR
import Derived.Test.YtfjiogockpmogaaDoorHsRuns
import Derived.Test.YtfjiogockpmogaaDoorLawOpsH
import Derived.Test.YtfjiogockpmogaaDoorLawI64
import Derived.Test.YtfjiogockpmogaaDoorLawNums
namespace Go.Proofs.YtfjiogockpmogaaDoor
open Go.ChangeShapes Go.WideShapes Go.ChangeAt Go.RowKit Go.WideMaps Go.WideElems
open Go.ChangeMaps (open_string shut_string)
set_option linter.unusedVariables false

set_option maxRecDepth 100000 in
theorem historyRuns_lifted (os : Os) (started : os.Started) (H : Type) (enc : TypeId × Value → H) :
    ReturnsInHanded {} Tryd.checked os 3 .any (fun w args => (Rows.historyRunsSpec.pre enc Tryd.prog Tryd.f3 [] false w args ∧ laidMetH Tryd.prog Rows.historyRunsRow.laid w) ∧ sizedMet enc Tryd.prog Tryd.f3 (OpenSpec.ofChange Rows.historyRunsSpec) false w args)
      (Rows.historyRunsSpec.post enc Tryd.prog Tryd.f3 false true false false) := by
  refine returnsInHanded_of_change_and (C := Tryd.checked) (X := fun w _ => laidMetH Tryd.prog Rows.historyRunsRow.laid w) (fun _ _ _ hh h => h.of_heap hh) own started (by kernel_rfl) Tryd.func3
    (ChangeSpec.witness_shaped (enc := enc) (C := Tryd.checked) (os := os) (X := fun w _ => laidMetH Tryd.prog Rows.historyRunsRow.laid w) false (World.doorLaid Tryd.prog 400 os) #[.int .i64 0, .slice none 0 0, .int .i64 0, .int .u8 0] 8 rfl (World.shaped_of_RefB (by kernel_rfl) (by kernel_rfl)) (by kernel_rfl) (by kernel_rfl) (by kernel_rfl) (door_met os _)) ?_
  intro W base args ds gs before hval hW _ hAll hL _
  refine law_frame1 (T := 4) Tryd.underlying4 rfl rfl (by kernel_rfl) ?_ W base args ds gs before hval hW ?_
  · intro ds hl
    match ds, hl with
    | [_, _, _, _], _ => exact ⟨rfl, rfl, rfl⟩
  · intro p hA
    rw [Tryd.params3] at hA hval
    obtain ⟨v0, vs0, d0, ds0, p0, q0, hargs, rfl, rfl, h0, r0⟩ := trodAll_cons hA
    obtain ⟨v1, vs1, d1, ds1, p1, q1, rfl, rfl, rfl, h1, r1⟩ := trodAll_cons r0
    obtain ⟨v2, vs2, d2, ds2, p2, q2, rfl, rfl, rfl, h2, r2⟩ := trodAll_cons r1
    obtain ⟨v3, vs3, d3, ds3, p3, q3, rfl, rfl, rfl, h3, r3⟩ := trodAll_cons r2
    obtain ⟨rfl, rfl, rfl⟩ := trodAll_nil r3
    obtain rfl : args = #[v0, v1, v2, v3] := by cases args; simp_all
    obtain ⟨x0, rfl, lo0, hi0⟩ := open_i64 Tryd.underlying3 (hval 0 3 v0 rfl rfl) h0
    obtain ⟨A1, n1, c1, l1, rfl, hn1, hm1, hok1, hS1⟩ := open_opsH (hval 1 22 v1 rfl rfl) h1
    obtain ⟨x2, rfl, lo2, hi2⟩ := open_i64 Tryd.underlying3 (hval 2 3 v2 rfl rfl) h2
    obtain ⟨x3, rfl, lo3, hi3⟩ := open_u8 Tryd.underlying5 (hval 3 5 v3 rfl rfl) h3
    exact historyRuns_walk x0 l1 n1 c1 A1 hn1 hm1 x2 x3 lo3 hi3 W hok1 hS1 (tabs_of_laid hL) ⟨(tabs_of_laid hL).mg, (tabs_of_laid hL).wg⟩

theorem historyRuns_holds : Rows.HistoryRunsSaid :=
  OpenClaim.holds_of_wide 3 Tryd.f3 rfl rfl rfl rfl rfl rfl rfl ⟨rfl, rfl, rfl, rfl, rfl⟩ rfl rfl rfl rfl rfl (by kernel_rfl) Tryd.func3 (by kernel_rfl)
    (of_decide_eq_true (by kernel_rfl)) (by unfold Func.isWrapper; rw [if_neg (by decide +kernel)]; exact ⟨rfl, rfl⟩)
    (fun os started H enc _ => historyRuns_lifted os started H enc)

theorem historyRuns_card : Rows.HistoryRunsCardSaid :=
  Claim7.holds_tied_plain_at .later [] Rows.historyRunsCard.laidKinds true Rows.historyRunsCard.stood.harness false
    historyRuns_holds (fun _ h => by cases h) (by kernel_rfl) (fun _ h => by cases h) historyRuns_row_tie rfl ⟨rfl, rfl⟩ (by kernel_rfl) rfl
    (fun f fn hf hfn => by
      obtain rfl : f = 3 := Option.some.inj ((show Tryd.prog.funcNamed Rows.historyRunsRow.func = some 3 by kernel_rfl).symm.trans hf) |>.symm
      obtain rfl : fn = Tryd.f3 := (Option.some.inj (Tryd.func3.symm.trans hfn)).symm
      exact ⟨by kernel_rfl, fun j t ht => by
        rw [Tryd.params3] at ht
        have hm := Array.mem_of_getElem? ht
        have hall : (Tryd.f3.params.toList.all fun u => !Tryd.prog.wantsStandIn u) = true := by kernel_rfl
        rw [Tryd.params3] at hall
        exact (show Tryd.prog.wantsStandIn t = false by simpa using List.all_eq_true.1 hall t (by simpa using hm))⟩)
    (by kernel_rfl)
#print axioms historyRuns_card
end Go.Proofs.YtfjiogockpmogaaDoor
