/-
  TermPieces: bytes make the same of a terminal in whatever pieces they come, also one by one, and what the document's terminal makes of them: for every input the law returns true and writes nothing that was there. Condition: the package-level variables that the row lists hold what the program's text lays (tied by the card).
-/
import Derived.Test.YtfmkeeaenjeneaaGreatDoorTmDoorR
import Derived.Test.YtfmkeeaenjeneaaGreatDoorTrPieces
import Derived.Test.YtfmkeeaenjeneaaGreatDoorLawInts
import Derived.Test.YtfmkeeaenjeneaaGreatDoorLawBytes
namespace Go.Proofs.YtfmkeeaenjeneaaGreatDoor
open Go.ChangeShapes Go.WideShapes Go.ChangeAt Go.RowKit Go.WideMaps Go.WideElems
open Go.ChangeMaps (open_string shut_string)
set_option linter.unusedVariables false

set_option maxRecDepth 100000 in
theorem termPieces_lifted (os : Os) (started : os.Started) (H : Type) (enc : TypeId × Value → H) :
    ReturnsInHanded {} Tryz.checked os 4 .any (fun w args => (Rows.termPiecesSpec.pre enc Tryz.prog Tryz.f4 [] false w args ∧ laidMetH Tryz.prog Rows.termPiecesRow.laid w) ∧ sizedMet enc Tryz.prog Tryz.f4 (OpenSpec.ofChange Rows.termPiecesSpec) false w args)
      (Rows.termPiecesSpec.post enc Tryz.prog Tryz.f4 false true false false) := by
  refine returnsInHanded_of_change_and (C := Tryz.checked) (X := fun w _ => laidMetH Tryz.prog Rows.termPiecesRow.laid w) (fun _ _ _ hh h => h.of_heap hh) own started (by kernel_rfl) Tryz.func4
    (ChangeSpec.witness_shaped (enc := enc) (C := Tryz.checked) (os := os) (X := fun w _ => laidMetH Tryz.prog Rows.termPiecesRow.laid w) false (World.laidAll Tryz.prog os Rows.termPiecesRow.laid) #[.int .u8 0, .int .u8 0, .slice none 0 0, .slice none 0 0] 8 (World.laidAll_os _ _ _) (World.shaped_of_ZipB (by kernel_rfl) (by kernel_rfl)) (by kernel_rfl) (by kernel_rfl) (by kernel_rfl) (termR_met os _)) ?_
  intro W base args ds gs before hval hW _ hAll hL _
  refine law_frame1 (T := 4) Tryz.underlying4 rfl rfl (by kernel_rfl) ?_ W base args ds gs before hval hW ?_
  · intro ds hl
    match ds, hl with
    | [_, _, _, _], _ => exact ⟨rfl, rfl, rfl⟩
  · intro p hA
    rw [Tryz.params4] at hA hval
    obtain ⟨v0, vs0, d0, ds0, p0, q0, hargs, rfl, rfl, h0, r0⟩ := trodAll_cons hA
    obtain ⟨v1, vs1, d1, ds1, p1, q1, rfl, rfl, rfl, h1, r1⟩ := trodAll_cons r0
    obtain ⟨v2, vs2, d2, ds2, p2, q2, rfl, rfl, rfl, h2, r2⟩ := trodAll_cons r1
    obtain ⟨v3, vs3, d3, ds3, p3, q3, rfl, rfl, rfl, h3, r3⟩ := trodAll_cons r2
    obtain ⟨rfl, rfl, rfl⟩ := trodAll_nil r3
    obtain rfl : args = #[v0, v1, v2, v3] := by cases args; simp_all
    obtain ⟨x0, rfl, lo0, hi0⟩ := open_u8 Tryz.underlying5 (hval 0 5 v0 rfl rfl) h0
    obtain ⟨x1, rfl, lo1, hi1⟩ := open_u8 Tryz.underlying5 (hval 1 5 v1 rfl rfl) h1
    obtain ⟨A2, n2, c2, l2, rfl, hn2, hc2, hcm2, hnil2, hS2⟩ := open_bytes (hval 2 32 v2 rfl rfl) h2
    obtain ⟨A3, n3, c3, l3, rfl, hn3, hc3, hcm3, hnil3, hS3⟩ := open_bytes (hval 3 32 v3 rfl rfl) h3
    exact termPieces_walk x0 x1 lo0 hi0 lo1 hi1 W A2 n2 c2 l2 hn2 hc2 hcm2 hnil2 hS2 A3 n3 c3 l3 hn3 hcm3 hc3 hS3 (factsR_of_laid hL).1 (factsR_of_laid hL).2

theorem termPieces_holds : Rows.TermPiecesSaid :=
  OpenClaim.holds_of_wide 4 Tryz.f4 rfl rfl rfl rfl rfl rfl rfl ⟨rfl, rfl, rfl, rfl, rfl⟩ rfl rfl rfl rfl rfl (by kernel_rfl) Tryz.func4 (by kernel_rfl)
    (of_decide_eq_true (by kernel_rfl)) (by unfold Func.isWrapper; rw [if_neg (by decide +kernel)]; exact ⟨rfl, rfl⟩)
    (fun os started H enc _ => termPieces_lifted os started H enc)

theorem termPieces_card : Rows.TermPiecesCardSaid :=
  Claim7.holds_tied_plain_at .later [] Rows.termPiecesCard.laidKinds true Rows.termPiecesCard.stood.harness false
    termPieces_holds (fun _ h => by cases h) (by kernel_rfl) (fun _ h => by cases h) termPieces_row_tie rfl ⟨rfl, rfl⟩ (by kernel_rfl) rfl
    (fun f fn hf hfn => by
      obtain rfl : f = 4 := Option.some.inj ((show Tryz.prog.funcNamed Rows.termPiecesRow.func = some 4 by kernel_rfl).symm.trans hf) |>.symm
      obtain rfl : fn = Tryz.f4 := (Option.some.inj (Tryz.func4.symm.trans hfn)).symm
      exact ⟨by kernel_rfl, fun j t ht => by
        rw [Tryz.params4] at ht
        have hm := Array.mem_of_getElem? ht
        have hall : (Tryz.f4.params.toList.all fun u => !Tryz.prog.wantsStandIn u) = true := by kernel_rfl
        rw [Tryz.params4] at hall
        exact (show Tryz.prog.wantsStandIn t = false by simpa using List.all_eq_true.1 hall t (by simpa using hm))⟩)
    (by kernel_rfl)
#print axioms termPieces_card
end Go.Proofs.YtfmkeeaenjeneaaGreatDoor
