/-
  KeyinPieces: for every input the law returns true and writes nothing that was there. Condition: the package-level variables that the row lists hold what the program's text lays (tied by the card).
-/
import Derived.Test.YteolafeeggjblaaDoorKnDoor
import Derived.Test.YteolafeeggjblaaDoorKnLawP
import Derived.Test.YteolafeeggjblaaDoorLawBytes
namespace Go.Proofs.YteolafeeggjblaaDoor
open Go.ChangeShapes Go.WideShapes Go.ChangeAt Go.RowKit Go.WideMaps Go.WideElems
open Go.ChangeMaps (open_string shut_string)
set_option linter.unusedVariables false

set_option maxRecDepth 100000 in
theorem keyinPieces_lifted (os : Os) (started : os.Started) (H : Type) (enc : TypeId × Value → H) :
    ReturnsInHanded {} Tryd.checked os 3 .any (fun w args => (Rows.keyinPiecesSpec.pre enc Tryd.prog Tryd.f3 [] false w args ∧ laidMetH Tryd.prog Rows.keyinPiecesRow.laid w) ∧ sizedMet enc Tryd.prog Tryd.f3 (OpenSpec.ofChange Rows.keyinPiecesSpec) false w args)
      (Rows.keyinPiecesSpec.post enc Tryd.prog Tryd.f3 false true false false) := by
  refine returnsInHanded_of_change_and (C := Tryd.checked) (X := fun w _ => laidMetH Tryd.prog Rows.keyinPiecesRow.laid w) (fun _ _ _ hh h => h.of_heap hh) own started (by kernel_rfl) Tryd.func3
    (ChangeSpec.witness_shaped (enc := enc) (C := Tryd.checked) (os := os) (X := fun w _ => laidMetH Tryd.prog Rows.keyinPiecesRow.laid w) false (World.laidAll Tryd.prog os Rows.keyinPiecesRow.laid) #[.slice none 0 0, .slice none 0 0] 8 (World.laidAll_os _ _ _) (World.shaped_of_ZipB (by kernel_rfl) (by kernel_rfl)) (by kernel_rfl) (by kernel_rfl) (by kernel_rfl) (keyin_met os _)) ?_
  intro W base args ds gs before hval hW _ hAll hL _
  refine law_frame1 (T := 4) Tryd.underlying4 rfl rfl (by kernel_rfl) ?_ W base args ds gs before hval hW ?_
  · intro ds hl
    match ds, hl with
    | [_, _], _ => exact ⟨rfl, rfl, rfl⟩
  · intro p hA
    rw [Tryd.params3] at hA hval
    obtain ⟨v0, vs0, d0, ds0, p0, q0, hargs, rfl, rfl, h0, r0⟩ := trodAll_cons hA
    obtain ⟨v1, vs1, d1, ds1, p1, q1, rfl, rfl, rfl, h1, r1⟩ := trodAll_cons r0
    obtain ⟨rfl, rfl, rfl⟩ := trodAll_nil r1
    obtain rfl : args = #[v0, v1] := by cases args; simp_all
    obtain ⟨A0, n0, c0, l0, rfl, hn0, hc0, hcm0, hnil0, hS0⟩ := open_bytes (hval 0 22 v0 rfl rfl) h0
    obtain ⟨A1, n1, c1, l1, rfl, hn1, hc1, hcm1, hnil1, hS1⟩ := open_bytes (hval 1 22 v1 rfl rfl) h1
    exact keyinPieces_walk W A0 n0 c0 l0 hn0 hc0 hS0 A1 n1 c1 l1 hn1 hcm1 hc1 hS1 (namesT_of_laid hL)

theorem keyinPieces_holds : Rows.KeyinPiecesSaid :=
  OpenClaim.holds_of_wide 3 Tryd.f3 rfl rfl rfl rfl rfl rfl rfl ⟨rfl, rfl, rfl, rfl, rfl⟩ rfl rfl rfl rfl rfl (by kernel_rfl) Tryd.func3 (by kernel_rfl)
    (of_decide_eq_true (by kernel_rfl)) (by unfold Func.isWrapper; rw [if_neg (by decide +kernel)]; exact ⟨rfl, rfl⟩)
    (fun os started H enc _ => keyinPieces_lifted os started H enc)

theorem keyinPieces_card : Rows.KeyinPiecesCardSaid :=
  Claim7.holds_tied_plain_at .later [] Rows.keyinPiecesCard.laidKinds true Rows.keyinPiecesCard.stood.harness false
    keyinPieces_holds (fun _ h => by cases h) (by kernel_rfl) (fun _ h => by cases h) keyinPieces_row_tie rfl ⟨rfl, rfl⟩ (by kernel_rfl) rfl
    (fun f fn hf hfn => by
      obtain rfl : f = 3 := Option.some.inj ((show Tryd.prog.funcNamed Rows.keyinPiecesRow.func = some 3 by kernel_rfl).symm.trans hf) |>.symm
      obtain rfl : fn = Tryd.f3 := (Option.some.inj (Tryd.func3.symm.trans hfn)).symm
      exact ⟨by kernel_rfl, fun j t ht => by
        rw [Tryd.params3] at ht
        have hm := Array.mem_of_getElem? ht
        have hall : (Tryd.f3.params.toList.all fun u => !Tryd.prog.wantsStandIn u) = true := by kernel_rfl
        rw [Tryd.params3] at hall
        exact (show Tryd.prog.wantsStandIn t = false by simpa using List.all_eq_true.1 hall t (by simpa using hm))⟩)
    (by kernel_rfl)
#print axioms keyinPieces_card
end Go.Proofs.YteolafeeggjblaaDoor
