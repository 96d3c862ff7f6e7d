/-
  FrameChecks: for every input the law returns true and writes nothing that was there. Condition: what it reads is of bulk at most 1048576; the package-level variables that the row lists hold what the program's text lays (tied by the card).
-/
import Derived.Test.YtaijiapolippaaaDoorFrDoorC
import Derived.Test.YtaijiapolippaaaDoorFrChecks
import Derived.Test.YtaijiapolippaaaDoorLawInts
import Derived.Test.YtaijiapolippaaaDoorLawUp
namespace Go.Proofs.YtaijiapolippaaaDoor
open Go.ChangeShapes Go.WideShapes Go.ChangeAt Go.RowKit Go.WideMaps Go.WideElems
open Go.ChangeMaps (open_string shut_string)
set_option linter.unusedVariables false

set_option maxRecDepth 100000 in
theorem frameChecks_reads (os : Os) {H : Type} (enc : TypeId × Value → H) : ∃ places, DataW.whole enc Tryd.prog ((World.laidAll Tryd.prog os Rows.frameChecksUptoRow.laid).forCall (fun _ _ => 0) ⟨#[], #[.agg #[.slice none 0 0, .int .i64 0, .int .i64 0, .bool false], .agg #[.slice none 0 0, .int .i64 0, .int .i64 0, .bool false], .int .u8 0], []⟩).memory Tryd.f5.params.toList Rows.frameChecksSpec.vars false (#[.agg #[.slice none 0 0, .int .i64 0, .int .i64 0, .bool false], .agg #[.slice none 0 0, .int .i64 0, .int .i64 0, .bool false], .int .u8 0] : Array Value).toList 8 = some ([.agg [.nil, .lit (.int .i64 0), .lit (.int .i64 0), .lit (.bool false)], .agg [.nil, .lit (.int .i64 0), .lit (.int .i64 0), .lit (.bool false)], .lit (.int .u8 0)], [], places) :=
  ⟨[], by kernel_rfl⟩

set_option maxRecDepth 100000 in
theorem frameChecks_lifted (os : Os) (started : os.Started) (H : Type) (enc : TypeId × Value → H) (F : Stop.Interp) :
    ReturnsInHanded {} Tryd.checked os 5 .any ((Rows.OpenSpec.upto Rows.frameChecksSpec).preRow enc Tryd.prog Tryd.f5 Rows.frameChecksUptoRow.domain false Rows.frameChecksUptoRow.laid) (((Rows.OpenSpec.upto Rows.frameChecksSpec).at F).post enc Tryd.prog Tryd.f5 false true false false) := by
  obtain ⟨places, hx⟩ := frameChecks_reads os enc
  refine returnsInHanded_of_row (C := Tryd.checked) (s := Rows.OpenSpec.upto Rows.frameChecksSpec) own started (by kernel_rfl) Tryd.func5
    (witness_row_shaped (enc := enc) (C := Tryd.checked) false (World.laidAll Tryd.prog os Rows.frameChecksUptoRow.laid) #[.agg #[.slice none 0 0, .int .i64 0, .int .i64 0, .bool false], .agg #[.slice none 0 0, .int .i64 0, .int .i64 0, .bool false], .int .u8 0] (World.laidAll_os _ _ _) (World.shaped_of_ZipB (by kernel_rfl) (by kernel_rfl)) (by kernel_rfl)
      (OpenSpec.preRow_of_cond 8 hx (by kernel_rfl) (fun k hk => by cases hk; kernel_rfl) (by kernel_rfl) (frame_met os _))) ?_
  intro W base args ds gs before hval hW _ hcond _ hL _ _
  have hbk := bk_bound (hcond _ rfl)
  refine law_frame1 (T := 4) (s := Rows.frameChecksSpec) Tryd.underlying4 rfl rfl (by kernel_rfl) ?_ W base args ds gs before hval hW ?_
  · intro ds hl
    match ds, hl with
    | [_, _, _], _ => exact ⟨rfl, rfl, rfl⟩
  · intro p hA
    rw [Tryd.params5] at hA hval
    obtain ⟨v0, vs0, d0, ds0, p0, q0, hargs, rfl, rfl, h0, r0⟩ := trodAll_cons hA
    obtain ⟨v1, vs1, d1, ds1, p1, q1, rfl, rfl, rfl, h1, r1⟩ := trodAll_cons r0
    obtain ⟨v2, vs2, d2, ds2, p2, q2, rfl, rfl, rfl, h2, r2⟩ := trodAll_cons r1
    obtain ⟨rfl, rfl, rfl⟩ := trodAll_nil r2
    obtain rfl : args = #[v0, v1, v2] := by cases args; simp_all
    obtain ⟨A0, c0, L0, row0, col0, sn0, rfl, hf0, hc0, hw0, hr0, hcl0⟩ := open_frm (hval 0 74 v0 rfl rfl) h0
    obtain ⟨A1, c1, L1, row1, col1, sn1, rfl, hf1, hc1, hw1, hr1, hcl1⟩ := open_frm (hval 1 74 v1 rfl rfl) h1
    obtain ⟨x2, rfl, lo2, hi2⟩ := open_u8 Tryd.underlying5 (hval 2 5 v2 rfl rfl) h2
    simp only [Rows.uptoBulkAll] at hbk
    exact frameChecks_walk x2 lo2 hi2 W hf0 hf1 hc0 hc1 (by omega) (by omega) (fr_of_laid hL).1 (fr_of_laid hL).2

theorem frameChecks_holds : Rows.FrameChecksUptoSaid :=
  OpenClaim.holds_of_cond 5 Tryd.f5 rfl rfl rfl rfl rfl rfl rfl ⟨rfl, rfl, rfl, rfl, rfl⟩ rfl rfl rfl rfl rfl (by kernel_rfl) Tryd.func5 (by kernel_rfl)
    (of_decide_eq_true (by kernel_rfl)) (by unfold Func.isWrapper; rw [if_neg (by decide +kernel)]; exact ⟨rfl, rfl⟩)
    (fun os started H enc _ F => by rw [OpenClaim.pre_eq_preRow]; exact frameChecks_lifted os started H enc F)

theorem frameChecks_card : Rows.FrameChecksUptoCardSaid :=
  Claim7.holds_tied_plain_at .later [] _ _ _ _
    frameChecks_holds (fun _ h => by cases h) (by kernel_rfl) (fun _ h => by cases h) frameChecksUpto_row_tie rfl ⟨rfl, rfl⟩ (by kernel_rfl) rfl
    (fun f fn hf hfn => by
      obtain rfl : f = 5 := Option.some.inj ((show Tryd.prog.funcNamed Rows.frameChecksUptoRow.func = some 5 by kernel_rfl).symm.trans hf) |>.symm
      obtain rfl : fn = Tryd.f5 := (Option.some.inj (Tryd.func5.symm.trans hfn)).symm
      exact ⟨by kernel_rfl, fun j t ht => by
        rw [Tryd.params5] at ht
        have hm := Array.mem_of_getElem? ht
        have hall : (Tryd.f5.params.toList.all fun u => !Tryd.prog.wantsStandIn u) = true := by kernel_rfl
        rw [Tryd.params5] at hall
        exact (show Tryd.prog.wantsStandIn t = false by simpa using List.all_eq_true.1 hall t (by simpa using hm))⟩)
    (by kernel_rfl)
#print axioms frameChecks_card
end Go.Proofs.YtaijiapolippaaaDoor
