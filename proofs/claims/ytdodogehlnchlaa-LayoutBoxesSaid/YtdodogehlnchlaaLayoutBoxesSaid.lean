/-
  LayoutBoxes: for every input the law returns true and writes nothing that was there.
-/
import Derived.Test.YtdodogehlnchlaaLyBoxes
import Derived.Test.YtdodogehlnchlaaLawI64
import Derived.Test.YtdodogehlnchlaaLawNums
import Derived.Test.YtdodogehlnchlaaLawPts
namespace Go.Proofs.Ytdodogehlnchlaa
open Go.ChangeShapes Go.WideShapes Go.ChangeAt Go.RowKit Go.WideMaps Go.WideElems
open Go.ChangeMaps (open_string shut_string)
set_option linter.unusedVariables false

set_option maxRecDepth 100000 in
theorem layoutBoxes_lifted (os : Os) (started : os.Started) (H : Type) (enc : TypeId × Value → H) :
    ReturnsInHanded {} Try.checked os 8 .any (Rows.layoutBoxesSpec.pre6 enc Try.prog Try.f8 Rows.layoutBoxesRow.domain false) (Rows.layoutBoxesSpec.post enc Try.prog Try.f8 false true false false) := by
  refine returnsInHanded_of_change (C := Try.checked) own started (by kernel_rfl) Try.func8
    (ChangeSpec.witness6 (enc := enc) (C := Try.checked) false ⟨#[], #[.int .i64 0, .int .i64 0, .int .i64 0, .slice none 0 0, .slice none 0 0, .int .u8 0], []⟩ 8 (by kernel_rfl) (by kernel_rfl) (by kernel_rfl) (by kernel_rfl)) ?_
  intro W base args ds gs before hval hW hcnd _
  refine law_frame (T := 4) Try.underlying4 rfl rfl (by kernel_rfl) ?_ ?_ W base args ds gs before hval hW
  · intro ds hl
    match ds, hl with
    | [_, _, _, _, _, _], _ => exact ⟨rfl, rfl, rfl⟩
  · intro W base args ds p hval hA
    rw [Try.params8] at hA hval
    obtain ⟨v0, vs0, d0, ds0, p0, q0, hargs, rfl, rfl, h0, r0⟩ := trodAll_cons hA
    obtain ⟨v1, vs1, d1, ds1, p1, q1, rfl, rfl, rfl, h1, r1⟩ := trodAll_cons r0
    obtain ⟨v2, vs2, d2, ds2, p2, q2, rfl, rfl, rfl, h2, r2⟩ := trodAll_cons r1
    obtain ⟨v3, vs3, d3, ds3, p3, q3, rfl, rfl, rfl, h3, r3⟩ := trodAll_cons r2
    obtain ⟨v4, vs4, d4, ds4, p4, q4, rfl, rfl, rfl, h4, r4⟩ := trodAll_cons r3
    obtain ⟨v5, vs5, d5, ds5, p5, q5, rfl, rfl, rfl, h5, r5⟩ := trodAll_cons r4
    obtain ⟨rfl, rfl, rfl⟩ := trodAll_nil r5
    obtain rfl : args = #[v0, v1, v2, v3, v4, v5] := by cases args; simp_all
    obtain ⟨x0, rfl, lo0, hi0⟩ := open_i64 Try.underlying3 (hval 0 3 v0 rfl rfl) h0
    obtain ⟨x1, rfl, lo1, hi1⟩ := open_i64 Try.underlying3 (hval 1 3 v1 rfl rfl) h1
    obtain ⟨x2, rfl, lo2, hi2⟩ := open_i64 Try.underlying3 (hval 2 3 v2 rfl rfl) h2
    obtain ⟨A3, n3, c3, P3, rfl, hn3, hS3⟩ := open_pts (hval 3 22 v3 rfl rfl) h3
    obtain ⟨A4, n4, c4, P4, rfl, hn4, hS4⟩ := open_pts (hval 4 22 v4 rfl rfl) h4
    obtain ⟨x5, rfl, lo5, hi5⟩ := open_u8 Try.underlying5 (hval 5 5 v5 rfl rfl) h5
    exact layoutBoxes_walk x0 x1 x2 A3 A4 n3 n4 c3 c4 P3 P4 x5 lo5 hi5 W hn3 hn4 hS3 hS4

theorem layoutBoxes_holds : Rows.LayoutBoxesSaid :=
  OpenClaim.holds_of_wide 8 Try.f8 rfl rfl rfl rfl rfl rfl rfl ⟨rfl, rfl, rfl, rfl, rfl⟩ rfl rfl rfl rfl rfl (by kernel_rfl) Try.func8 (by kernel_rfl)
    (of_decide_eq_true (by kernel_rfl)) (by unfold Func.isWrapper; rw [if_neg (by decide +kernel)]; exact ⟨rfl, rfl⟩)
    (fun os started H enc _ => layoutBoxes_lifted os started H enc)
#print axioms layoutBoxes_holds
end Go.Proofs.Ytdodogehlnchlaa
