/-
  RunesText: for all bytes and every bound the law returns true and writes nothing that was there. No condition.
-/
import Derived.Test.YtckohomfoicffaaRnLaw2
import Derived.Test.YtckohomfoicffaaLawInts
namespace Go.Proofs.Ytckohomfoicffaa
open Go.ChangeShapes Go.WideShapes Go.ChangeAt Go.RowKit Go.WideMaps Go.WideElems
open Go.ChangeMaps (open_string shut_string)
set_option linter.unusedVariables false

set_option maxRecDepth 100000 in
theorem runesText_lifted (os : Os) (started : os.Started) (H : Type) (enc : TypeId × Value → H) :
    ReturnsInHanded {} Try.checked os 3 .any (Rows.runesTextSpec.pre6 enc Try.prog Try.f3 Rows.runesTextRow.domain false) (Rows.runesTextSpec.post enc Try.prog Try.f3 false true false false) := by
  refine returnsInHanded_of_change (C := Try.checked) own started (by kernel_rfl) Try.func3
    (ChangeSpec.witness6 (enc := enc) (C := Try.checked) false ⟨#[], #[.slice none 0 0, .int .u8 0], []⟩ 8 (by kernel_rfl) (by kernel_rfl) (by kernel_rfl) (by kernel_rfl)) ?_
  intro W base args ds gs before hval hW hcnd _
  refine law_frame (T := 4) Try.underlying4 rfl rfl (by kernel_rfl) ?_ ?_ W base args ds gs before hval hW
  · intro ds hl
    match ds, hl with
    | [_, _], _ => exact ⟨rfl, rfl, rfl⟩
  · intro W base args ds p hval hA
    rw [Try.params3] at hA hval
    obtain ⟨v0, vs0, d0, ds0, p0, q0, hargs, rfl, rfl, h0, r0⟩ := trodAll_cons hA
    obtain ⟨v1, vs1, d1, ds1, p1, q1, rfl, rfl, rfl, h1, r1⟩ := trodAll_cons r0
    obtain ⟨rfl, rfl, rfl⟩ := trodAll_nil r1
    obtain rfl : args = #[v0, v1] := by cases args; simp_all
    obtain ⟨A0, n0, c0, l0, rfl, hn0, hc0, hcm0, hnil0, hS0⟩ := open_bytes (hval 0 22 v0 rfl rfl) h0
    obtain ⟨x1, rfl, lo1, hi1⟩ := open_u8 Try.underlying5 (hval 1 5 v1 rfl rfl) h1
    exact law2_int A0 n0 c0 l0 x1 W lo1 hi1 hn0 hc0 hcm0 hnil0 hS0

theorem runesText_holds : Rows.RunesTextSaid :=
  OpenClaim.holds_of_wide 3 Try.f3 rfl rfl rfl rfl rfl rfl rfl ⟨rfl, rfl, rfl, rfl, rfl⟩ rfl rfl rfl rfl rfl (by kernel_rfl) Try.func3 (by kernel_rfl)
    (of_decide_eq_true (by kernel_rfl)) (by unfold Func.isWrapper; rw [if_neg (by decide +kernel)]; exact ⟨rfl, rfl⟩)
    (fun os started H enc _ => runesText_lifted os started H enc)
#print axioms runesText_holds
end Go.Proofs.Ytckohomfoicffaa
