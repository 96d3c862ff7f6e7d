/-
  RunesNext: for all bytes and every number the law returns true and writes nothing that was there. No condition.
-/
import Derived.Test.YtgalkmbocbpgiaaRnLaw1
namespace Go.Proofs.Ytgalkmbocbpgiaa
open Go.ChangeShapes Go.WideShapes Go.ChangeAt Go.RowKit
set_option linter.unusedVariables false

set_option maxRecDepth 100000 in
theorem runesNext_lifted (os : Os) (started : os.Started) (H : Type) (enc : TypeId × Value → H) :
    ReturnsInHanded {} Try.checked os 3 .any (Rows.runesNextSpec.pre6 enc Try.prog Try.f3 Rows.runesNextRow.domain false) (Rows.runesNextSpec.post enc Try.prog Try.f3 false true false false) := by
  refine returnsInHanded_of_change (C := Try.checked) own started (by kernel_rfl) Try.func3
    (ChangeSpec.witness6 (enc := enc) (C := Try.checked) false ⟨#[], #[.slice none 0 0, .int .i32 0], []⟩ 8 (by kernel_rfl) (by kernel_rfl) (by kernel_rfl) (by kernel_rfl)) ?_
  intro W base args ds gs before hval hW hcnd _
  refine law_frame (T := 4) Try.underlying4 rfl rfl (by kernel_rfl) ?_ ?_ W base args ds gs before hval hW
  · intro ds hl
    match ds, hl with
    | [_, _], _ => exact ⟨rfl, rfl, rfl⟩
  · intro W base args ds p hval hA
    rw [Try.params3] at hA hval
    obtain ⟨v0, vs0, d0, ds0, p0, q0, hargs, rfl, rfl, h0, r0⟩ := trodAll_cons hA
    obtain ⟨v1, vs1, d1, ds1, p1, q1, rfl, rfl, rfl, h1, r1⟩ := trodAll_cons r0
    obtain ⟨rfl, rfl, rfl⟩ := trodAll_nil r1
    obtain rfl : args = #[v0, v1] := by cases args; simp_all
    obtain ⟨A, n, c, l, rfl, hn, hc, hcm, hnil, hS⟩ := open_bytes (hval 0 22 v0 rfl rfl) h0
    obtain ⟨r, rfl, hr0, hr1⟩ := open_i32 Try.underlying21 (hval 1 21 v1 rfl rfl) h1
    exact law1_walk A n c l r W hn hc hcm hnil hS hr0 hr1

theorem runesNext_holds : Rows.RunesNextSaid :=
  OpenClaim.holds_of_wide 3 Try.f3 rfl rfl rfl rfl rfl rfl rfl ⟨rfl, rfl, rfl, rfl, rfl⟩ rfl rfl rfl rfl rfl (by kernel_rfl) Try.func3 (by kernel_rfl)
    (of_decide_eq_true (by kernel_rfl)) (by unfold Func.isWrapper; rw [if_neg (by decide +kernel)]; exact ⟨rfl, rfl⟩)
    (fun os started H enc _ => runesNext_lifted os started H enc)
#print axioms runesNext_holds
end Go.Proofs.Ytgalkmbocbpgiaa
