/-
  Two styles compared: the operation '==' on structs, as one step of a walk.
-/
import Derived.Test.YtclkclamdnkdgaaDoorEsSty
namespace Go.Proofs.YtclkclamdnkdgaaDoor
open Go.RowKit
set_option linter.unusedVariables false
set_option linter.unusedSimpArgs false

theorem run_eql_sty (s t : Sty) (w : World) : (Go.binOp .eql 33 s.val t.val).run Tryd.prog w = .ok (.bool (decide (s = t))) w := by
  obtain ⟨s1, s2, s3, s4, s5⟩ := s
  obtain ⟨t1, t2, t3, t4, t5⟩ := t
  have e : ((⟨s1, s2, s3, s4, s5⟩ : Sty) = ⟨t1, t2, t3, t4, t5⟩) ↔ s1 = t1 ∧ s2 = t2 ∧ s3 = t3 ∧ s4 = t4 ∧ s5 = t5 := by simp
  simp only [e, Sty.val]
  go_simp
  by_cases h1 : s1 = t1 <;> by_cases h2 : s2 = t2 <;> by_cases h3 : s3 = t3 <;> by_cases h4 : s4 = t4 <;> by_cases h5 : s5 = t5 <;> simp [h1, h2, h3, h4, h5]

theorem wpList_eql_sty {ops : Array Oper} {rest : List Oper} {o : Oper} {a : Act} {w : World} {Q : Exit → Act → World → Prop} (hgd : o.guard = none) (x y : Operand) (T2 : TypeId) (ho : o.op = .binOp .eql 33 x y T2)
    (s t : Sty) (hx : a.eval x = s.val) (hy : a.eval y = t.val) (r : Bool) (hr : decide (s = t) = r)
    (h : wpList Tryd.prog ops Q rest (a.put o.dst (.bool r)) w) : wpList Tryd.prog ops Q (o :: rest) a w := by
  refine wpList_plain hgd fun K hK => ?_
  have e := run_eql_sty s t w
  rw [hr] at e
  unfold Oper.wp execOp
  simp only [ho, hx, hy]
  have g : Sem.run Tryd.prog (eqGuard BinOp.eql 33 x y s.val t.val) w = .ok () w := by
    unfold eqGuard
    simp [Sty.val]
  simp only [Sem.run_bind, Sem.run_pure, g, e, Result.andThen_ok]
  exact hK _ _ h
end Go.Proofs.YtclkclamdnkdgaaDoor
