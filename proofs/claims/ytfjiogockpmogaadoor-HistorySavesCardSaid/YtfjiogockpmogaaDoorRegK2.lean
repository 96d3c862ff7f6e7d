/-
  A region that draws its order (XRegK): two operations that may come next; a struct's store as one step. No program is named here.
-/
import Derived.Test.YtfjiogockpmogaaDoorRegK
import Derived.Test.YtfjiogockpmogaaDoorGfA
namespace Go.Proofs.YtfjiogockpmogaaDoor
open Go Go.RowKit
set_option linter.unusedVariables false
section
variable {P : Program} {ops : Array Oper} {Q : Exit → Act → World → Prop} {md : Region.Mode} {S : World → Prop} {k : Nat}
/-- Two may come next. -/
theorem wpAnyK_two {i i' : Nat} {oi oi' : Oper} {fuel : Nat} {listed : Array Bool} {a : Act} {w : World} (hr : Region.ready md ops listed = [i, i']) (hi : ops[i]? = some oi) (hi' : ops[i']? = some oi')
    (h : ∀ K : Act → World → Prop, Shut (∀ a w, ((listed.setIfInBounds i true).getD k true = true ∨ S w) → wpAnyK P md ops Q S k fuel (listed.setIfInBounds i true) a w → K a w) → if Region.wanted oi (yielded ops a.tmps) = true then Oper.wp P oi a w K Q else K (a.put oi.dst undef) w)
    (h' : ∀ K : Act → World → Prop, Shut (∀ a w, ((listed.setIfInBounds i' true).getD k true = true ∨ S w) → wpAnyK P md ops Q S k fuel (listed.setIfInBounds i' true) a w → K a w) → if Region.wanted oi' (yielded ops a.tmps) = true then Oper.wp P oi' a w K Q else K (a.put oi'.dst undef) w) :
    wpAnyK P md ops Q S k (fuel + 1) listed a w :=
  ⟨fun h0 => absurd (hr ▸ h0) (by simp), fun j hj => by
    rw [hr] at hj
    simp only [List.mem_cons, List.not_mem_nil, or_false] at hj
    rcases hj with rfl | rfl
    · exact wpOp_step hi (fun K' hK => h K' (fun a w hS hW => hK a w ⟨hS, hW⟩))
    · exact wpOp_step hi' (fun K' hK => h' K' (fun a w hS hW => hK a w ⟨hS, hW⟩))⟩
/-- Three may come next. -/
theorem wpAnyK_three {i i' i'' : Nat} {oi oi' oi'' : Oper} {fuel : Nat} {listed : Array Bool} {a : Act} {w : World} (hr : Region.ready md ops listed = [i, i', i'']) (hi : ops[i]? = some oi) (hi' : ops[i']? = some oi') (hi'' : ops[i'']? = some oi'')
    (h : ∀ K : Act → World → Prop, Shut (∀ a w, ((listed.setIfInBounds i true).getD k true = true ∨ S w) → wpAnyK P md ops Q S k fuel (listed.setIfInBounds i true) a w → K a w) → if Region.wanted oi (yielded ops a.tmps) = true then Oper.wp P oi a w K Q else K (a.put oi.dst undef) w)
    (h' : ∀ K : Act → World → Prop, Shut (∀ a w, ((listed.setIfInBounds i' true).getD k true = true ∨ S w) → wpAnyK P md ops Q S k fuel (listed.setIfInBounds i' true) a w → K a w) → if Region.wanted oi' (yielded ops a.tmps) = true then Oper.wp P oi' a w K Q else K (a.put oi'.dst undef) w)
    (h'' : ∀ K : Act → World → Prop, Shut (∀ a w, ((listed.setIfInBounds i'' true).getD k true = true ∨ S w) → wpAnyK P md ops Q S k fuel (listed.setIfInBounds i'' true) a w → K a w) → if Region.wanted oi'' (yielded ops a.tmps) = true then Oper.wp P oi'' a w K Q else K (a.put oi''.dst undef) w) :
    wpAnyK P md ops Q S k (fuel + 1) listed a w :=
  ⟨fun h0 => absurd (hr ▸ h0) (by simp), fun j hj => by
    rw [hr] at hj
    simp only [List.mem_cons, List.not_mem_nil, or_false] at hj
    rcases hj with rfl | rfl | rfl
    · exact wpOp_step hi (fun K' hK => h K' (fun a w hS hW => hK a w ⟨hS, hW⟩))
    · exact wpOp_step hi' (fun K' hK => h' K' (fun a w hS hW => hK a w ⟨hS, hW⟩))
    · exact wpOp_step hi'' (fun K' hK => h'' K' (fun a w hS hW => hK a w ⟨hS, hW⟩))⟩
/-- The store of a struct as one step, its cells known whole. -/
theorem step_store_blkK {o : Oper} {a : Act} {w : World} {K : Act → World → Prop} {E : Prop} (hgd : o.guard = none) (ty : TypeId) (x y : Operand) (ho : o.op = .store ty x y)
    (b p : Nat) (t : TypeId) (cs ds : List Value) (hx : a.eval x = .pointer (some ⟨b, p, none⟩)) (hy : a.eval y = .agg ds.toArray)
    (hb : Blk w b t cs) (hfit : p + ds.length ≤ cs.length) (hi : (P.info? ty).map (·.size) = some ds.length) (h1 : ∀ v ∈ ds, v.oneCell' = true)
    (h : ∀ w', Blk w' b t (splice cs p ds) → w.grownBy w' (some b) → K (a.put o.dst undef) w') : if Region.wanted o (yielded ops a.tmps) = true then Oper.wp P o a w K Q else E := by
  have hw : Region.wanted o (yielded ops a.tmps) = true := by simp [Region.wanted, hgd]
  rw [if_pos hw]
  unfold Oper.wp execOp
  simp only [ho, hx, hy, Instr.storeAt, Instr.sureAddr, Sem.run_bind, Sem.run_pure, Result.andThen_ok, run_storeVar_blk w b p ty t cs ds hb hfit hi h1]
  exact h _ (hb.row _) (grown_setRow w b _)
end
end Go.Proofs.YtfjiogockpmogaaDoor
