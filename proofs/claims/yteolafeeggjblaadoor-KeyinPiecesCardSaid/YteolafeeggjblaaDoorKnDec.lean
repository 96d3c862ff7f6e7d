/-
  Walks: made, New, Name, unmodified.
-/
import Derived.Test.YteolafeeggjblaaDoorKnTop
namespace Go.Proofs.YteolafeeggjblaaDoor
open Go.RowKit Go.Sort
set_option linter.unusedVariables false
set_option linter.unusedSimpArgs false

theorem ptr_info : (Tryd.prog.info? 45).isSome = true := by kernel_rfl
theorem run_eql_self (a : Addr) (w : World) : Sem.run Tryd.prog (binOp .eql 24 (.pointer (some a)) (.pointer (some a))) w = .ok (.bool true) w := by
  obtain ⟨j, hj⟩ := Option.isSome_iff_exists.1 ptr_info
  have h : ∀ d : Nat, (Op.equalIn (d + 1) 24 (.pointer (some a)) (.pointer (some a))).run Tryd.prog w = .ok true w := fun d => by
    simp [Op.equalIn, run_underlying Tryd.underlying24, sizeOf, typeInfo, hj, run_sameAddr_same]
  simp only [binOp]
  simp [Op.equal, Op.maxDepth, h 9999]

theorem run_eql_none (a : Addr) (w : World) : Sem.run Tryd.prog (binOp .eql 24 (.pointer none) (.pointer (some a))) w = .ok (.bool false) w := by
  have h : ∀ d : Nat, (Op.equalIn (d + 1) 24 (.pointer none) (.pointer (some a))).run Tryd.prog w = .ok false w := fun d => by
    simp [Op.equalIn, run_underlying Tryd.underlying24]
  simp only [binOp]
  simp [Op.equal, Op.maxDepth, h 9999]


set_option maxRecDepth 100000 in
set_option maxHeartbeats 1000000 in
theorem made_yes (D : Nat) (s : List UInt8) (q : Value) (w : World) (h : DBlk w D s q) :
    Calls Tryd.prog 20 #[.pointer (some ⟨D, 0, none⟩)] w fun e w' => e = .returned (.bool true) ∧ w = w' := by
  have hx : w.cell? ⟨D, 0, none⟩ = some (.pointer (some ⟨D, 0, none⟩)) := h.cell 0
  clear h
  have he := run_eql_self ⟨D, 0, none⟩
  go_enter Tryd.func20, Tryd.ntmps20
  go_wp2_with (fail)
  go_ret
  exact ⟨rfl, rfl⟩
set_option maxRecDepth 100000 in
set_option maxHeartbeats 1000000 in
theorem made_nil (w : World) :
    Calls Tryd.prog 20 #[.pointer none] w fun e w' => e = .returned (.bool false) ∧ w = w' := by
  go_enter Tryd.func20, Tryd.ntmps20
  go_wp2_with (fail)
  go_ret
  exact ⟨rfl, rfl⟩
set_option maxRecDepth 100000 in
set_option maxHeartbeats 1000000 in
/-- a decoder that nobody made -/
theorem made_no (D : Nat) (w : World) (h : w.cell? ⟨D, 0, none⟩ = some (.pointer none)) :
    Calls Tryd.prog 20 #[.pointer (some ⟨D, 0, none⟩)] w fun e w' => e = .returned (.bool false) ∧ w = w' := by
  have he := run_eql_none ⟨D, 0, none⟩
  go_enter Tryd.func20, Tryd.ntmps20
  go_wp2_with (fail)
  go_ret
  exact ⟨rfl, rfl⟩
set_option maxRecDepth 100000 in
set_option maxHeartbeats 1000000 in
theorem dnew_any (w : World) :
    Calls Tryd.prog 7 #[] w fun e w' => e = .returned (.pointer (some ⟨w.heap.size, 0, none⟩)) ∧ DBlk w' w.heap.size [] (.pointer none) ∧ Below w.heap.size w w' := by
  go_enter Tryd.func7, Tryd.ntmps7
  go_wp2_with (fail)
  go_ret
  exact ⟨rfl, Blk.new w 45 (DCells w.heap.size [] (.pointer none)), kbel _ _⟩

end Go.Proofs.YteolafeeggjblaaDoor
