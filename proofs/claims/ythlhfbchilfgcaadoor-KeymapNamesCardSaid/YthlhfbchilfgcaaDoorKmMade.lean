/-
  Walks: New, withActs, made; maps that nobody made.
-/
import Derived.Test.YthlhfbchilfgcaaDoorKmMath
namespace Go.Proofs.YthlhfbchilfgcaaDoor
open Go.RowKit Go.Maps
set_option linter.unusedVariables false
set_option linter.unusedSimpArgs false

theorem ptr_info : (Tryd.prog.info? 68).isSome = true := by kernel_rfl
theorem run_eql_self (a : Addr) (w : World) : Sem.run Tryd.prog (binOp .eql 36 (.pointer (some a)) (.pointer (some a))) w = .ok (.bool true) w := by
  obtain ⟨j, hj⟩ := Option.isSome_iff_exists.1 ptr_info
  have h : ∀ d : Nat, (Op.equalIn (d + 1) 36 (.pointer (some a)) (.pointer (some a))).run Tryd.prog w = .ok true w := fun d => by
    simp [Op.equalIn, run_underlying Tryd.underlying36, sizeOf, typeInfo, hj, run_sameAddr_same]
  simp only [binOp]
  simp [Op.equal, Op.maxDepth, h 9999]
theorem run_eql_ns (a : Addr) (w : World) : Sem.run Tryd.prog (binOp .eql 36 (.pointer none) (.pointer (some a))) w = .ok (.bool false) w := by
  have h : ∀ d : Nat, (Op.equalIn (d + 1) 36 (.pointer none) (.pointer (some a))).run Tryd.prog w = .ok false w := fun d => by
    simp [Op.equalIn, run_underlying Tryd.underlying36]
  simp only [binOp]
  simp [Op.equal, Op.maxDepth, h 9999]
theorem run_eql_sn (a : Addr) (w : World) : Sem.run Tryd.prog (binOp .eql 36 (.pointer (some a)) (.pointer none)) w = .ok (.bool false) w := by
  have h : ∀ d : Nat, (Op.equalIn (d + 1) 36 (.pointer (some a)) (.pointer none)).run Tryd.prog w = .ok false w := fun d => by
    simp [Op.equalIn, run_underlying Tryd.underlying36]
  simp only [binOp]
  simp [Op.equal, Op.maxDepth, h 9999]
theorem run_neq_sn (a : Addr) (w : World) : Sem.run Tryd.prog (binOp .neq 36 (.pointer (some a)) (.pointer none)) w = .ok (.bool true) w := by
  have h : ∀ d : Nat, (Op.equalIn (d + 1) 36 (.pointer (some a)) (.pointer none)).run Tryd.prog w = .ok false w := fun d => by
    simp [Op.equalIn, run_underlying Tryd.underlying36]
  simp only [binOp]
  simp [Op.equal, Op.maxDepth, h 9999]
theorem run_neq_nn (w : World) : Sem.run Tryd.prog (binOp .neq 36 (.pointer none) (.pointer none)) w = .ok (.bool false) w := by
  have h : ∀ d : Nat, (Op.equalIn (d + 1) 36 (.pointer none) (.pointer none)).run Tryd.prog w = .ok true w := fun d => by
    simp [Op.equalIn, run_underlying Tryd.underlying36]
  simp only [binOp]
  simp [Op.equal, Op.maxDepth, h 9999]

/-- a map that was made: its own place, and the block of its bindings -/
abbrev MBlk (w : World) (M b : Nat) : Prop := Blk w M 68 [.pointer (some ⟨M, 0, none⟩), .map (some b)]
/-- a map that nobody made -/
def MNo (w : World) (p : Option Addr) : Prop := p = none ∨ ∃ M, p = some ⟨M, 0, none⟩ ∧ w.cell? ⟨M, 0, none⟩ = some (.pointer none)
theorem MNo.same {w w' : World} {p : Option Addr} (h : MNo w p) (hs : ∀ k, blk p = some k → w'.heap[k]? = w.heap[k]?) : MNo w' p := by
  rcases h with h | ⟨D, rfl, hc⟩
  · exact .inl h
  · exact .inr ⟨D, rfl, (World.cell?_of_block (w := w) (a := ⟨D, 0, none⟩) (hs D rfl)).trans hc⟩
theorem MNo.lt {w : World} {p : Option Addr} (h : MNo w p) (k : Nat) (hk : blk p = some k) : k < w.heap.size := by
  rcases h with rfl | ⟨D, rfl, hc⟩
  · cases hk
  · have : D = k := by simpa [blk] using hk
    subst this
    exact cell_lt' hc
theorem MNo.bel {w w' : World} {p : Option Addr} (h : MNo w p) (hb : Below w.heap.size w w') : MNo w' p := h.same (fun k hk => hb.block k (h.lt k hk))
set_option maxRecDepth 100000 in
set_option maxHeartbeats 1000000 in
theorem made_yes (M b : Nat) (w : World) (h : MBlk w M b) :
    Calls Tryd.prog 51 #[.pointer (some ⟨M, 0, none⟩)] w fun e w' => e = .returned (.bool true) ∧ w = w' := by
  have hx : w.cell? ⟨M, 0, none⟩ = some (.pointer (some ⟨M, 0, none⟩)) := h.cell 0
  clear h
  have he := run_eql_self ⟨M, 0, none⟩
  have he2 := run_neq_sn ⟨M, 0, none⟩
  go_enter Tryd.func51, Tryd.ntmps51
  go_wp2_with (fail)
  go_ret
  exact ⟨rfl, rfl⟩
set_option maxRecDepth 100000 in
set_option maxHeartbeats 1000000 in
theorem made_not {w : World} {p : Option Addr} (h : MNo w p) :
    Calls Tryd.prog 51 #[.pointer p] w fun e w' => e = .returned (.bool false) ∧ w = w' := by
  rcases h with rfl | ⟨M, rfl, hx⟩
  · have he2 := run_neq_nn
    go_enter Tryd.func51, Tryd.ntmps51
    go_wp2_with (fail)
    go_ret
    exact ⟨rfl, rfl⟩
  · have he := run_eql_ns ⟨M, 0, none⟩
    have he2 := run_neq_sn ⟨M, 0, none⟩
    go_enter Tryd.func51, Tryd.ntmps51
    go_wp2_with (fail)
    go_ret
    exact ⟨rfl, rfl⟩
set_option maxRecDepth 100000 in
set_option maxHeartbeats 1000000 in
theorem withActs_any (b : Nat) (w : World) :
    Calls Tryd.prog 45 #[.map (some b)] w fun e w' => e = .returned (.pointer (some ⟨w.heap.size, 0, none⟩)) ∧ MBlk w' w.heap.size b ∧ Below w.heap.size w w' := by
  go_enter Tryd.func45, Tryd.ntmps45
  go_wp2_with (fail)
  go_ret
  refine ⟨rfl, ?_, ?_⟩
  · exact Blk.new w 68 [.pointer (some ⟨w.heap.size, 0, none⟩), .map (some b)]
  · exact kbel _ _

abbrev MOwns (w : World) (b n : Nat) (D : DataW Unit) : Prop := w.ownsMap Tryd.prog 9 (plainElem Tryd.prog 35) b n D
set_option maxRecDepth 100000 in
set_option maxHeartbeats 1000000 in
theorem mnew_any (w : World) :
    Calls Tryd.prog 16 #[] w fun e w' => e = .returned (.pointer (some ⟨w.heap.size + 1, 0, none⟩)) ∧ MBlk w' (w.heap.size + 1) w.heap.size ∧ MOwns w' w.heap.size 0 (.map []) ∧ Below w.heap.size w w' := by
  have hmm := @run_makeMap Tryd.prog
  have ho := World.ownsMap_made (H := Unit) w Tryd.prog 9 (plainElem Tryd.prog 35)
  have HO := Lib.hid ho
  clear ho
  go_enter Tryd.func16, Tryd.ntmps16
  go_wp2_with (go_at_call 45; refine (withActs_any w.heap.size _).mono ?_; rintro e w1 ⟨rfl, h1, hb1⟩; have H1 := Lib.hid h1; have HB1 := Lib.hid hb1; clear h1 hb1)
  go_ret
  have h1 := H1.out
  have hb1 := HB1.out
  simp only [World.size_alloc] at h1 hb1
  refine ⟨rfl, h1, HO.out.kept (row := none) ⟨hb1.os, hb1.tape, hb1.output, hb1.size, fun k hk _ => hb1.block k (by simpa using hk)⟩ (by simp), (kbel w _).trans (hb1.mono (by omega))⟩
end Go.Proofs.YthlhfbchilfgcaaDoor
