/-
  The builtin clear over a block that is known whole. No program is named here.
-/
import Derived.Test.YtfhfhjcdeeepbaaGreatDoorGfA
import Derived.Lib.SliceRun
namespace Go.Proofs.YtfhfhjcdeeepbaaGreatDoor
open Go.RowKit
set_option linter.unusedVariables false

section
variable {P : Program}
theorem run_clear_blk (w : World) (T ty elem : TypeId) (z : Value) (hu : P.underlying T = some (.slice elem)) (hv : ∀ w, (zeroValue elem).run P w = .ok z w) (hz : z.cells = #[z]) (h1 : z.oneCell' = true)
    (dp : Option Addr) (n c g o : Nat) (t : TypeId) (cur : List Value) (hb : Blk w g t cur) (hpos : 0 < n → dp = some ⟨g, o, none⟩) (hfit : o + n ≤ cur.length) :
    ∃ w', (Builtin.clear_ #[T] ty #[.slice dp n c]).run P w = .ok (.tuple #[]) w' ∧ Blk w' g t (splice cur o (List.replicate n z)) ∧ w.grownBy w' (some g) := by
  rcases Nat.eq_zero_or_pos n with h0 | h0
  · subst h0
    refine ⟨w, ?_, by simpa [splice] using hb, World.grownBy.refl w _⟩
    cases dp <;> simp [Builtin.clear_, run_underlying hu]
  · obtain rfl := hpos h0
    have hzc : (Builtin.zeroCells z.cells n).toList = List.replicate n z := by
      rw [hz]
      simp [Builtin.zeroCells]
      apply List.ext_getElem
      · simp
      · intro i h1 h2
        simp [Nat.mod_one]
    have hst := run_storeCells_at (P := P) g o t (List.replicate n z) 0 cur.toArray w hb (by simpa using hfit) (fun v hv' => by rw [List.eq_of_mem_replicate hv']; exact h1)
    simp only [Nat.add_zero, List.append_assoc] at hst
    obtain ⟨m, rfl⟩ : ∃ m, n = m + 1 := ⟨n - 1, by omega⟩
    refine ⟨w.setRow g (splice cur o (List.replicate (m + 1) z)).toArray, ?_, hb.row _, grown_setRow w g _⟩
    simp [Builtin.clear_, run_underlying hu, hv, hzc, hst, splice]

theorem wpList_clear_k {w : World} {ops : Array Oper} {rest : List Oper} {o : Oper} {a : Act} {Q : Exit → Act → World → Prop} (hgd : o.guard = none) (d : Operand) (T : TypeId)
    (ho : o.op = .call { callee := .builtin .clear, args := #[d], argTypes := #[T] }) (elem : TypeId) (z : Value) (hu : P.underlying T = some (.slice elem)) (hv : ∀ w, (zeroValue elem).run P w = .ok z w) (hz : z.cells = #[z]) (h1 : z.oneCell' = true)
    (dp : Option Addr) (n c : Nat) (hd : a.eval d = .slice dp n c) (g off : Nat) (t : TypeId) (cur : List Value) (hb : Blk w g t cur) (hpos : 0 < n → dp = some ⟨g, off, none⟩) (hfit : off + n ≤ cur.length)
    (h : ∀ w', Blk w' g t (splice cur off (List.replicate n z)) → w.grownBy w' (some g) → wpList P ops Q rest (a.put o.dst (.tuple #[])) w') : wpList P ops Q (o :: rest) a w := by
  obtain ⟨w', hrun, h2, h3⟩ := run_clear_blk (P := P) w T o.type elem z hu hv hz h1 dp n c g off t cur hb hpos hfit
  refine wpList_plain hgd fun K hK => ?_
  unfold Oper.wp
  simp [execOp, ho, resolve, invoke, builtin, hd, hrun, Result.andThen]
  exact hK _ _ (h w' h2 h3)

/-- Is this a call of the builtin clear? -/
theorem at_clear {ops : Array Oper} {rest : List Oper} {a : Act} {w : World} {Q : Exit → Act → World → Prop} {d : Operand} {ats : Array TypeId} {ty : TypeId} {pos : String} {af : Array Edge} {gd : Option (Nat × Bool)} (h : wpList P ops Q (⟨none, .call { callee := .builtin .clear, args := #[d], argTypes := ats }, ty, pos, af, gd⟩ :: rest) a w) : wpList P ops Q (⟨none, .call { callee := .builtin .clear, args := #[d], argTypes := ats }, ty, pos, af, gd⟩ :: rest) a w := h
/-- The same as one step of a region that draws its order. -/
theorem step_clear_k {w : World} {ops : Array Oper} {o : Oper} {a : Act} {K : Act → World → Prop} {Q : Exit → Act → World → Prop} {E : Prop} (hgd : o.guard = none) (d : Operand) (T : TypeId)
    (ho : o.op = .call { callee := .builtin .clear, args := #[d], argTypes := #[T] }) (elem : TypeId) (z : Value) (hu : P.underlying T = some (.slice elem)) (hv : ∀ w, (zeroValue elem).run P w = .ok z w) (hz : z.cells = #[z]) (h1 : z.oneCell' = true)
    (dp : Option Addr) (n c : Nat) (hd : a.eval d = .slice dp n c) (g off : Nat) (t : TypeId) (cur : List Value) (hb : Blk w g t cur) (hpos : 0 < n → dp = some ⟨g, off, none⟩) (hfit : off + n ≤ cur.length)
    (h : ∀ w', Blk w' g t (splice cur off (List.replicate n z)) → w.grownBy w' (some g) → K (a.put o.dst (.tuple #[])) w') : if Region.wanted o (yielded ops a.tmps) = true then Oper.wp P o a w K Q else E := by
  have hw : Region.wanted o (yielded ops a.tmps) = true := by simp [Region.wanted, hgd]
  rw [if_pos hw]
  obtain ⟨w', hrun, h2, h3⟩ := run_clear_blk (P := P) w T o.type elem z hu hv hz h1 dp n c g off t cur hb hpos hfit
  unfold Oper.wp
  simp [execOp, ho, resolve, invoke, builtin, hd, hrun, Result.andThen]
  exact h w' h2 h3
end
end Go.Proofs.YtfhfhjcdeeepbaaGreatDoor
