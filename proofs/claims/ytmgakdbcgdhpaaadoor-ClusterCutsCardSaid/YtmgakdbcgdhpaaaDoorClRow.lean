/-
  Rows that a caller of an iterator appends to while the iterator has blocks of its own; appending a text to bytes.
-/
import Derived.Test.YtmgakdbcgdhpaaaDoorOwn
import Derived.Test.YtmgakdbcgdhpaaaDoorIterP
import Derived.Lib.AppendStr
import Derived.OwnWalkIn
namespace Go.Proofs.YtmgakdbcgdhpaaaDoor
open Go.RowKit
set_option linter.unusedVariables false

/-- texts as cells -/
def sv (cs : List (List UInt8)) : List Value := cs.map fun c => .string ⟨c.toArray⟩
theorem sv_length (cs : List (List UInt8)) : (sv cs).length = cs.length := by simp [sv]
theorem sv_snoc (cs : List (List UInt8)) (c : List UInt8) : sv (cs ++ [c]) = sv cs ++ [.string ⟨c.toArray⟩] := by simp [sv]
theorem sv_get {cs : List (List UInt8)} {k : Nat} (h : k < cs.length) : (sv cs)[k]? = some (.string ⟨cs[k].toArray⟩) := by simp [sv, h]
theorem sv_take (cs : List (List UInt8)) (k : Nat) : (sv cs).take k = sv (cs.take k) := by simp [sv, List.map_take]
theorem str_info : (Tryd.prog.info? 9).map (fun i => (i.zero, i.size, i.bytes)) = some (some (.string ⟨#[]⟩), 1, 16) := by kernel_rfl

/-- A box that holds a row, which is not the iterator's. -/
def HoldP (B : Nat) (T e : TypeId) (base : Nat) (xs : List Value) (f : Nat → Prop) (W : World) : Prop :=
  ∃ A n c, Boxed W B T (.slice A n c) ∧ OR W base e A n c xs ∧ ∀ g, blk A = some g → ¬ f g

theorem OR.turn {b : Nat} {f : Nat → Prop} {X Y : World} {base n c : Nat} {e : TypeId} {A : Option Addr} {xs : List Value} (h : OR X base e A n c xs) (ht : Turn b f X Y) (hf : ∀ g, blk A = some g → ¬ f g) : OR Y base e A n c xs := by
  obtain ⟨⟨hl, hv⟩, hn⟩ := h
  refine ⟨⟨hl, ?_⟩, hn⟩
  rcases hv with hv | ⟨g, cap, cur, hv, h1, h2, h3⟩
  · exact .inl hv
  · refine .inr ⟨g, cap, cur, hv, h1, ?_, h3⟩
    injection hv with hA
    subst hA
    exact ht.block _ _ h2 (.inr ⟨hf g rfl, rfl⟩)

theorem AbP.hold {β : Type} {b B base : Nat} {T e : TypeId} (xs : β → List Value) (h : B < b) : AbP b (fun s f W => HoldP B T e base (xs s) f W) := by
  rintro s f f' X Y ⟨A, n, c, hb, hr, hm⟩ ht hf
  refine ⟨A, n, c, ht.block _ _ hb (.inl h), hr.turn ht hm, fun g hg hf' => ?_⟩
  rcases hf g hf' with h1 | h1
  · exact hm g hg h1
  · have := (hr.blk_lt g hg).2; omega

/-- Behind an append and the store of what it gives into the box. -/
theorem HoldP.appended {B : Nat} {T e : TypeId} {base : Nat} {xs ys : List Value} {f : Nat → Prop} {W X w1 : World} {A A' : Option Addr} {n c n' c' : Nat} (hT : T ≠ e) (hb0 : base ≤ B) (hfs : ∀ k, f k → k < W.heap.size)
    (hwx : Below W.heap.size W X) (hb : Boxed W B T (.slice A n c)) (hr : OR W base e A n c xs) (hm : ∀ g, blk A = some g → ¬ f g) (hB : ¬ f B)
    (hO : OR w1 base e A' n' c' ys) (hg : X.grownBy w1 (blk A)) (hat : ∀ g, blk A' = some g → blk A = some g ∨ X.heap.size ≤ g) (lo : Nat) :
    HoldP B T e base ys f (w1.setCell ⟨B, 0, none⟩ (.slice A' n' c')) ∧ Rk lo f W (w1.setCell ⟨B, 0, none⟩ (.slice A' n' c')) ∧ Boxed w1 B T (.slice A n c) ∧ (base ≤ W.heap.size → Below base W (w1.setCell ⟨B, 0, none⟩ (.slice A' n' c'))) := by
  have hbX : Boxed X B T (.slice A n c) := hb.kept (row := none) ⟨hwx.os, hwx.tape, hwx.output, hwx.size, fun k hk _ => hwx.block k hk⟩ (by simp)
  have hrX : OR X base e A n c xs := hr.below hwx (fun g hg => (hr.blk_lt g hg).2)
  have hne : some B ≠ blk A := by have := hbX.not_row hT hrX.1; rwa [ownBlock_slice] at this
  have hb1 : Boxed w1 B T (.slice A n c) := hbX.kept hg hne
  have hne' : blk A' = none ∨ blk A' ≠ some B := by have := hb1.not_row hT hO.1; rw [ownBlock_slice] at this; exact .inr (fun e => this e.symm)
  have hcells : ∀ j o, blk A = some j → X.heap[j]? = some o → o.isCells = true := by
    intro j o hj ho
    obtain ⟨hl, ⟨hv, hn⟩ | ⟨g, cap, cur, hv, h1, h2, h3⟩⟩ := hrX.1
    · injection hv with hA; subst hA; cases hj
    · injection hv with hA; subst hA
      have : g = j := by simpa [blk] using hj
      subst this
      rw [h2] at ho; cases ho; rfl
  refine ⟨⟨A', n', c', hb1.set _, hO.kept (grownBy_setCell' _ _ _) hne', fun g hg' hf => ?_⟩, ?_, hb1, fun hbw => ?_⟩
  · rcases hat g hg' with h1 | h1
    · exact hm g h1 hf
    · have h2 := hfs g hf; have h3 := hwx.size; omega
  · exact ((Rk.of_below hwx hfs).grown hg hfs (fun k hk => ⟨hm k hk, fun o ho => hcells k o hk ho⟩)).setCell hB _
  · exact ((hwx.mono hbw).grown hg (Nat.le_trans hbw hwx.size) (fun k hk => (hrX.blk_lt k hk).1)).setCell (p := ⟨B, 0, none⟩) hb0 _

/-- An append whose run is known, in a round. -/
theorem wpListIn_app {F : Fence} {n : Nat} {ops : Array Oper} {rest : List Oper} {o : Oper} {a : Act} {w : World} {Q : Exit → Act → World → Prop} (T U : TypeId) (hgd : o.guard = none) (s x : Operand)
    (ho : o.op = .call { callee := .builtin .append, args := #[s, x], argTypes := #[T, U] }) (vs vx v' : Value) (w' : World) (hs : a.eval s = vs) (hx : a.eval x = vx)
    (hrun : (Builtin.append_ #[T, U] o.type #[vs, vx]).run Tryd.prog w = .ok v' w') (h : wpListIn F n Tryd.prog ops Q rest (a.put o.dst v') w') : wpListIn F n Tryd.prog ops Q (o :: rest) a w := by
  refine wpListIn_plain hgd fun K hK' => ?_
  unfold Oper.wpIn
  refine ⟨?_, ?_⟩
  · simp [Oper.about, ho, resolve, Target.leads, Sem.run_pure]
  · rw [Oper.semAt_plain F _ _ (by rw [ho]; intro c hc'; cases hc')]
    simp [execOp, ho, resolve, invoke, builtin, hs, hx, hrun, Result.andThen]
    exact hK' _ _ h

theorem strCells_bv (s : ByteArray) : Lib.strCells s = bv s.data.toList := rfl

/-- 'append(bytes, text...)'. -/
theorem run_app_str (w : World) (ty : TypeId) (base : Nat) (A : Option Addr) (n c : Nat) (l : List UInt8) (hown : OB w base A n c l) (s : ByteArray) (N : Nat) (hN : N = n + s.size) (hl : N ≤ 10000000) (hbase : base ≤ w.heap.size) :
    ∃ A' c' w', (Builtin.append_ #[66, 9] ty #[.slice A n c, .string s]).run Tryd.prog w = .ok (.slice A' N c') w' ∧ OB w' base A' N c' (l ++ s.data.toList) ∧ w.grownBy w' (blk A) ∧ (∀ g, blk A' = some g → blk A = some g ∨ w.heap.size ≤ g) := by
  obtain ⟨i0, hi0, hz0, hz1, hz2⟩ := info_parts u8_info
  subst hN
  have law : ∀ b, w.ownsRow b 5 1 (.slice A n c) n (bv l) → b ≤ w.heap.size → ∃ v' w', (Builtin.append_ #[66, 9] ty #[.slice A n c, .string s]).run Tryd.prog w = .ok v' w' ∧
      w'.ownsRow b 5 1 v' (n + s.size) (bv l ++ Lib.strCells s) ∧ w.grownBy w' (Value.slice A n c).ownBlock ∧ (v' = .slice none 0 0 ↔ Value.slice A n c = .slice none 0 0 ∧ s.size = 0) := fun b ho hb =>
    Lib.run_append_own_string (P := Tryd.prog) w b 66 9 ty 5 i0 Tryd.underlying66 Tryd.underlying9 hi0 hz0 hz1 hz2 _ n (bv l) ho s (by simp only [maxLen]; omega) (by omega) hb
  cases A with
  | none =>
    have hc : c = 0 := hown.2 rfl
    have hn : n = 0 ∧ l = [] := by
      obtain ⟨hl', ⟨hv, h0⟩ | ⟨g, cap, cur, hv, _⟩⟩ := hown.1
      · subst h0
        refine ⟨rfl, ?_⟩
        have : l.length = 0 := by simpa [bv] using hl'
        exact List.eq_nil_of_length_eq_zero this
      · cases hv
    obtain ⟨rfl, rfl⟩ := hn
    subst hc
    obtain ⟨v', w', hrun, h2, h3, _⟩ := law w.heap.size (World.ownsRow_nil _ _ _ _) (Nat.le_refl _)
    obtain ⟨A', c', rfl, hn', _⟩ := own_of h2
    rw [strCells_bv, bv_append] at h2
    rw [ownBlock_slice] at h3
    have hO : OB w' w.heap.size A' (0 + s.size) c' ([] ++ s.data.toList) := ⟨h2, hn'⟩
    exact ⟨A', c', w', hrun, hO.weaken hbase, h3, fun g hg => .inr (hO.blk_lt g hg).1⟩
  | some ad =>
    obtain ⟨v', w', hrun, h2, h3, _⟩ := law base hown.1 hbase
    obtain ⟨A', c', rfl, hn', _⟩ := own_of h2
    have h2' := h2
    rw [strCells_bv, bv_append] at h2
    rw [ownBlock_slice] at h3
    refine ⟨A', c', w', hrun, ⟨h2, hn'⟩, h3, fun g hg => ?_⟩
    obtain ⟨hl', ⟨hv, h0⟩ | ⟨q, cap, cur, hv, q1, q2, q3, q4, q5, q6⟩⟩ := hown.1
    · cases hv
    · injection hv with hA _ hcc
      injection hA with hA
      subst hA hcc
      by_cases hroom : n + s.size ≤ c
      · have hr := Lib.run_append_room_string (P := Tryd.prog) w 66 9 ty 5 i0 Tryd.underlying66 Tryd.underlying9 hi0 hz1 q n c cur q2 s hroom (by omega)
        rw [hrun] at hr
        injection hr with hr _
        injection hr with hr
        subst hr
        exact .inl hg
      · have hr := Lib.run_append_grow_string (P := Tryd.prog) w 66 9 ty 5 i0 _ Tryd.underlying66 Tryd.underlying9 hi0 hz0 ⟨q, 0, none⟩ n c (bv l) (by rw [hz1]; exact hl') (hown.1.cells (g := q) rfl) s (by omega) (by omega) (by rw [hz2]; exact growslice_fits (by omega) (by omega))
        rw [hrun] at hr
        injection hr with hr _
        injection hr with hr
        subst hr
        cases hg
        exact .inr (Nat.le_refl _)
end Go.Proofs.YtmgakdbcgdhpaaaDoor
