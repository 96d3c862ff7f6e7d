/-
  Walk: told over any iterator of places and texts.
-/
import Derived.Test.YtfhfhjcdeeepbaaGreatDoorGpNob2
namespace Go.Proofs.YtfhfhjcdeeepbaaGreatDoor
open Go.RowKit Go.Shelf Go.Sort
attribute [local go_sem] Oper.semAt_some
set_option linter.unusedVariables false
set_option linter.unusedSimpArgs false

/-- places as cells -/
def iv (l : List (Nat × List UInt8)) : List Value := l.map fun x => .int .i64 x.1
/-- their texts as cells -/
def tv (l : List (Nat × List UInt8)) : List Value := l.map fun x => .string ⟨x.2.toArray⟩
theorem iv_snoc (l : List (Nat × List UInt8)) (x : Nat × List UInt8) : iv (l ++ [x]) = iv l ++ [.int .i64 x.1] := by simp [iv]
theorem tv_snoc (l : List (Nat × List UInt8)) (x : Nat × List UInt8) : tv (l ++ [x]) = tv l ++ [.string ⟨x.2.toArray⟩] := by simp [tv]
theorem iv_length (l : List (Nat × List UInt8)) : (iv l).length = l.length := by simp [iv]
theorem tv_length (l : List (Nat × List UInt8)) : (tv l).length = l.length := by simp [tv]

/-- A row beside another one of other elements, that is appended to. -/
theorem HoldP.across {B B' : Nat} {T T' e e' : TypeId} {base n c : Nat} {xs ys : List Value} {f : Nat → Prop} {W X w1 : World} {A : Option Addr} {u : Value} (h : HoldP B T e base xs f W) (hb : Below W.heap.size W X) (hr : OR X base e' A n c ys) (hg : X.grownBy w1 (blk A)) (hbx : Boxed w1 B' T' u)
    (h1 : e ≠ e') (h2 : T ≠ e') (h3 : T' ≠ e) (h4 : B ≠ B') (v : Value) : HoldP B T e base xs f (w1.setCell ⟨B', 0, none⟩ v) := by
  obtain ⟨A2, n2, c2, hb2, hr2, hm2⟩ := h
  have hbX : Boxed X B T (.slice A2 n2 c2) := (hb.block _ hb2.lt).trans hb2
  have hrX : OR X base e A2 n2 c2 xs := hr2.below hb (fun g hg => (hr2.blk_lt g hg).2)
  have hne : some B ≠ blk A := by have := hbX.not_row h2 hr.1; rwa [ownBlock_slice] at this
  have hb1 : Boxed w1 B T (.slice A2 n2 c2) := hbX.kept hg hne
  have hr1 : OR w1 base e A2 n2 c2 xs := hrX.kept hg (hrX.apart hr h1)
  have hne2 : blk A2 = none ∨ blk A2 ≠ some B' := .inr (fun e => by have := hbx.not_row h3 hr1.1; rw [ownBlock_slice] at this; exact this e.symm)
  exact ⟨A2, n2, c2, hb1.other h4 _, hr1.kept (grownBy_setCell' _ _ _) hne2, hm2⟩

/-- Is this the operation that writes slot d, in a round? -/
theorem at_dstI {F : Fence} {n : Nat} {P : Program} {ops : Array Oper} {rest : List Oper} {a : Act} {w : World} {Q : Exit → Act → World → Prop} (d : Tmp) {op : Op} {ty : TypeId} {pos : String} {af : Array Edge} {gd : Option (Nat × Bool)} (h : wpListIn F n P ops Q (⟨some d, op, ty, pos, af, gd⟩ :: rest) a w) : wpListIn F n P ops Q (⟨some d, op, ty, pos, af, gd⟩ :: rest) a w := h
/-- f, and one block more -/
def andB (f : Nat → Prop) (h : Nat) (k : Nat) : Prop := f k ∨ k = h
theorem Turn.more {b h : Nat} {f : Nat → Prop} {A B : World} (ht : Turn b f A B) : Turn b (andB f h) A B :=
  ⟨ht.os, ht.tape, ht.output, ht.size, fun k o ho hk => ht.block k o ho (hk.imp id (fun q => ⟨fun c => q.1 (.inl c), q.2⟩))⟩
theorem Rk.less {b h : Nat} {f : Nat → Prop} {A B : World} (r : Rk b (andB f h) A B) : Rk b f A B := ⟨r.below, r.keeps, fun k hk => r.mine k (.inl hk)⟩
/-- The boxes of told. -/
structure TG (h : Nat) (most : Nat) (pre : List (Nat × List UInt8)) (f : Nat → Prop) (W : World) : Prop where
  b0 : Boxed W h 3 (.int .i64 most)
  b1 : HoldP (h + 1) 54 3 h (iv pre) (andB f h) W
  b2 : HoldP (h + 1 + 1) 38 9 h (tv pre) (andB f h) W
theorem TG.ab {h most b : Nat} (hb : h + 3 ≤ b) : AbP b (fun pre f W => TG h most pre f W) := fun pre f f' X Y q ht hf =>
  ⟨ht.block _ _ q.b0 (.inl (by omega)), AbP.hold (b := b) (fun (_ : Unit) => iv pre) (by omega) () (andB f h) (andB f' h) X Y q.b1 ht.more (fun k hk => hk.elim (fun c => (hf k c).imp .inl id) (fun c => .inl (.inr c))),
    AbP.hold (b := b) (fun (_ : Unit) => tv pre) (by omega) () (andB f h) (andB f' h) X Y q.b2 ht.more (fun k hk => hk.elim (fun c => (hf k c).imp .inl id) (fun c => .inl (.inr c)))⟩
theorem OR.drewN' {w : World} {base n c : Nat} {e : TypeId} {A : Option Addr} {xs : List Value} (h : OR w base e A n c xs) (k : Nat) : OR (w.drewN k) base e A n c xs := by
  unfold OR World.ownsRow at *
  rw [World.heap_drewN]
  exact h
/-- what told's two boxes hold at the end -/
theorem TG.out {h most D : Nat} {p : List (Nat × List UInt8)} {f : Nat → Prop} {W : World} (q : TG h most p f W) (k : Nat) (hK : W.heap[D]? = some (.deferred (some []))) : ∃ A1 c1 A2 c2, (W.cell? ⟨h + 1, 0, none⟩ = some (.slice A1 p.length c1) ∧ W.cell? ⟨h + 1 + 1, 0, none⟩ = some (.slice A2 p.length c2)) ∧
    OR ((W.drewN k).putObj D (.deferred none)) h 3 A1 p.length c1 (iv p) ∧ OR ((W.drewN k).putObj D (.deferred none)) h 9 A2 p.length c2 (tv p) := by
  obtain ⟨A1, n1, c1, hb1, hr1, _⟩ := q.b1
  obtain ⟨A2, n2, c2, hb2, hr2, _⟩ := q.b2
  have e1 : n1 = p.length := by rw [hr1.len, iv_length]
  have e2 : n2 = p.length := by rw [hr2.len, tv_length]
  subst e1 e2
  have hK' : (W.drewN k).heap[D]? = some (.deferred (some [])) := by rw [World.heap_drewN]; exact hK
  exact ⟨A1, c1, A2, c2, ⟨hb1.cell, hb2.cell⟩, ⟨ownsRow_putObj (hr1.drewN' k).1 (.deferred none) hK' rfl, hr1.2⟩, ⟨ownsRow_putObj (hr2.drewN' k).1 (.deferred none) hK' rfl, hr2.2⟩⟩
/-- How told is left within a round. -/
def TgX (w : World) (most : Nat) (c : Code) (pre : List (Nat × List UInt8)) (f : Nat → Prop) (W : World) : Prop :=
  c = .exit 0 ∧ (∃ p x, pre = p ++ [x] ∧ p.length = most ∧ TG w.heap.size most p f W) ∧ Below w.heap.size w W
/-- What told hands back. -/
def ToldP (w : World) (most : Nat) (T : List (Nat × List UInt8)) (e : Ending) (w' : World) : Prop :=
  ∃ A1 c1 A2 c2, e = .returned (.tuple #[.slice A1 (T.take most).length c1, .slice A2 (T.take most).length c2, .bool true]) ∧
    OR w' w.heap.size 3 A1 (T.take most).length c1 (iv (T.take most)) ∧ OR w' w.heap.size 9 A2 (T.take most).length c2 (tv (T.take most)) ∧ Below w.heap.size w w'

end Go.Proofs.YtfhfhjcdeeepbaaGreatDoor
