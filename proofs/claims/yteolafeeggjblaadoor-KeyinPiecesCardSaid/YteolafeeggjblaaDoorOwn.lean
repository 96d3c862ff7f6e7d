/-
  Rows of the call's own, of any element of one cell: appending to them.
-/
import Derived.Test.YteolafeeggjblaaDoorU8
namespace Go.Proofs.YteolafeeggjblaaDoor
open Go.RowKit
set_option linter.unusedVariables false

/-- A row of elements of type e of the call's own, from block 'base' on. -/
def OR (w : World) (base : Nat) (e : TypeId) (A : Option Addr) (n c : Nat) (xs : List Value) : Prop := w.ownsRow base e 1 (.slice A n c) n xs ∧ (A = none → c = 0)
namespace OR
variable {w w' : World} {base n c : Nat} {e : TypeId} {A : Option Addr} {xs : List Value}
theorem sl (h : OR w base e A n c xs) : Sl w w.heap.size A xs := Sl.own h.1
theorem len (h : OR w base e A n c xs) : n = xs.length := by have := h.1.1; omega
theorem blk_lt (h : OR w base e A n c xs) (g : Nat) (hg : blk A = some g) : base ≤ g ∧ g < w.heap.size := h.1.lt g (by rw [ownBlock_slice]; exact hg)
theorem kept {row : Option Nat} (h : OR w base e A n c xs) (hg : w.grownBy w' row) (hne : blk A = none ∨ blk A ≠ row) : OR w' base e A n c xs := ⟨h.1.kept hg (by rw [ownBlock_slice]; exact hne), h.2⟩
theorem alloc (h : OR w base e A n c xs) (o : Obj) : OR (w.alloc o) base e A n c xs := ⟨h.1.alloc o, h.2⟩
theorem drew (h : OR w base e A n c xs) : OR w.drew base e A n c xs := ⟨h.1.drew, h.2⟩
theorem none_ (w : World) (base : Nat) (e : TypeId) : OR w base e none 0 0 [] := ⟨World.ownsRow_nil w base _ _, fun _ => rfl⟩
theorem below {B : Nat} (h : OR w base e A n c xs) (hb : Below B w w') (hB : ∀ g, blk A = some g → g < B) : OR w' base e A n c xs := by
  refine ⟨?_, h.2⟩
  obtain ⟨hl, ⟨hv, hn⟩ | ⟨g, cap, cur, hv, h1, h2, h3⟩⟩ := h.1
  · exact ⟨hl, .inl ⟨hv, hn⟩⟩
  · have hg : g < B := hB g (by injection hv with hA; subst hA; rfl)
    exact ⟨hl, .inr ⟨g, cap, cur, hv, h1, by rw [hb.block g hg]; exact h2, h3⟩⟩
/-- Rows of different elements share no block. -/
theorem apart {base' n' c' : Nat} {e' : TypeId} {A' : Option Addr} {xs' : List Value} (h : OR w base e A n c xs) (h' : OR w base' e' A' n' c' xs') (hne : e ≠ e') : blk A = none ∨ blk A ≠ blk A' := by
  obtain ⟨hl, ⟨hv, hn⟩ | ⟨g, cap, cur, hv, h1, h2, h3⟩⟩ := h.1
  · injection hv with hA; subst hA; exact .inl rfl
  · injection hv with hA; subst hA
    obtain ⟨hl', ⟨hv', hn'⟩ | ⟨g', cap', cur', hv', h1', h2', h3'⟩⟩ := h'.1
    · injection hv' with hA'; subst hA'; exact .inr (fun h => by cases h)
    · injection hv' with hA'; subst hA'
      refine .inr fun h => ?_
      have : g = g' := by simpa [blk] using h
      subst this
      rw [h2] at h2'
      injection h2' with h2'
      injection h2' with _ he
      exact hne he
end OR

theorem run_app {T e : TypeId} {z : Value} {bytes : Nat} (hT : Tryd.prog.underlying T = some (.slice e)) (hI : (Tryd.prog.info? e).map (fun i => (i.zero, i.size, i.bytes)) = some (some z, 1, bytes)) (hz : z.cells.size = 1) (hby : bytes ≤ 64)
    (w : World) (ty : TypeId) (base : Nat) (A : Option Addr) (n c : Nat) (xs : List Value) (hown : OR w base e A n c xs)
    (X : Option Addr) (m d : Nat) (k : List Value) (B : Nat) (hS : Sl w B X k) (hm : m = k.length) (hnil : X = none → d = 0) (h1 : ∀ u ∈ k, u.oneCell' = true) (N : Nat) (hN : N = n + m) (hl : N ≤ 1000000) (hbase : base ≤ w.heap.size) :
    ∃ A' c' w', (Builtin.append_ #[T, T] ty #[.slice A n c, .slice X m d]).run Tryd.prog w = .ok (.slice A' N c') w' ∧ OR w' base e A' N c' (xs ++ k) ∧ w.grownBy w' (blk A) ∧ (blk A' = blk A ∨ blk A' = some w.heap.size) := by
  obtain ⟨i0, hi0, hz0, hz1, hz2⟩ := info_parts hI
  subst hN
  have hbb : (n + m) * bytes ≤ 140737488355328 := by
    have : (n + m) * bytes ≤ 1000000 * 64 := Nat.mul_le_mul hl hby
    omega
  obtain ⟨v', w', hrun, h2, h3, h4⟩ := run_append_sl (P := Tryd.prog) w base T ty e i0 z 1 bytes hT hi0 hz0 hz1 hz2 hz (by omega) _ n xs hown.1 B X m d k hS (by omega) hnil h1 (by simp only [maxLen]; omega) hbb hbase
  obtain ⟨A', c', rfl, hn', _⟩ := own_of h2
  simp only [ownBlock_slice] at h3 h4
  exact ⟨A', c', w', hrun, ⟨h2, hn'⟩, h3, h4⟩

theorem wpList_app {T e : TypeId} {z : Value} {bytes : Nat} (hT : Tryd.prog.underlying T = some (.slice e)) (hI : (Tryd.prog.info? e).map (fun i => (i.zero, i.size, i.bytes)) = some (some z, 1, bytes)) (hz : z.cells.size = 1) (hby : bytes ≤ 64)
    (w : World) {ops : Array Oper} {rest : List Oper} {o : Oper} {a : Act} {Q : Exit → Act → World → Prop} (hgd : o.guard = none) (s x : Operand)
    (ho : o.op = .call { callee := .builtin .append, args := #[s, x], argTypes := #[T, T] })
    (base : Nat) (A : Option Addr) (n c : Nat) (xs : List Value) (hs : a.eval s = .slice A n c) (hown : OR w base e A n c xs)
    (X : Option Addr) (m d : Nat) (k : List Value) (B : Nat) (hx : a.eval x = .slice X m d) (hS : Sl w B X k) (hm : m = k.length) (hnil : X = none → d = 0) (h1 : ∀ u ∈ k, u.oneCell' = true) (N : Nat) (hN : N = n + m) (hl : N ≤ 1000000) (hbase : base ≤ w.heap.size)
    (h : ∀ A' c' w', OR w' base e A' N c' (xs ++ k) → w.grownBy w' (blk A) → (blk A' = blk A ∨ blk A' = some w.heap.size) → wpList Tryd.prog ops Q rest (a.put o.dst (.slice A' N c')) w') :
    wpList Tryd.prog ops Q (o :: rest) a w := by
  refine wpList_plain hgd fun K hK => ?_
  obtain ⟨A', c', w', hrun, h2, h3, h4⟩ := run_app hT hI hz hby w o.type base A n c xs hown X m d k B hS hm hnil h1 N hN hl hbase
  unfold Oper.wp execOp
  simp only [ho, resolve, invoke, builtin, Sem.run_bind, Sem.run_pure, Result.andThen_ok, List.map_toArray, List.map_cons, List.map_nil, hs, hx, hrun]
  exact hK _ _ (h A' c' w' h2 h3 h4)

theorem i32_info : (Tryd.prog.info? 21).map (fun i => (i.zero, i.size, i.bytes)) = some (some (.int .i32 0), 1, 4) := by kernel_rfl
theorem i64_info : (Tryd.prog.info? 3).map (fun i => (i.zero, i.size, i.bytes)) = some (some (.int .i64 0), 1, 8) := by kernel_rfl
end Go.Proofs.YteolafeeggjblaaDoor
