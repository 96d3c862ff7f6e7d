/-
  Appending bytes: the laws of this program's []uint8.
-/
import Derived.Test.YthlhfbchilfgcaaDoorRows
import Derived.Test.YthlhfbchilfgcaaDoorSl
namespace Go.Proofs.YthlhfbchilfgcaaDoor
open Go.RowKit
set_option linter.unusedVariables false

def blk (A : Option Addr) : Option Nat := A.map (·.block)
theorem ownBlock_slice (A : Option Addr) (n c : Nat) : (Value.slice A n c).ownBlock = blk A := by cases A <;> rfl

/-- A row of bytes of the call's own, from block 'base' on. -/
def OB (w : World) (base : Nat) (A : Option Addr) (n c : Nat) (l : List UInt8) : Prop := w.ownsRow base 5 1 (.slice A n c) n (bv l) ∧ (A = none → c = 0)
namespace OB
variable {w w' : World} {base n c : Nat} {A : Option Addr} {l : List UInt8}
theorem sl (h : OB w base A n c l) : Sl w w.heap.size A (bv l) := Sl.own h.1
theorem len (h : OB w base A n c l) : n = l.length := by have := h.1.1; simp [bv] at this; omega
theorem blk_lt (h : OB w base A n c l) (g : Nat) (hg : blk A = some g) : base ≤ g ∧ g < w.heap.size := h.1.lt g (by rw [ownBlock_slice]; exact hg)
theorem kept {row : Option Nat} (h : OB w base A n c l) (hg : w.grownBy w' row) (hne : blk A = none ∨ blk A ≠ row) : OB w' base A n c l := ⟨h.1.kept hg (by rw [ownBlock_slice]; exact hne), h.2⟩
theorem alloc (h : OB w base A n c l) (o : Obj) : OB (w.alloc o) base A n c l := ⟨h.1.alloc o, h.2⟩
theorem drew (h : OB w base A n c l) : OB w.drew base A n c l := ⟨h.1.drew, h.2⟩
theorem drewN (h : OB w base A n c l) (k : Nat) : OB (w.drewN k) base A n c l := by
  unfold OB World.ownsRow at *
  rw [World.heap_drewN]
  exact h
theorem none_ (w : World) (base : Nat) : OB w base none 0 0 [] := ⟨World.ownsRow_nil w base _ _, fun _ => rfl⟩
theorem lit (w : World) (l : List UInt8) (hb : base ≤ w.heap.size) (hl : l.length ≤ 1000000) : OB (w.alloc (.cells (bv l).toArray 5)) base (some ⟨w.heap.size, 0, none⟩) l.length l.length l := by
  refine ⟨?_, fun h => by cases h⟩
  have := World.ownsRow_lit (base := base) (e := 5) (size := 1) w (bv l).toArray l.length hb (by simp only [maxLen]; omega) (by simp [bv])
  simpa using this
theorem below {B : Nat} (h : OB w base A n c l) (hb : Below B w w') (hB : ∀ g, blk A = some g → g < B) : OB w' base A n c l := by
  refine ⟨?_, h.2⟩
  obtain ⟨hl, ⟨hv, hn⟩ | ⟨g, cap, cur, hv, h1, h2, h3⟩⟩ := h.1
  · exact ⟨hl, .inl ⟨hv, hn⟩⟩
  · have hg : g < B := hB g (by injection hv with hA; subst hA; rfl)
    exact ⟨hl, .inr ⟨g, cap, cur, hv, h1, by rw [hb.block g hg]; exact h2, h3⟩⟩
theorem weaken {base' : Nat} (h : OB w base A n c l) (hb : base' ≤ base) : OB w base' A n c l := by
  refine ⟨⟨h.1.1, ?_⟩, h.2⟩
  rcases h.1.2 with e | ⟨g, cap, cur, hv, h1, h2⟩
  · exact .inl e
  · exact .inr ⟨g, cap, cur, hv, Nat.le_trans hb h1, h2⟩
end OB

theorem u8_info : (Tryd.prog.info? 5).map (fun i => (i.zero, i.size, i.bytes)) = some (some (.int .u8 0), 1, 1) := by kernel_rfl

theorem run_app_u8 (w : World) (ty : TypeId) (base : Nat) (A : Option Addr) (n c : Nat) (l : List UInt8) (hown : OB w base A n c l)
    (X : Option Addr) (m d : Nat) (k : List UInt8) (B : Nat) (hS : Sl w B X (bv k)) (hm : m = k.length) (hnil : X = none → d = 0) (N : Nat) (hN : N = n + m) (hl : N ≤ 1000000) (hbase : base ≤ w.heap.size) :
    ∃ A' c' w', (Builtin.append_ #[64, 64] ty #[.slice A n c, .slice X m d]).run Tryd.prog w = .ok (.slice A' N c') w' ∧ OB w' base A' N c' (l ++ k) ∧ w.grownBy w' (blk A) ∧ (blk A' = blk A ∨ blk A' = some w.heap.size) := by
  obtain ⟨i0, hi0, hz0, hz1, hz2⟩ := info_parts u8_info
  subst hN
  obtain ⟨v', w', hrun, h2, h3, h4⟩ := run_append_sl (P := Tryd.prog) w base 64 ty 5 i0 _ 1 1 Tryd.underlying64 hi0 hz0 hz1 hz2 rfl (by omega) _ n (bv l) hown.1 B X m d (bv k) hS (by simp [bv, hm]) hnil (bv_one _) (by simp only [maxLen]; omega) (by omega) hbase
  obtain ⟨A', c', rfl, hn', _⟩ := own_of h2
  rw [bv_append] at h2
  simp only [ownBlock_slice] at h3 h4
  exact ⟨A', c', w', hrun, ⟨h2, hn'⟩, h3, h4⟩

theorem wpList_app_u8 (w : World) {ops : Array Oper} {rest : List Oper} {o : Oper} {a : Act} {Q : Exit → Act → World → Prop} (hgd : o.guard = none) (s x : Operand)
    (ho : o.op = .call { callee := .builtin .append, args := #[s, x], argTypes := #[64, 64] })
    (base : Nat) (A : Option Addr) (n c : Nat) (l : List UInt8) (hs : a.eval s = .slice A n c) (hown : OB w base A n c l)
    (X : Option Addr) (m d : Nat) (k : List UInt8) (B : Nat) (hx : a.eval x = .slice X m d) (hS : Sl w B X (bv k)) (hm : m = k.length) (hnil : X = none → d = 0) (N : Nat) (hN : N = n + m) (hl : N ≤ 1000000) (hbase : base ≤ w.heap.size)
    (h : ∀ A' c' w', OB w' base A' N c' (l ++ k) → w.grownBy w' (blk A) → (blk A' = blk A ∨ blk A' = some w.heap.size) → wpList Tryd.prog ops Q rest (a.put o.dst (.slice A' N c')) w') :
    wpList Tryd.prog ops Q (o :: rest) a w := by
  refine wpList_plain hgd fun K hK => ?_
  obtain ⟨A', c', w', hrun, h2, h3, h4⟩ := run_app_u8 w o.type base A n c l hown X m d k B hS hm hnil N hN hl hbase
  unfold Oper.wp execOp
  simp only [ho, resolve, invoke, builtin, Sem.run_bind, Sem.run_pure, Result.andThen_ok, List.map_toArray, List.map_cons, List.map_nil, hs, hx, hrun]
  exact hK _ _ (h A' c' w' h2 h3 h4)

/-- Two rows that lie apart, each appended to in turn, lie apart still. -/
theorem OB.two {wr w6 w7 : World} {B0 n4 c4 n5 c5 n6 c6 n7 c7 : Nat} {A4 A5 A6 A7 : Option Addr} {l4 l5 l6 l7 : List UInt8} {o o' : Obj}
    (h4 : OB wr B0 A4 n4 c4 l4) (h5 : OB wr B0 A5 n5 c5 l5) (hne : blk A4 ≠ blk A5) (hb0 : B0 ≤ wr.heap.size)
    (h6 : OB w6 B0 A6 n6 c6 l6) (hg6 : (wr.alloc o).grownBy w6 (blk A4)) (hat6 : blk A6 = blk A4 ∨ blk A6 = some (wr.alloc o).heap.size)
    (h7 : OB w7 B0 A7 n7 c7 l7) (hg7 : (w6.alloc o').grownBy w7 (blk A5)) (hat7 : blk A7 = blk A5 ∨ blk A7 = some (w6.alloc o').heap.size) :
    OB w7 B0 A6 n6 c6 l6 ∧ blk A6 ≠ blk A7 ∧ Below B0 wr w7 := by
  have s6 : wr.heap.size + 1 ≤ w6.heap.size := by have := hg6.size; simp at this; omega
  have h65 : blk A6 = none ∨ blk A6 ≠ blk A5 := by
    rcases hat6 with h | h
    · rw [h]; exact .inr hne
    · rw [h]; refine .inr fun e => ?_
      have := (h5.blk_lt _ e.symm).2
      simp at this
      omega
  have b6 : Below B0 wr w6 := ((Below.refl _ _).alloc hb0 _).grown hg6 (by simp; omega) (fun g hg => (h4.blk_lt g hg).1)
  refine ⟨(h6.alloc _).kept hg7 h65, ?_, (b6.alloc (by omega) _).grown hg7 (by simp; omega) (fun g hg => (h5.blk_lt g hg).1)⟩
  intro e
  rcases hat7 with h | h
  · rcases hat6 with h' | h'
    · exact hne (by rw [← h', e, h])
    · have := (h5.blk_lt _ (by rw [← h, ← e, h'])).2
      simp at this
      omega
  · have := (h6.blk_lt _ (by rw [e, h])).2
    simp at this
    omega

/-- 'string(b)' reads the bytes. -/
theorem run_str_sl (w : World) (B : Nat) (A : Option Addr) (n c : Nat) (l : List UInt8) (hS : Sl w B A (bv l)) (hn : n = l.length) :
    Sem.run Tryd.prog (Go.convert 64 9 (.slice A n c)) w = .ok (.string ⟨l.toArray⟩) w := by
  subst hn
  cases A with
  | none =>
    rcases hS with h | ⟨_, _, h, _⟩
    · have : l = [] := List.length_eq_zero_iff.1 (by rw [← bv_length, h]; rfl)
      subst this
      exact run_convert_bytes_nil w 64 5 Tryd.underlying64 Tryd.underlying5 _ _ 9 Tryd.underlying9
    · cases h
  | some ad =>
    refine run_convert_bytes_back w 64 9 5 ad c l Tryd.underlying64 Tryd.underlying5 Tryd.underlying9 fun j hj => ?_
    rcases hS with h | ⟨b, off, ha, _, hc⟩
    · have := congrArg List.length h; simp [bv] at this; subst this; simp at hj
    · injection ha with ha
      subst ha
      have := hc j _ (bv_get hj)
      unfold Addr.add
      split
      · next h => subst h; simpa using this
      · exact this
end Go.Proofs.YthlhfbchilfgcaaDoor
