/-
  Lists that lie in memory: what a slice shows, whoever made it. No program is named here.
  Memory that is written in place: what may have turned between two worlds; blocks that are known whole; loads and stores of structs. No program is named here.
  A call of a function as one step of a region that draws its order.
  Iterators that keep state of their own in cells: what such an iterator and a range over it promise each other, and the law of the range.
  A set f of blocks is the iterator's own: it may turn them between two rounds; a round leaves them as they lie. What the iterator makes anew it may count to f.
  Appending bytes: the laws of this program's []uint8.
  Rows of the call's own, of any element of one cell: appending to them.
-/
import Derived.WalkKit
import Derived.WalkSpells
import Derived.WalkLawsBesides
import Derived.Maps.AppendAt
import Derived.Laws.OwnMore
import Derived.Deep.Draws
import Derived.Lib.Hide
import Derived.Deep.MidRow
import Derived.Laws.CopyOwn
import Derived.OwnWalk
import Derived.Deep.RegionLaw
import Derived.RangeFuncCalls
import Derived.RangeFuncNested
import Derived.RangeFuncBound
import Derived.RangeFuncLeaves
import Derived.Test.YtdodogehlnchlaaRows
namespace Go.Proofs.Ytdodogehlnchlaa
open Go.RowKit

/-- The cells 'xs' stand one behind the other from the address on, in a block under B; an empty list asks nothing. -/
def Sl (w : World) (B : Nat) (A : Option Addr) (xs : List Value) : Prop :=
  xs = [] ∨ ∃ b off, A = some ⟨b, off, none⟩ ∧ b < B ∧ ∀ j u, xs[j]? = some u → w.cell? ⟨b, off + j, none⟩ = some u

namespace Sl
variable {w w' : World} {B B' : Nat} {A : Option Addr} {xs : List Value}

theorem empty : Sl w B A [] := .inl rfl

theorem open_ (h : Sl w B A xs) (hn : 0 < xs.length) : ∃ b off, A = some ⟨b, off, none⟩ ∧ b < B ∧ ∀ j u, xs[j]? = some u → w.cell? ⟨b, off + j, none⟩ = some u := by
  rcases h with rfl | h
  · simp at hn
  · exact h

theorem keep (h : Sl w B A xs) (hk : ∀ p : Addr, p.block < B → w'.cell? p = w.cell? p) : Sl w' B A xs := by
  rcases h with rfl | ⟨b, off, hA, hb, hc⟩
  · exact .inl rfl
  · exact .inr ⟨b, off, hA, hb, fun j u hu => (hk ⟨b, off + j, none⟩ hb).trans (hc j u hu)⟩

theorem more (h : Sl w B A xs) (hB : B ≤ B') : Sl w B' A xs := by
  rcases h with rfl | ⟨b, off, hA, hb, hc⟩
  · exact .inl rfl
  · exact .inr ⟨b, off, hA, by omega, hc⟩

theorem below (h : Sl w B A xs) (hb : Below B w w') : Sl w' B A xs := h.keep fun _ hp => hb.cell hp
theorem drew (h : Sl w B A xs) : Sl w.drew B A xs := h
theorem drewN (h : Sl w B A xs) (n : Nat) : Sl (w.drewN n) B A xs := h
theorem alloc (h : Sl w B A xs) (hB : B ≤ w.heap.size) (o : Obj) : Sl (w.alloc o) B A xs :=
  h.keep fun p hp => World.cell?_alloc_lt w o p (by omega)
theorem setCell (h : Sl w B A xs) {p : Addr} (hp : B ≤ p.block) (u : Value) : Sl (w.setCell p u) B A xs :=
  h.keep fun q hq => World.cell?_setCell_other w p q u (fun e => by rw [e] at hp; omega)

/-- The first k of them. -/
theorem take (h : Sl w B A xs) (k : Nat) : Sl w B A (xs.take k) := by
  rcases h with rfl | ⟨b, off, hA, hb, hc⟩
  · simp [Sl]
  · refine .inr ⟨b, off, hA, hb, fun j u hu => hc j u ?_⟩
    rw [List.getElem?_take] at hu
    split at hu
    · exact hu
    · cases hu

/-- What is left behind the first k, at the address that the model gives 's[k:]'. -/
theorem drop (h : Sl w B A xs) {k cap : Nat} (hc : xs.length ≤ cap) : Sl w B (if cap = k then A else A.map (·.add k)) (xs.drop k) := by
  rcases Nat.lt_or_ge k xs.length with hk | hk
  · obtain ⟨b, off, rfl, hb, hcell⟩ := h.open_ (by omega)
    rw [if_neg (by omega)]
    refine .inr ⟨b, off + k, ?_, hb, fun j u hu => ?_⟩
    · by_cases h0 : k = 0 <;> simp [Addr.add, h0]
    · rw [List.getElem?_drop] at hu
      rw [Nat.add_assoc]
      exact hcell _ u hu
  · rw [List.drop_eq_nil_of_le hk]
    exact .inl rfl

/-- A row of the call's own. -/
theorem own {base e n c : Nat} (h : w.ownsRow base e 1 (.slice A n c) n xs) : Sl w w.heap.size A xs := by
  rcases h with ⟨hl, ⟨hv, rfl⟩ | ⟨g, cap, cur, hv, hb, hh, hn, hc, hcur, ht⟩⟩
  · have : xs = [] := List.eq_nil_of_length_eq_zero (by simpa using hl)
    exact .inl this
  · injection hv with hA _ _
    subst hA
    refine .inr ⟨g, 0, rfl, ?_, fun j u hu => ?_⟩
    · rcases Nat.lt_or_ge g w.heap.size with hlt | hge
      · exact hlt
      · rw [Array.getElem?_eq_none hge] at hh; cases hh
    · rw [← ht, List.getElem?_take] at hu
      split at hu
      · simp [World.cell?, hh]
        simpa using hu
      · cases hu
end Sl

section
variable {P : Program} (w : World)

/-- 'append(row of the call's own, xs...)', whatever slice xs is. -/
theorem run_append_sl (base : Nat) (t ty e : TypeId) (i : TypeInfo) (z : Value) (size bytes : Nat) (ht : P.underlying t = some (.slice e))
    (hi : P.info? e = some i) (hz : i.zero = some z) (hsize : i.size = size) (hby : i.bytes = bytes) (hzs : z.cells.size = size) (hsz : 0 < size)
    (v : Value) (n : Nat) (xs : List Value) (hown : w.ownsRow base e size v n xs) (B : Nat) (A : Option Addr) (m c : Nat) (news : List Value)
    (hS : Sl w B A news) (hl : news.length = m * size) (hnil : A = none → c = 0) (h1 : ∀ u ∈ news, u.oneCell' = true) (h63 : n + m ≤ maxLen)
    (hbytes : (n + m) * bytes ≤ 140737488355328) (hbase : base ≤ w.heap.size) :
    ∃ v' w', (Builtin.append_ #[t, t] ty #[v, .slice A m c]).run P w = .ok v' w' ∧ w'.ownsRow base e size v' (n + m) (xs ++ news) ∧
      w.grownBy w' v.ownBlock ∧ (v'.ownBlock = v.ownBlock ∨ v'.ownBlock = some w.heap.size) := by
  cases A with
  | none =>
    have hnews : news = [] := by
      rcases hS with h | ⟨_, _, h, _⟩
      · exact h
      · cases h
    subst hnews
    have hm : m = 0 := by
      rcases Nat.eq_zero_or_pos m with h | h
      · exact h
      · have : 0 < m * size := Nat.mul_pos h hsz
        simp at hl
        omega
    obtain rfl := hm
    obtain rfl := hnil rfl
    exact ⟨v, w, run_append_owned_none w base t ty e i size ht hi v n xs hown, by simpa using hown, World.grownBy.refl w _, .inl rfl⟩
  | some ad =>
    have hcell : ∀ j u, news[j]? = some u → w.cell? (ad.add j) = some u := by
      intro j u hu
      rcases hS with rfl | ⟨b, off, ha, _, hc⟩
      · simp at hu
      · injection ha with ha
        subst ha
        have := hc j u hu
        unfold Addr.add
        split
        · next h => subst h; simpa using this
        · exact this
    obtain ⟨v', w', hrun, h2, h3, _, h5⟩ := run_append_own_at (P := P) w base t ty e i z size bytes ht hi hz hsize hby hzs hsz v n xs hown ad m c news hl hcell h1 h63 hbytes hbase
    exact ⟨v', w', hrun, h2, h3, h5⟩

theorem wpList_append_sl {ops : Array Oper} {rest : List Oper} {o : Oper} {a : Act} {Q : Exit → Act → World → Prop} (hgd : o.guard = none) (s x : Operand) (t : TypeId)
    (ho : o.op = .call { callee := .builtin .append, args := #[s, x], argTypes := #[t, t] })
    (base : Nat) (e : TypeId) (i : TypeInfo) (z : Value) (size bytes : Nat) (ht : P.underlying t = some (.slice e)) (hi : P.info? e = some i) (hz : i.zero = some z)
    (hsize : i.size = size) (hby : i.bytes = bytes) (hzs : z.cells.size = size) (hsz : 0 < size)
    (v : Value) (n : Nat) (xs : List Value) (hs : a.eval s = v) (hown : w.ownsRow base e size v n xs)
    (B : Nat) (A : Option Addr) (m c : Nat) (news : List Value) (hx : a.eval x = .slice A m c) (hS : Sl w B A news) (hl : news.length = m * size) (hnil : A = none → c = 0)
    (h1 : ∀ u ∈ news, u.oneCell' = true) (h63 : n + m ≤ maxLen) (hbytes : (n + m) * bytes ≤ 140737488355328) (hbase : base ≤ w.heap.size)
    (h : ∀ v' w', w'.ownsRow base e size v' (n + m) (xs ++ news) → w.grownBy w' v.ownBlock → (v'.ownBlock = v.ownBlock ∨ v'.ownBlock = some w.heap.size) → wpList P ops Q rest (a.put o.dst v') w') :
    wpList P ops Q (o :: rest) a w := by
  refine wpList_plain hgd fun K hK => ?_
  obtain ⟨v', w', hrun, h2, h3, h4⟩ := run_append_sl (P := P) w base t o.type e i z size bytes ht hi hz hsize hby hzs hsz v n xs hown B A m c news hS hl hnil h1 h63 hbytes hbase
  unfold Oper.wp execOp
  simp only [ho, resolve, invoke, builtin, Sem.run_bind, Sem.run_pure, Result.andThen_ok, List.map_toArray, List.map_cons, List.map_nil, hs, hx, hrun]
  exact hK _ _ (h v' w' h2 h3 h4)
end

/-- the one cell of a new block -/
theorem Sl.new (w : World) (cs : Array Value) (t : TypeId) : Sl (w.alloc (.cells cs t)) (w.heap.size + 1) (some ⟨w.heap.size, 0, none⟩) cs.toList := by
  refine .inr ⟨w.heap.size, 0, rfl, by omega, fun j u hu => ?_⟩
  rw [Nat.zero_add, World.cell?_alloc_new]
  simpa using hu
theorem Sl.grown {w w' : World} {B : Nat} {A : Option Addr} {xs : List Value} {row : Option Nat} (h : Sl w B A xs) (hg : w.grownBy w' row) (hB : B ≤ w.heap.size) (hr : ∀ g, row = some g → B ≤ g) : Sl w' B A xs :=
  h.below ((Below.refl B w).grown hg hB hr)
theorem own_of {w : World} {base : Nat} {e : TypeId} {size : Nat} {v : Value} {n : Nat} {xs : List Value} (h : w.ownsRow base e size v n xs) : ∃ A c, v = .slice A n c ∧ (A = none → c = 0) ∧ (size = 1 → Sl w w.heap.size A xs) := by
  have h' := h
  rcases h with ⟨hl, ⟨hv, rfl⟩ | ⟨g, cap, cur, hv, _⟩⟩
  · exact ⟨none, 0, hv, fun _ => rfl, fun h1 => by subst h1; rw [hv] at h'; exact Sl.own h'⟩
  · exact ⟨_, cap, hv, (fun h => by cases h), fun h1 => by subst h1; rw [hv] at h'; exact Sl.own h'⟩

/-- Bytes as cells. -/
def bv (l : List UInt8) : List Value := l.map fun c => .int .u8 c.toNat
theorem bv_length (l : List UInt8) : (bv l).length = l.length := by simp [bv]
theorem bv_get {l : List UInt8} {k : Nat} (h : k < l.length) : (bv l)[k]? = some (.int .u8 l[k].toNat) := by simp [bv, h]
theorem bv_take (l : List UInt8) (k : Nat) : (bv l).take k = bv (l.take k) := by simp [bv, List.map_take]
theorem bv_drop (l : List UInt8) (k : Nat) : (bv l).drop k = bv (l.drop k) := by simp [bv, List.map_drop]
theorem bv_append (l m : List UInt8) : bv l ++ bv m = bv (l ++ m) := by simp [bv]
theorem bv_one (l : List UInt8) : ∀ u ∈ bv l, u.oneCell' = true := by
  intro u hu
  obtain ⟨c, _, rfl⟩ := List.mem_map.1 hu
  rfl
/-- A slice's length, for a loop's measure. -/
def lenOf : Value → Nat | .slice _ n _ => n | _ => 0

/-! Small things that several walks share. -/
theorem grown_of_below {W W' : World} (h : Below W.heap.size W W') : W.grownBy W' none :=
  ⟨h.os, h.tape, h.output, h.size, fun k hk _ => h.block k hk⟩
theorem put_two (a b : Nat) (c d : Value) (t : Array Value) : Array.foldl (fun (t : Array Value) (x : Nat × Value) => t.setIfInBounds x.1 x.2) t ((#[a, b] : Array Nat).zip #[c, d]) = (t.setIfInBounds a c).setIfInBounds b d := by
  have e : ((#[a, b] : Array Nat).zip #[c, d]) = #[(a, c), (b, d)] := by simp
  rw [e]
  rfl
theorem ret_bool {a b : Bool} (h : a = b) : Ending.returned (.bool a) = .returned (.bool b) := by rw [h]
theorem ret_int {k : IntKind} {a b : Int} (h : a = b) : Ending.returned (.int k a) = .returned (.int k b) := by rw [h]
end Go.Proofs.Ytdodogehlnchlaa

namespace Go.Proofs.Ytdodogehlnchlaa
open Go.RowKit
set_option linter.unusedVariables false
set_option linter.unusedSimpArgs false

/-- From w to w': of the blocks that lay there only those of S may have turned. -/
structure Chg (S : Nat → Prop) (w w' : World) : Prop where
  os : w'.os = w.os
  tape : w'.tape = w.tape
  output : w'.output = w.output
  size : w.heap.size ≤ w'.heap.size
  block : ∀ k, k < w.heap.size → ¬ S k → w'.heap[k]? = w.heap[k]?
/-- No block. -/
def noB : Nat → Prop := fun _ => False
/-- One block. -/
def one (g : Nat) : Nat → Prop := fun k => k = g

namespace Chg
variable {S S' : Nat → Prop} {a b c w w' : World}
theorem refl (S : Nat → Prop) (w : World) : Chg S w w := ⟨rfl, rfl, rfl, Nat.le_refl _, fun _ _ _ => rfl⟩
theorem trans (h : Chg S a b) (k : Chg S' b c) (hs : ∀ j, S' j → S j ∨ a.heap.size ≤ j) : Chg S a c :=
  ⟨k.os.trans h.os, k.tape.trans h.tape, k.output.trans h.output, Nat.le_trans h.size k.size, fun j hj hn =>
    (k.block j (Nat.lt_of_lt_of_le hj h.size) (fun h' => (hs j h').elim hn (fun h2 => by omega))).trans (h.block j hj hn)⟩
theorem mono (h : Chg S a b) (hs : ∀ j, S j → S' j ∨ a.heap.size ≤ j) : Chg S' a b :=
  ⟨h.os, h.tape, h.output, h.size, fun j hj hn => h.block j hj (fun h' => (hs j h').elim hn (fun h2 => by omega))⟩
theorem of_below (h : Below a.heap.size a b) : Chg S a b := ⟨h.os, h.tape, h.output, h.size, fun j hj _ => h.block j hj⟩
theorem of_below' {B : Nat} (h : Below B a b) (hB : a.heap.size ≤ B) : Chg S a b := ⟨h.os, h.tape, h.output, h.size, fun j hj _ => h.block j (by omega)⟩
theorem below {B : Nat} (h : Chg S a b) (hB : B ≤ a.heap.size) (hs : ∀ j, S j → B ≤ j) : Below B a b :=
  ⟨h.os, h.tape, h.output, h.size, fun j hj => h.block j (by omega) (fun h' => by have := hs j h'; omega)⟩
theorem none_below (h : Chg noB a b) : Below a.heap.size a b := ⟨h.os, h.tape, h.output, h.size, fun j hj => h.block j hj (fun h' => h')⟩
theorem drew (h : Chg S a b) : Chg S a b.drew := ⟨h.os, h.tape, h.output, h.size, h.block⟩
theorem drewN (h : Chg S a b) (n : Nat) : Chg S a (b.drewN n) := ⟨h.os, h.tape, h.output, h.size, h.block⟩
theorem alloc (h : Chg S a b) (o : Obj) : Chg S a (b.alloc o) := h.trans (S' := noB) (of_below ((Below.refl _ _).alloc (Nat.le_refl _) o)) (fun _ h => h.elim)
theorem grown {row : Option Nat} (h : Chg S a b) (hg : b.grownBy c row) (hr : ∀ k, row = some k → S k ∨ a.heap.size ≤ k) : Chg S a c :=
  h.trans (S' := fun k => row = some k) ⟨hg.os, hg.tape, hg.output, hg.size, fun k hk hn => hg.block k hk (fun e => hn e.symm)⟩ hr
theorem setCell (h : Chg S a b) {p : Addr} (hp : S p.block ∨ a.heap.size ≤ p.block) (v : Value) : Chg S a (b.setCell p v) :=
  h.trans (S' := one p.block) ⟨rfl, rfl, rfl, by simp [World.setCell], fun k hk hn => Below.heap_setCell _ _ _ _ hn⟩ (fun j e => by rw [show j = p.block from e]; exact hp)
theorem heap (h : Chg S a b) {k : Nat} {o : Obj} (ho : a.heap[k]? = some o) (hn : ¬ S k) : b.heap[k]? = some o := (h.block k (Array.getElem?_eq_some_iff.1 ho).1 hn).trans ho
theorem cell (h : Chg S a b) {p : Addr} {v : Value} (hv : a.cell? p = some v) (hn : ¬ S p.block) : b.cell? p = some v :=
  (World.cell?_of_block (w := a) (h.block p.block (World.block_lt_of_cell? a p hv) hn)).trans hv
/-- What a slice shows stays, if its block is none of S. -/
theorem sl {B : Nat} {A : Option Addr} {xs : List Value} (h : Chg S a b) (hs : Sl a B A xs) (hB : B ≤ a.heap.size) (hn : ∀ g off, A = some ⟨g, off, none⟩ → ¬ S g) : Sl b B A xs := by
  rcases hs with rfl | ⟨g, off, rfl, hb, hc⟩
  · exact .inl rfl
  · exact .inr ⟨g, off, rfl, hb, fun j u hu => h.cell (hc j u hu) (hn g off rfl)⟩
end Chg

/-- Block g is just the cells cs, of elements of type t. -/
def Blk (w : World) (g : Nat) (t : TypeId) (cs : List Value) : Prop := w.heap[g]? = some (.cells cs.toArray t (0, 0))
namespace Blk
variable {w w' : World} {g : Nat} {t : TypeId} {cs : List Value}
theorem lt (h : Blk w g t cs) : g < w.heap.size := (Array.getElem?_eq_some_iff.1 h).1
theorem cell (h : Blk w g t cs) (i : Nat) : w.cell? ⟨g, i, none⟩ = cs[i]? := by
  have := cell_of_row w g i cs.toArray t (0, 0) h
  simpa using this
theorem frozen (h : Blk w g t cs) (i : Nat) : w.frozen? ⟨g, i, none⟩ = false := by
  unfold Blk at h
  simp [World.frozen?, h]
theorem new (w : World) (t : TypeId) (cs : List Value) : Blk (w.alloc (.cells cs.toArray t)) w.heap.size t cs := heap_alloc_new w _
theorem alloc (h : Blk w g t cs) (o : Obj) : Blk (w.alloc o) g t cs := (Below.heap_alloc w o g h.lt).trans h
theorem drew (h : Blk w g t cs) : Blk w.drew g t cs := h
theorem drewN (h : Blk w g t cs) (n : Nat) : Blk (w.drewN n) g t cs := by unfold Blk; rw [World.heap_drewN]; exact h
theorem chg {S : Nat → Prop} (h : Blk w g t cs) (hc : Chg S w w') (hn : ¬ S g) : Blk w' g t cs := hc.heap h hn
theorem below {B : Nat} (h : Blk w g t cs) (hb : Below B w w') (hg : g < B) : Blk w' g t cs := (hb.block g hg).trans h
theorem ne_ {g' : Nat} {t' : TypeId} {cs' : List Value} (h : Blk w g t cs) (h' : Blk w g' t' cs') (hne : t ≠ t') : g ≠ g' := by
  rintro rfl
  unfold Blk at h h'
  rw [h] at h'
  injection h' with h'
  injection h' with _ ht
  exact hne ht
theorem set_ (h : Blk w g t cs) (i : Nat) (u : Value) : Blk (w.setCell ⟨g, i, none⟩ u) g t (cs.set i u) := by
  unfold Blk at h ⊢
  simp [World.setCell, Array.getElem?_modify, h]
theorem range (h : Blk w g t cs) (o : Nat) (ds : List Value) (hd : ∀ j v, ds[j]? = some v → cs[o + j]? = some v) : w.rangeAt g o ds := fun j v hv => (h.cell _).trans (hd j v hv)
theorem sl (h : Blk w g t cs) : Sl w w.heap.size (some ⟨g, 0, none⟩) cs := .inr ⟨g, 0, rfl, h.lt, fun j u hu => by rw [Nat.zero_add, h.cell]; exact hu⟩
theorem row (h : Blk w g t cs) (ds : List Value) : Blk (w.setRow g ds.toArray) g t ds := setRow_heap w g _ _ t _ h
end Blk
theorem grown_trans {a b c : World} {g : Nat} (h : a.grownBy b (some g)) (k : b.grownBy c (some g)) : a.grownBy c (some g) :=
  ⟨k.os.trans h.os, k.tape.trans h.tape, k.output.trans h.output, Nat.le_trans h.size k.size, fun j hj hn => (k.block j (Nat.lt_of_lt_of_le hj h.size) hn).trans (h.block j hj hn)⟩
theorem chg_of_grown {a b : World} {g : Nat} (h : a.grownBy b (some g)) : Chg (one g) a b := (Chg.refl (one g) a).grown h (fun k hk => .inl (by injection hk with hk; exact hk.symm))
theorem grown_setRow (w : World) (g : Nat) (cs : Array Value) : w.grownBy (w.setRow g cs) (some g) :=
  ⟨rfl, rfl, rfl, by simp [World.setRow], fun k hk hne => setRow_other w g k cs (fun e => hne (by rw [e]))⟩

section
variable {P : Program}

/-- A struct is stored over a part of a block that is known whole. -/
theorem run_storeVar_blk (w : World) (b o : Nat) (ty t : TypeId) (cs ds : List Value) (hb : Blk w b t cs) (hfit : o + ds.length ≤ cs.length) (hi : (P.info? ty).map (·.size) = some ds.length) (h1 : ∀ v ∈ ds, v.oneCell' = true) :
    (storeVar ty ⟨b, o, none⟩ (.agg ds.toArray)).run P w = .ok () (w.setRow b (splice cs o ds).toArray) := by
  have := run_storeCells_at (P := P) b o t ds 0 cs.toArray w hb (by simpa using hfit) h1
  cases hq : P.info? ty with
  | none => simp [hq] at hi
  | some i =>
    have hs : i.size = ds.length := by simpa [hq] using hi
    simp only [Nat.add_zero, List.append_assoc] at this
    simp [storeVar, sizeOf, typeInfo, hq, Value.cells, hs, this, splice]

theorem wpList_store_blk {ops : Array Oper} {rest : List Oper} {op : Oper} {a : Act} {w : World} {Q : Exit → Act → World → Prop} (hgd : op.guard = none) (ty : TypeId) (x y : Operand) (ho : op.op = .store ty x y) (hd : op.dst = none)
    (b o : Nat) (t : TypeId) (cs ds : List Value) (hx : a.eval x = .pointer (some ⟨b, o, none⟩)) (hy : a.eval y = .agg ds.toArray)
    (hb : Blk w b t cs) (hfit : o + ds.length ≤ cs.length) (hi : (P.info? ty).map (·.size) = some ds.length) (h1 : ∀ v ∈ ds, v.oneCell' = true)
    (h : ∀ w', Blk w' b t (splice cs o ds) → w.grownBy w' (some b) → wpList P ops Q rest a w') : wpList P ops Q (op :: rest) a w := by
  refine wpList_plain hgd fun K hK => ?_
  unfold Oper.wp execOp
  simp only [ho, hx, hy, Instr.storeAt, Instr.sureAddr, Sem.run_bind, Sem.run_pure, Result.andThen_ok, run_storeVar_blk w b o ty t cs ds hb hfit hi h1]
  refine hK _ _ ?_
  rw [hd]
  exact h _ (hb.row _) (grown_setRow w b _)

/-- A value of one cell is stored into a block that is known whole. -/
theorem wpList_store_cell {ops : Array Oper} {rest : List Oper} {op : Oper} {a : Act} {w : World} {Q : Exit → Act → World → Prop} (hgd : op.guard = none) (ty : TypeId) (x y : Operand) (ho : op.op = .store ty x y) (hd : op.dst = none)
    (b o : Nat) (t : TypeId) (cs : List Value) (v : Value) (hx : a.eval x = .pointer (some ⟨b, o, none⟩)) (hy : a.eval y = v)
    (hb : Blk w b t cs) (hfit : o < cs.length) (hi : (P.info? ty).map (·.size) = some 1) (h1 : v.oneCell' = true)
    (h : ∀ w', Blk w' b t (cs.set o v) → w.grownBy w' (some b) → wpList P ops Q rest a w') : wpList P ops Q (op :: rest) a w := by
  refine wpList_plain hgd fun K hK => ?_
  have hrun := run_storeCells_at (P := P) b o t [v] 0 cs.toArray w hb (by simp; omega) (fun u hu => by simp at hu; subst hu; exact h1)
  have hc : v.cells = #[v] := by cases v <;> first | rfl | cases h1
  cases hq : P.info? ty with
  | none => simp [hq] at hi
  | some i =>
    have hs : i.size = 1 := by simpa [hq] using hi
    have e : (List.take o cs ++ (v :: List.drop (o + 1) cs)) = cs.set o v := by
      rw [List.set_eq_take_append_cons_drop, if_pos hfit]
    simp only [Nat.add_zero, List.append_assoc, List.length_singleton, List.singleton_append, e] at hrun
    unfold Oper.wp execOp
    simp only [ho, hx, hy, Instr.storeAt, Instr.sureAddr, storeVar, sizeOf, typeInfo, hq, hc, hs, Sem.run_bind, Sem.run_pure, Result.andThen_ok]
    simp [hq, hs, hrun]
    refine hK _ _ ?_
    rw [hd]
    exact h _ (hb.row _) (grown_setRow w b _)
end
section
variable {P : Program}
/-- copy, whatever the elements' size: as many as the shorter of the two has go over, into a block that is known whole. -/
theorem run_copy_any (w : World) (dT sT ty elem : TypeId) (sz : Nat) (hu : P.underlying dT = some (.slice elem)) (hs : (P.info? elem).map (·.size) = some sz)
    (dp sp : Option Addr) (dLen dCap sLen sCap g o : Nat) (t : TypeId) (cur : List Value) (hb : Blk w g t cur) (cs : List Value) (k : Nat) (hk : k = Nat.min sLen dLen) (hc : cs.length = k * sz)
    (hpos : 0 < k → dp = some ⟨g, o, none⟩ ∧ ∃ ad, sp = some ad ∧ ∀ j v, cs[j]? = some v → w.cell? (ad.add j) = some v) (hfit : o + cs.length ≤ cur.length) (h1 : ∀ v ∈ cs, v.oneCell' = true) :
    ∃ w', (Builtin.copy_ #[dT, sT] ty #[.slice dp dLen dCap, .slice sp sLen sCap]).run P w = .ok (goInt k) w' ∧ Blk w' g t (splice cur o cs) ∧ w.grownBy w' (some g) := by
  cases hq : P.info? elem with
  | none => simp [hq] at hs
  | some i =>
    have hi : i.size = sz := by simpa [hq] using hs
    rcases Nat.eq_zero_or_pos k with h0 | h0
    · subst h0
      have hcs : cs = [] := List.eq_nil_of_length_eq_zero (by simpa using hc)
      subst hcs
      refine ⟨w, ?_, by simpa [splice] using hb, World.grownBy.refl w _⟩
      have hl : ∀ ad : Addr, (loadCells ad 0).run P w = .ok #[] w := fun ad => by simp [loadCells, loadCellsFrom]
      have hfc : ∀ sp : Option Addr, (Builtin.firstCells sz 0 (.slice sp sLen sCap)).run P w = .ok #[] w := fun sp => by
        cases sp with
        | none => rfl
        | some ad => simp [Builtin.firstCells, hl]
      cases dp with
      | none => simp [Builtin.copy_, run_underlying hu, Builtin.lenOf, sizeOf, typeInfo, hq, hi, ← hk, hfc]
      | some a => simp [Builtin.copy_, run_underlying hu, Builtin.lenOf, sizeOf, typeInfo, hq, hi, ← hk, hfc, storeCells]
    · obtain ⟨rfl, ad, rfl, hsrc⟩ := hpos h0
      have hl := run_loadCells_list (P := P) w ad cs hsrc
      have hst := run_storeCells_at (P := P) g o t cs 0 cur.toArray w hb (by simpa using hfit) h1
      simp only [Nat.add_zero, List.append_assoc] at hst
      rw [hc] at hl
      refine ⟨w.setRow g (splice cur o cs).toArray, ?_, hb.row _, grown_setRow w g _⟩
      simp [Builtin.copy_, run_underlying hu, Builtin.lenOf, Builtin.firstCells, sizeOf, typeInfo, hq, hi, ← hk, hl, hst, splice]

theorem wpList_copy_k {w : World} {ops : Array Oper} {rest : List Oper} {o : Oper} {a : Act} {Q : Exit → Act → World → Prop} (hgd : o.guard = none) (d s : Operand) (dT sT : TypeId)
    (ho : o.op = .call { callee := .builtin .copy, args := #[d, s], argTypes := #[dT, sT] }) (elem : TypeId) (sz : Nat) (hu : P.underlying dT = some (.slice elem)) (hs : (P.info? elem).map (·.size) = some sz)
    (dp sp : Option Addr) (dLen dCap sLen sCap : Nat) (hd : a.eval d = .slice dp dLen dCap) (hsp : a.eval s = .slice sp sLen sCap) (g off : Nat) (t : TypeId) (cur : List Value) (hb : Blk w g t cur) (cs : List Value) (k : Nat) (hk : k = Nat.min sLen dLen) (hc : cs.length = k * sz)
    (hpos : 0 < k → dp = some ⟨g, off, none⟩ ∧ ∃ ad, sp = some ad ∧ ∀ j v, cs[j]? = some v → w.cell? (ad.add j) = some v) (hfit : off + cs.length ≤ cur.length) (h1 : ∀ v ∈ cs, v.oneCell' = true)
    (h : ∀ w', Blk w' g t (splice cur off cs) → w.grownBy w' (some g) → wpList P ops Q rest (a.put o.dst (.int .i64 k)) w') : wpList P ops Q (o :: rest) a w := by
  obtain ⟨w', hrun, h2, h3⟩ := run_copy_any (P := P) w dT sT o.type elem sz hu hs dp sp dLen dCap sLen sCap g off t cur hb cs k hk hc hpos hfit h1
  refine wpList_plain hgd fun K hK => ?_
  unfold Oper.wp
  simp [execOp, ho, resolve, invoke, builtin, hd, hsp, hrun, Result.andThen]
  exact hK _ _ (h w' h2 h3)

/-- The same as one step of a region that draws its order. -/
theorem step_copy_k {w : World} {ops : Array Oper} {o : Oper} {a : Act} {K : Act → World → Prop} {Q : Exit → Act → World → Prop} {E : Prop} (hgd : o.guard = none) (d s : Operand) (dT sT : TypeId)
    (ho : o.op = .call { callee := .builtin .copy, args := #[d, s], argTypes := #[dT, sT] }) (elem : TypeId) (sz : Nat) (hu : P.underlying dT = some (.slice elem)) (hs : (P.info? elem).map (·.size) = some sz)
    (dp sp : Option Addr) (dLen dCap sLen sCap : Nat) (hd : a.eval d = .slice dp dLen dCap) (hsp : a.eval s = .slice sp sLen sCap) (g off : Nat) (t : TypeId) (cur : List Value) (hb : Blk w g t cur) (cs : List Value) (k : Nat) (hk : k = Nat.min sLen dLen) (hc : cs.length = k * sz)
    (hpos : 0 < k → dp = some ⟨g, off, none⟩ ∧ ∃ ad, sp = some ad ∧ ∀ j v, cs[j]? = some v → w.cell? (ad.add j) = some v) (hfit : off + cs.length ≤ cur.length) (h1 : ∀ v ∈ cs, v.oneCell' = true)
    (h : ∀ w', Blk w' g t (splice cur off cs) → w.grownBy w' (some g) → K (a.put o.dst (.int .i64 k)) w') : if Region.wanted o (yielded ops a.tmps) = true then Oper.wp P o a w K Q else E := by
  have hw : Region.wanted o (yielded ops a.tmps) = true := by simp [Region.wanted, hgd]
  rw [if_pos hw]
  obtain ⟨w', hrun, h2, h3⟩ := run_copy_any (P := P) w dT sT o.type elem sz hu hs dp sp dLen dCap sLen sCap g off t cur hb cs k hk hc hpos hfit h1
  unfold Oper.wp
  simp [execOp, ho, resolve, invoke, builtin, hd, hsp, hrun, Result.andThen]
  exact h w' h2 h3

/-- make([]T, n): a new block, known whole. -/
theorem wpList_make_blk {w : World} {ops : Array Oper} {rest : List Oper} {o : Oper} {a : Act} {Q : Exit → Act → World → Prop} (hg : o.guard = none) (l c : Operand) (t : TypeId) (hop : o.op = Op.makeSlice t l c)
    (e : TypeId) (i : TypeInfo) (z : Value) (size : Nat) (h1 : P.underlying t = some (.slice e)) (h2 : P.info? e = some i) (h3 : i.zero = some z) (h4 : i.size = size)
    (kl kc : IntKind) (L C : Int) (n : Nat) (hl : a.eval l = .int kl L) (hc : a.eval c = .int kc C) (hL : L = (n : Int)) (hC : C = (n : Int)) (b2 : i.bytes * n ≤ 281474976710656) (b3 : n ≤ maxLen)
    (hK : wpList P ops Q rest (a.put o.dst (.slice (some ⟨w.heap.size, 0, none⟩) n n)) (w.alloc (.cells (madeCells z.cells (n * size)) e))) :
    wpList P ops Q (o :: rest) a w := by
  subst hL
  subst hC
  have hb' : (i.bytes : Int) * (n : Int) ≤ 281474976710656 := by
    have h : ((i.bytes * n : Nat) : Int) ≤ 281474976710656 := by omega
    rwa [Int.natCast_mul] at h
  have hr := run_make (P := P) w t e i z h1 h2 h3 kl kc n n (by omega) (Int.le_refl _) hb' (by simp [maxLen] at b3; omega)
  simp only [Int.toNat_natCast, h4] at hr
  refine wpList_plain hg fun K hK' => ?_
  unfold Oper.wp
  simp [execOp, hop, hl, hc, hr, Result.andThen]
  exact hK' _ _ hK
end
section
variable {P : Program} {ops : Array Oper} {rest : List Oper} {a : Act} {w : World} {Q : Exit → Act → World → Prop}
/-- Is this the operation that writes slot d? For an arm of a walk: '((with_reducible refine at_dst d ?_); ..)'. -/
theorem at_dst (d : Tmp) {op : Op} {ty : TypeId} {pos : String} {af : Array Edge} {gd : Option (Nat × Bool)} (h : wpList P ops Q (⟨some d, op, ty, pos, af, gd⟩ :: rest) a w) : wpList P ops Q (⟨some d, op, ty, pos, af, gd⟩ :: rest) a w := h
/-- Is this the store to what slot d points to? -/
theorem at_store (d : Tmp) {y : Operand} {ty t : TypeId} {pos : String} {af : Array Edge} {gd : Option (Nat × Bool)} (h : wpList P ops Q (⟨none, .store t (.tmp d) y, ty, pos, af, gd⟩ :: rest) a w) : wpList P ops Q (⟨none, .store t (.tmp d) y, ty, pos, af, gd⟩ :: rest) a w := h
end
end Go.Proofs.Ytdodogehlnchlaa

namespace Go.Proofs.Ytdodogehlnchlaa
open Go.RowKit
/-- A call of a Go function as one step of a region that draws its order. -/
theorem step_call {P : Program} {ops : Array Oper} {o : Oper} {a : Act} {w : World} {K : Act → World → Prop} {Q : Exit → Act → World → Prop} {E : Prop} (hgd : o.guard = none) (f : FuncId) (xs : Array Operand) (ts : Array TypeId)
    (ho : o.op = .call { callee := .value (.func f), args := xs, argTypes := ts }) (eg : ∀ args w, (callFunc f args).run P w = .ok (.enter f args) w) {R : Ending → World → Prop} (args : Array Value) (ha : xs.map a.eval = args) (hc : Calls P f args w R)
    (h : ∀ e w', R e w' → ∃ v, e = .returned v ∧ K (a.put o.dst v) w') : if Region.wanted o (yielded ops a.tmps) = true then Oper.wp P o a w K Q else E := by
  have hw : Region.wanted o (yielded ops a.tmps) = true := by simp [Region.wanted, hgd]
  rw [if_pos hw]
  have hrun : (execOp a.eval o).run P w = .ok (.enter f args) w := by
    unfold execOp
    subst ha
    simp [ho, resolve, invoke, Act.eval, Deferred.ofValue, eg]
  unfold Oper.wp
  rw [hrun, Oper.upon_enter]
  refine hc.mono fun e w' hh => ?_
  obtain ⟨v, rfl, hk⟩ := h e w' hh
  exact hk
end Go.Proofs.Ytdodogehlnchlaa

namespace Go.Proofs.Ytdodogehlnchlaa
open Go.RowKit
set_option linter.unusedVariables false

/-- From A to B: new blocks; of what lay from 'base' on only the blocks of f, and what is no cells, may have turned. -/
structure Turn (base : Nat) (f : Nat → Prop) (A B : World) : Prop where
  os : B.os = A.os
  tape : B.tape = A.tape
  output : B.output = A.output
  size : A.heap.size ≤ B.heap.size
  block : ∀ (k : Nat) (o : Obj), A.heap[k]? = some o → (k < base ∨ (¬ f k ∧ o.isCells = true)) → B.heap[k]? = some o
theorem Turn.mono {b b' : Nat} {f : Nat → Prop} {A B : World} (h : Turn b f A B) (hb : b' ≤ b) : Turn b' f A B :=
  ⟨h.os, h.tape, h.output, h.size, fun k o ho hk => h.block k o ho (hk.imp (fun h1 => by omega) id)⟩
theorem Turn.refl (b : Nat) (f : Nat → Prop) (A : World) : Turn b f A A := ⟨rfl, rfl, rfl, Nat.le_refl _, fun _ _ h _ => h⟩
theorem Turn.trans {b : Nat} {f g : Nat → Prop} {A B C : World} (h : Turn b f A B) (k : Turn b g B C) (hg : ∀ j, g j → f j ∨ A.heap.size ≤ j) : Turn b f A C :=
  ⟨k.os.trans h.os, k.tape.trans h.tape, k.output.trans h.output, Nat.le_trans h.size k.size, fun j o ho hj => k.block j o (h.block j o ho hj) (hj.imp id fun h2 => ⟨fun hgj => by
    rcases hg j hgj with h3 | h3
    · exact h2.1 h3
    · have := (Array.getElem?_eq_some_iff.1 ho).1; omega, h2.2⟩)⟩
theorem Turn.of_below {f : Nat → Prop} {b : Nat} {A B : World} (h : Below A.heap.size A B) : Turn b f A B :=
  ⟨h.os, h.tape, h.output, h.size, fun k o ho _ => by rw [h.block k (Array.getElem?_eq_some_iff.1 ho).1]; exact ho⟩
theorem Turn.of_grown {f : Nat → Prop} {b : Nat} {A B : World} {row : Option Nat} (h : A.grownBy B row) (hr : ∀ k, row = some k → b ≤ k ∧ (f k ∨ ∃ o, A.heap[k]? = some o ∧ o.isCells = false)) : Turn b f A B :=
  ⟨h.os, h.tape, h.output, h.size, fun k o ho hk => by
    refine (h.block k (Array.getElem?_eq_some_iff.1 ho).1 (fun e => ?_)).trans ho
    have h1 := hr k e.symm
    rcases hk with hk | hk
    · omega
    · rcases h1.2 with h2 | ⟨o', ho', hc⟩
      · exact hk.1 h2
      · rw [ho] at ho'; cases ho'; rw [hk.2] at hc; cases hc⟩
theorem Turn.drew {b : Nat} {f : Nat → Prop} {A B : World} (h : Turn b f A B) : Turn b f A B.drew := ⟨h.os, h.tape, h.output, h.size, h.block⟩
theorem Turn.drewN {b : Nat} {f : Nat → Prop} {A B : World} (h : Turn b f A B) (n : Nat) : Turn b f A (B.drewN n) := ⟨h.os, h.tape, h.output, h.size, h.block⟩
theorem Turn.alloc {b : Nat} {f : Nat → Prop} {A B : World} (h : Turn b f A B) (o : Obj) : Turn b f A (B.alloc o) :=
  h.trans (Turn.of_below ((Below.refl _ _).alloc (Nat.le_refl _) o) (f := f)) (fun _ h => .inl h)
theorem Turn.setCell {b : Nat} {f : Nat → Prop} {A B : World} (h : Turn b f A B) {k : Nat} (hb : b ≤ k) (hk : f k ∨ A.heap.size ≤ k) (v : Value) : Turn b f A (B.setCell ⟨k, 0, none⟩ v) :=
  h.trans (g := fun j => j = k) (Turn.of_grown (grownBy_setCell' B k v) (fun j e => by cases e; exact ⟨hb, .inl rfl⟩)) (fun j e => by subst e; exact hk)
theorem Turn.grown {b : Nat} {f : Nat → Prop} {A B C : World} {row : Option Nat} (h : Turn b f A B) (hg : B.grownBy C row) (hr : ∀ k, row = some k → b ≤ k ∧ (f k ∨ A.heap.size ≤ k)) : Turn b f A C :=
  h.trans (g := fun j => row = some j) (Turn.of_grown hg (fun j e => ⟨(hr j e).1, .inl e⟩)) (fun j e => (hr j e).2)

/-- What is said abides the iterator's turns; the iterator may count to its own what it makes. -/
def AbP {β : Type} (base : Nat) (J : β → (Nat → Prop) → World → Prop) : Prop :=
  ∀ s f f' A B, J s f A → Turn base f A B → (∀ k, f' k → f k ∨ (A.heap.size ≤ k ∧ k < B.heap.size)) → J s f' B
theorem AbP.and {β : Type} {b : Nat} {I J : β → (Nat → Prop) → World → Prop} (h : AbP b I) (k : AbP b J) : AbP b (fun s f W => I s f W ∧ J s f W) :=
  fun s f f' A B hs ht hf => ⟨h s f f' A B hs.1 ht hf, k s f f' A B hs.2 ht hf⟩
theorem AbP.none {β : Type} (b : Nat) : AbP b (fun (_ : β) _ _ => False) := fun _ _ _ _ _ h _ _ => h
theorem AbP.below {β : Type} {b n₀ : Nat} {w : World} (hn : n₀ ≤ b) (hw : n₀ ≤ w.heap.size) : AbP b (fun (_ : β) _ W => Below n₀ w W) :=
  fun s f f' A B hs ht hf => hs.trans ⟨ht.os, ht.tape, ht.output, ht.size, fun k hk => by
    have hsz := hs.size
    have hlt : k < A.heap.size := by omega
    rw [Array.getElem?_eq_getElem hlt]
    exact ht.block k _ (Array.getElem?_eq_getElem hlt) (.inl (by omega))⟩
/-- A box that lay ahead. -/
theorem AbP.boxed {β : Type} {b B : Nat} {t : TypeId} (v : β → Value) (h : B < b) : AbP b (fun s _ W => Boxed W B t (v s)) :=
  fun s f f' A B' hs ht hf => ht.block _ _ hs (.inl h)
/-- What speaks of no world. -/
theorem AbP.pure {β : Type} {b : Nat} (p : β → Prop) : AbP b (fun s _ _ => p s) := fun s _ _ _ _ h _ _ => h

/-- What a round that goes on leaves to the iterator. -/
structure Rk (base : Nat) (f : Nat → Prop) (A B : World) : Prop where
  below : Below 0 A B
  keeps : KeepsFrom base A B
  mine : ∀ k, f k → B.heap[k]? = A.heap[k]?
theorem Rk.refl (base : Nat) (f : Nat → Prop) (A : World) : Rk base f A A := ⟨Below.refl _ _, KeepsFrom.refl _ _, fun _ _ => rfl⟩
theorem Rk.trans {base : Nat} {f : Nat → Prop} {A B C : World} (h : Rk base f A B) (k : Rk base f B C) : Rk base f A C :=
  ⟨h.below.trans k.below, h.keeps.trans k.keeps, fun j hj => (k.mine j hj).trans (h.mine j hj)⟩
theorem Rk.setCell {base : Nat} {f : Nat → Prop} {A B : World} (h : Rk base f A B) {k : Nat} (hk : ¬ f k) (v : Value) : Rk base f A (B.setCell ⟨k, 0, none⟩ v) :=
  h.trans ⟨(Below.refl 0 B).setCell (p := ⟨k, 0, none⟩) (Nat.zero_le _) v, (KeepsOthers.setCell _ _ _).from _, fun j hj => Below.heap_setCell _ _ _ _ (fun e => hk (by subst e; exact hj))⟩
theorem Rk.of_below {base : Nat} {f : Nat → Prop} {A B : World} (h : Below A.heap.size A B) (hf : ∀ k, f k → k < A.heap.size) : Rk base f A B :=
  ⟨h.mono (Nat.zero_le _), ⟨h.size, fun k o _ ho _ => by rw [h.block k (Array.getElem?_eq_some_iff.1 ho).1]; exact ho⟩, fun k hk => h.block k (hf k hk)⟩
theorem Rk.drew {base : Nat} {f : Nat → Prop} {A B : World} (h : Rk base f A B) : Rk base f A B.drew := ⟨h.below.drew, ⟨h.keeps.size, h.keeps.same⟩, h.mine⟩
/-- An append to a row that is not the iterator's. -/
theorem Rk.grown {base : Nat} {f : Nat → Prop} {A B C : World} {row : Option Nat} (h : Rk base f A B) (hg : B.grownBy C row) (hf : ∀ k, f k → k < A.heap.size) (hr : ∀ k, row = some k → ¬ f k ∧ ∀ o, B.heap[k]? = some o → o.isCells = true) : Rk base f A C :=
  h.trans ⟨⟨hg.os, hg.tape, hg.output, hg.size, fun k hk => by omega⟩, ⟨hg.size, fun k o _ ho hc => (hg.block k (Array.getElem?_eq_some_iff.1 ho).1 (fun e => by rw [(hr k e.symm).2 o ho] at hc; cases hc)).trans ho⟩,
    fun k hk => hg.block k (by have := hf k hk; have := h.below.size; omega) (fun e => (hr k e.symm).1 hk)⟩

/-- The contract of an iterator that has state in cells; f0: what it counts to its own from the start (what its closure has captured, tables); El: what holds of each element. -/
def SeqP {α : Type} (F : Fence) (n : Nat) (P : Program) (g : Nat) (lb : Array Value) (encs : α → Array Value) (f0 : Nat → Prop) (El : α → Prop) (S Sp : List α → Prop) (N : Nat) (w : World) : Prop :=
  ∀ (l : Nat) (J Jx : List α → (Nat → Prop) → World → Prop) (W : World), w.heap.size ≤ W.heap.size → (∀ k, f0 k → W.heap[k]? = w.heap[k]?) → AbP W.heap.size J → AbP W.heap.size Jx →
    (∀ pre x f W1, J pre f W1 → pre.length < N → El x → YieldAt F (n - 1) P l (encs x) W1 fun e W' =>
      (e = .returned (.bool true) ∧ J (pre ++ [x]) f W' ∧ Rk W.heap.size f W1 W') ∨ (e = .returned (.bool false) ∧ Jx (pre ++ [x]) f W' ∧ KeepsFrom W.heap.size W1 W')) →
    J [] f0 W →
    CallsIn F n P g (#[.func (.yield l) #[] #[]] ++ lb) W fun e W' => (∃ v, e = .returned v) ∧ ((∃ xs f, S xs ∧ J xs f W') ∨ (∃ pre f, Sp pre ∧ Jx pre f W'))

/-- How a round may be left. -/
def postP {α : Type} (base : Nat) (I : List α → (Nat → Prop) → World → Prop) (Ix : Code → List α → (Nat → Prop) → World → Prop) (f : Nat → Prop) (xs : List α) (W : World) : Exit → Act → World → Prop
  | .normal, _, W' => Rk base f W W' ∧ I xs f W'
  | .ret, _, W' => KeepsFrom base W W' ∧ Ix .ret xs f W'
  | .exit id, _, W' => KeepsFrom base W W' ∧ Ix (.exit id) xs f W'
  | .goto t, _, W' => KeepsFrom base W W' ∧ Ix (.goto t) xs f W'
  | .panic _, _, _ => False
  | .outgrown, _, _ => False

variable {F : Fence} {n : Nat} {P : Program}

theorem AbP.put {β : Type} {b : Nat} {I : β → (Nat → Prop) → World → Prop} (h : AbP b I) {s : β} {f : Nat → Prop} {W : World} {l : Nat} {o : Obj} (o' : Obj) (hs : I s f W) (hl : b ≤ l) (ho : W.heap[l]? = some o) (hc : o.isCells = false) : I s f (W.putObj l o') :=
  h s f f W _ hs (Turn.of_grown (grownBy_putObj' W l o') (fun k e => by cases e; exact ⟨hl, .inr ⟨o, ho, hc⟩⟩)) (fun _ h => .inl h)

/-- The range over such an iterator, where no round is under way. -/
theorem range_priv {α : Type} {g : Operand} {ps : Array Tmp} {assign body : Code} {Q : Exit → Act → World → Prop} {a : Act} {w : World}
    (hro : F.round = none) (h1 : 1 ≤ n) {gf : Nat} {lb : Array Value} (hg : a.eval g = .func (.func gf) #[] lb) (hFg : F.fn gf) (eg : ∀ args w, (callFunc gf args).run P w = .ok (.enter gf args) w)
    {encs : α → Array Value} {f0 : Nat → Prop} {El : α → Prop} {S Sp : List α → Prop} {N : Nat} {w0 : World} (hseq : SeqP F (n - 1) P gf lb encs f0 El S Sp N w0)
    (hw0 : w0.heap.size ≤ w.heap.size) (hf0 : ∀ k, f0 k → k < w.heap.size ∧ w.heap[k]? = w0.heap[k]?) (hps : ∀ x, (encs x).size = ps.size)
    (I : List α → (Nat → Prop) → World → Prop) (Ix : Code → List α → (Nat → Prop) → World → Prop) (hI : AbP w.heap.size I) (hIx : ∀ c, AbP w.heap.size (Ix c)) (h0 : I [] f0 w) (a₁ : α → Act)
    (hassign : ∀ (l : Nat) (x : α) (W : World) (K : Act → World → Prop), K (a₁ x) W →
      assign.wpIn (F.inRound l) (n - 1 - 1) P (Exit.then K (fun _ _ _ => False)) { tmps := (ps.zip (encs x)).foldl (fun t (p, v) => t.setIfInBounds p v) a.tmps, defers := [] } W)
    (hbody : ∀ (l : Nat) (pre : List α) (x : α) (f : Nat → Prop) (W : World), (∀ k, f k → f0 k ∨ (w.heap.size + 2 ≤ k ∧ k < W.heap.size)) → w.heap.size + 2 ≤ W.heap.size → I pre f W → pre.length < N → El x →
      body.wpIn (F.inRound l) (n - 1 - 1) P (postP w.heap.size I Ix f (pre ++ [x]) W) (a₁ x) W)
    (hdone : ∀ (D : Nat) (xs : List α) (f : Nat → Prop) (W : World), w.heap.size ≤ D → S xs → I xs f W → W.heap[D]? = some (.deferred (some [])) → Q .normal { a with defers := { target := .collected D, args := #[] } :: a.defers } W)
    (hstop : ∀ (D : Nat) (c : Code) (pre : List α) (f : Nat → Prop) (W : World), w.heap.size ≤ D → Sp pre → Ix c pre f W → W.heap[D]? = some (.deferred (some [])) → c.wpIn F n P Q { a with defers := { target := .collected D, args := #[] } :: a.defers } W) :
    (Code.rangeFunc g ps assign body).wpIn F n P Q a w := by
  refine wpIn_rangeFunc fun fn hfn => ?_
  rw [hro]
  -- the record as it looks in a state
  let rec' : LoopState → Option Code → Obj := fun st pe => .loop { state := st, pending := pe, fn, tmps := a.tmps, params := ps, assign, body, defers := w.heap.size }
  generalize hW1 : (w.alloc (.deferred (some []))).alloc (rec' .ready none) = W1
  have hs1 : W1.heap.size = w.heap.size + 2 := by rw [← hW1]; simp
  have hb1 : Below w.heap.size w W1 := by rw [← hW1]; exact ((Below.refl _ w).alloc (Nat.le_refl _) _).alloc (by simp) _
  have hD1 : W1.heap[w.heap.size]? = some (.deferred (some [])) := by
    rw [← hW1, Below.heap_alloc _ _ _ (by simp)]; exact World.alloc_heap_new w _
  have hL1 : W1.heap[w.heap.size + 1]? = some (rec' .ready none) := by
    have := World.alloc_heap_new (w.alloc (.deferred (some []))) (rec' .ready none)
    rw [World.size_alloc] at this
    rw [← hW1]; exact this
  refine ⟨w.heap.size + 1, [{ target := .collected w.heap.size, args := #[] }], W1, { target := .fn (.func gf) lb, args := #[.func (.yield (w.heap.size + 1)) #[] #[]] }, W1, gf,
    #[.func (.yield (w.heap.size + 1)) #[] #[]] ++ lb, W1, ?_, ?_, ?_, ?_, fun _ => h1, ?_⟩
  · rw [← hW1]; exact run_enterLoop_outer _ _ _ _ _
  · simp only [resolve, hg]
    simp [go_sem]
  · intro f' hf'
    simp [Target.leads] at hf'
    subst hf'
    exact hFg
  · simp [invoke, go_sem, eg]
  have hfs : ∀ k, f0 k → k < w.heap.size := fun k hk => (hf0 k hk).1
  have lift : ∀ {β : Type} (K : β → (Nat → Prop) → World → Prop) (L : Obj), L.isCells = false → AbP w.heap.size K →
      AbP W1.heap.size (fun s f W => K s f W ∧ (∀ k, f k → f0 k ∨ (w.heap.size + 2 ≤ k ∧ k < W.heap.size)) ∧ W.heap[w.heap.size + 1]? = some L ∧ W.heap[w.heap.size]? = some (.deferred (some []))) := by
    intro β K L hL hK s f f' A B hs ht hf
    refine ⟨hK s f f' A B hs.1 (ht.mono (by omega)) hf, fun k hk => ?_, ht.block _ _ hs.2.2.1 (.inl (by omega)), ht.block _ _ hs.2.2.2 (.inl (by omega))⟩
    have hAs : w.heap.size + 1 < A.heap.size := (Array.getElem?_eq_some_iff.1 hs.2.2.1).1
    have hsz := ht.size
    rcases hf k hk with h | h
    · rcases hs.2.1 k h with h | h
      · exact .inl h
      · exact .inr ⟨h.1, by omega⟩
    · exact .inr ⟨by omega, h.2⟩
  refine (hseq (w.heap.size + 1)
    (fun s f W => I s f W ∧ (∀ k, f k → f0 k ∨ (w.heap.size + 2 ≤ k ∧ k < W.heap.size)) ∧ W.heap[w.heap.size + 1]? = some (rec' .ready none) ∧ W.heap[w.heap.size]? = some (.deferred (some [])))
    (fun s f W => ∃ c, Ix c s f W ∧ (∀ k, f k → f0 k ∨ (w.heap.size + 2 ≤ k ∧ k < W.heap.size)) ∧ W.heap[w.heap.size + 1]? = some (rec' .done (some c)) ∧ W.heap[w.heap.size]? = some (.deferred (some [])))
    W1 (by omega) (fun k hk => (hb1.block k (hfs k hk)).trans (hf0 k hk).2) (lift I _ rfl hI)
    (fun s f f' A B hs ht hf => hs.elim fun c hc => ⟨c, lift (Ix c) _ rfl (hIx c) s f f' A B hc ht hf⟩) ?_
    ⟨hI [] f0 f0 w W1 h0 (Turn.of_below hb1) (fun _ h => .inl h), fun k h => .inl h, hL1, hD1⟩).mono ?_
  · -- one round
    rintro pre x f W ⟨hi, hf, hl, hk⟩ hlen hel
    have hlt : w.heap.size + 1 < W.heap.size := (Array.getElem?_eq_some_iff.1 hl).1
    have hy := run_yield (P := P) (args := encs x) hl (hps x)
    refine ⟨fn, _, assign, body, hy, roundIn_of_wpIn hfn (hassign _ x W _ ⟨_, run_beginRound hl rfl, ?_⟩)⟩
    generalize hWb : W.putObj (w.heap.size + 1) (rec' .busy none) = Wb
    have hlb : Wb.heap[w.heap.size + 1]? = some (rec' .busy none) := by rw [← hWb]; exact World.putObj_heap_same hlt
    have hkb : Wb.heap[w.heap.size]? = some (.deferred (some [])) := by rw [← hWb]; exact (World.putObj_heap_other (by omega)).trans hk
    have hsb : Wb.heap.size = W.heap.size := by rw [← hWb]; simp
    have hib : I pre f Wb := by rw [← hWb]; exact hI.put _ hi (by omega) hl rfl
    have put_rk : ∀ (X : World) (o' : Obj), Rk W1.heap.size f X (X.putObj (w.heap.size + 1) o') := fun X o' =>
      ⟨⟨rfl, rfl, rfl, by simp, fun k hk => by omega⟩, ⟨by simp, fun k o hk ho _ => (World.putObj_heap_other (by omega)).trans ho⟩, fun k hk => World.putObj_heap_other (by
        rcases hf k hk with h | h
        · have := hfs k h; omega
        · omega)⟩
    have hrb : Rk W1.heap.size f W Wb := by rw [← hWb]; exact put_rk W _
    refine wpIn_mono (hbody _ pre x f Wb (fun k hk => by rw [hsb]; exact hf k hk) (by omega) hib hlen hel) ?_
    have ends : ∀ (jump : Option Code) (W3 : World), KeepsFrom w.heap.size Wb W3 → ∃ W4, W4 = W3.putObj (w.heap.size + 1) (rec' (if jump.isNone then .ready else .done) jump) ∧
        (Instr.endRound (w.heap.size + 1) jump).run P W3 = .ok (.bool jump.isNone) W4 ∧ W3.heap[w.heap.size + 1]? = some (rec' .busy none) ∧
        W4.heap[w.heap.size + 1]? = some (rec' (if jump.isNone then .ready else .done) jump) ∧ W4.heap[w.heap.size]? = some (.deferred (some [])) ∧ (∀ k, f k → f0 k ∨ (w.heap.size + 2 ≤ k ∧ k < W4.heap.size)) := by
      intro jump W3 hk3
      have hl3 := hk3.same _ _ (by omega) hlb rfl
      have hsz3 := hk3.size
      refine ⟨_, rfl, run_endRound (P := P) jump hl3, hl3, World.putObj_heap_same (Array.getElem?_eq_some_iff.1 hl3).1, (World.putObj_heap_other (by omega)).trans (hk3.same _ _ (Nat.le_refl _) hkb rfl), fun k hk => ?_⟩
      rcases hf k hk with h | h
      · exact .inl h
      · exact .inr ⟨h.1, by simp; omega⟩
    have jx : ∀ (c : Code) (W3 : World), KeepsFrom w.heap.size Wb W3 → Ix c (pre ++ [x]) f W3 → ∃ v W4, (Instr.endRound (w.heap.size + 1) (some c)).run P W3 = .ok v W4 ∧
        ((Ending.returned v = .returned (.bool true) ∧ (I (pre ++ [x]) f W4 ∧ (∀ k, f k → f0 k ∨ (w.heap.size + 2 ≤ k ∧ k < W4.heap.size)) ∧ W4.heap[w.heap.size + 1]? = some (rec' .ready none) ∧ W4.heap[w.heap.size]? = some (.deferred (some []))) ∧ Rk W1.heap.size f W W4) ∨
         (Ending.returned v = .returned (.bool false) ∧ (∃ c, Ix c (pre ++ [x]) f W4 ∧ (∀ k, f k → f0 k ∨ (w.heap.size + 2 ≤ k ∧ k < W4.heap.size)) ∧ W4.heap[w.heap.size + 1]? = some (rec' .done (some c)) ∧ W4.heap[w.heap.size]? = some (.deferred (some []))) ∧ KeepsFrom W1.heap.size W W4)) := by
      intro c W3 hk3 hx3
      obtain ⟨W4, e4, hr, hl3, hl4, hk4, hf4⟩ := ends (some c) W3 hk3
      refine ⟨_, W4, hr, .inr ⟨rfl, ⟨c, ?_, hf4, hl4, hk4⟩, ?_⟩⟩
      · rw [e4]
        exact (hIx c).put _ hx3 (by omega) hl3 rfl
      · rw [e4]
        exact (hrb.keeps.trans ⟨hk3.size, fun k o hk ho hc => hk3.same k o (by omega) ho hc⟩).trans (put_rk W3 _).keeps
    intro e a3 W3 hp
    cases e with
    | normal =>
      obtain ⟨hr3, hi3⟩ := hp
      obtain ⟨W4, e4, hr, hl3, hl4, hk4, hf4⟩ := ends none W3 hr3.keeps
      refine ⟨_, W4, hr, .inl ⟨rfl, ⟨?_, hf4, hl4, hk4⟩, ?_⟩⟩
      · rw [e4]; exact hI.put _ hi3 (by omega) hl3 rfl
      · have h2 : Rk W1.heap.size f Wb W3 := ⟨hr3.below, ⟨hr3.keeps.size, fun k o hk ho hc => hr3.keeps.same k o (by omega) ho hc⟩, hr3.mine⟩
        rw [e4]
        exact (hrb.trans h2).trans (put_rk W3 _)
    | ret => exact jx .ret W3 hp.1 hp.2
    | exit id => exact jx (.exit id) W3 hp.1 hp.2
    | goto t => exact jx (.goto t) W3 hp.1 hp.2
    | panic ch => exact hp.elim
    | outgrown => exact hp.elim
  · -- behind the iterator
    rintro e W2 ⟨⟨v, rfl⟩, (⟨xs, f, hS, hi, hf, hl, hk⟩ | ⟨pre, f, hSp, c, hi, hf, hl, hk⟩)⟩
    · exact ⟨none, _, run_endLoop (P := P) hl (fun h => by cases h), hdone _ xs f _ (Nat.le_refl _) hS (hI.put _ hi (by omega) hl rfl) ((World.putObj_heap_other (by omega)).trans hk)⟩
    · exact ⟨some c, _, run_endLoop (P := P) hl (fun h => by cases h), hstop _ c pre f _ (Nat.le_refl _) hSp ((hIx c).put _ hi (by omega) hl rfl) ((World.putObj_heap_other (by omega)).trans hk)⟩
end Go.Proofs.Ytdodogehlnchlaa

namespace Go.Proofs.Ytdodogehlnchlaa
open Go.RowKit
set_option linter.unusedVariables false

def blk (A : Option Addr) : Option Nat := A.map (·.block)
theorem ownBlock_slice (A : Option Addr) (n c : Nat) : (Value.slice A n c).ownBlock = blk A := by cases A <;> rfl

/-- A row of bytes of the call's own, from block 'base' on. -/
def OB (w : World) (base : Nat) (A : Option Addr) (n c : Nat) (l : List UInt8) : Prop := w.ownsRow base 5 1 (.slice A n c) n (bv l) ∧ (A = none → c = 0)
namespace OB
variable {w w' : World} {base n c : Nat} {A : Option Addr} {l : List UInt8}
theorem sl (h : OB w base A n c l) : Sl w w.heap.size A (bv l) := Sl.own h.1
theorem len (h : OB w base A n c l) : n = l.length := by have := h.1.1; simp [bv] at this; omega
theorem blk_lt (h : OB w base A n c l) (g : Nat) (hg : blk A = some g) : base ≤ g ∧ g < w.heap.size := h.1.lt g (by rw [ownBlock_slice]; exact hg)
theorem kept {row : Option Nat} (h : OB w base A n c l) (hg : w.grownBy w' row) (hne : blk A = none ∨ blk A ≠ row) : OB w' base A n c l := ⟨h.1.kept hg (by rw [ownBlock_slice]; exact hne), h.2⟩
theorem alloc (h : OB w base A n c l) (o : Obj) : OB (w.alloc o) base A n c l := ⟨h.1.alloc o, h.2⟩
theorem drew (h : OB w base A n c l) : OB w.drew base A n c l := ⟨h.1.drew, h.2⟩
theorem drewN (h : OB w base A n c l) (k : Nat) : OB (w.drewN k) base A n c l := by
  unfold OB World.ownsRow at *
  rw [World.heap_drewN]
  exact h
theorem none_ (w : World) (base : Nat) : OB w base none 0 0 [] := ⟨World.ownsRow_nil w base _ _, fun _ => rfl⟩
theorem lit (w : World) (l : List UInt8) (hb : base ≤ w.heap.size) (hl : l.length ≤ 1000000) : OB (w.alloc (.cells (bv l).toArray 5)) base (some ⟨w.heap.size, 0, none⟩) l.length l.length l := by
  refine ⟨?_, fun h => by cases h⟩
  have := World.ownsRow_lit (base := base) (e := 5) (size := 1) w (bv l).toArray l.length hb (by simp only [maxLen]; omega) (by simp [bv])
  simpa using this
theorem below {B : Nat} (h : OB w base A n c l) (hb : Below B w w') (hB : ∀ g, blk A = some g → g < B) : OB w' base A n c l := by
  refine ⟨?_, h.2⟩
  obtain ⟨hl, ⟨hv, hn⟩ | ⟨g, cap, cur, hv, h1, h2, h3⟩⟩ := h.1
  · exact ⟨hl, .inl ⟨hv, hn⟩⟩
  · have hg : g < B := hB g (by injection hv with hA; subst hA; rfl)
    exact ⟨hl, .inr ⟨g, cap, cur, hv, h1, by rw [hb.block g hg]; exact h2, h3⟩⟩
theorem weaken {base' : Nat} (h : OB w base A n c l) (hb : base' ≤ base) : OB w base' A n c l := by
  refine ⟨⟨h.1.1, ?_⟩, h.2⟩
  rcases h.1.2 with e | ⟨g, cap, cur, hv, h1, h2⟩
  · exact .inl e
  · exact .inr ⟨g, cap, cur, hv, Nat.le_trans hb h1, h2⟩
end OB

theorem u8_info : (Try.prog.info? 5).map (fun i => (i.zero, i.size, i.bytes)) = some (some (.int .u8 0), 1, 1) := by kernel_rfl

/-- Two rows that lie apart, each appended to in turn, lie apart still. -/
theorem OB.two {wr w6 w7 : World} {B0 n4 c4 n5 c5 n6 c6 n7 c7 : Nat} {A4 A5 A6 A7 : Option Addr} {l4 l5 l6 l7 : List UInt8} {o o' : Obj}
    (h4 : OB wr B0 A4 n4 c4 l4) (h5 : OB wr B0 A5 n5 c5 l5) (hne : blk A4 ≠ blk A5) (hb0 : B0 ≤ wr.heap.size)
    (h6 : OB w6 B0 A6 n6 c6 l6) (hg6 : (wr.alloc o).grownBy w6 (blk A4)) (hat6 : blk A6 = blk A4 ∨ blk A6 = some (wr.alloc o).heap.size)
    (h7 : OB w7 B0 A7 n7 c7 l7) (hg7 : (w6.alloc o').grownBy w7 (blk A5)) (hat7 : blk A7 = blk A5 ∨ blk A7 = some (w6.alloc o').heap.size) :
    OB w7 B0 A6 n6 c6 l6 ∧ blk A6 ≠ blk A7 ∧ Below B0 wr w7 := by
  have s6 : wr.heap.size + 1 ≤ w6.heap.size := by have := hg6.size; simp at this; omega
  have h65 : blk A6 = none ∨ blk A6 ≠ blk A5 := by
    rcases hat6 with h | h
    · rw [h]; exact .inr hne
    · rw [h]; refine .inr fun e => ?_
      have := (h5.blk_lt _ e.symm).2
      simp at this
      omega
  have b6 : Below B0 wr w6 := ((Below.refl _ _).alloc hb0 _).grown hg6 (by simp; omega) (fun g hg => (h4.blk_lt g hg).1)
  refine ⟨(h6.alloc _).kept hg7 h65, ?_, (b6.alloc (by omega) _).grown hg7 (by simp; omega) (fun g hg => (h5.blk_lt g hg).1)⟩
  intro e
  rcases hat7 with h | h
  · rcases hat6 with h' | h'
    · exact hne (by rw [← h', e, h])
    · have := (h5.blk_lt _ (by rw [← h, ← e, h'])).2
      simp at this
      omega
  · have := (h6.blk_lt _ (by rw [e, h])).2
    simp at this
    omega

end Go.Proofs.Ytdodogehlnchlaa

namespace Go.Proofs.Ytdodogehlnchlaa
open Go.RowKit
set_option linter.unusedVariables false

/-- A row of elements of type e of the call's own, from block 'base' on. -/
def OR (w : World) (base : Nat) (e : TypeId) (A : Option Addr) (n c : Nat) (xs : List Value) : Prop := w.ownsRow base e 1 (.slice A n c) n xs ∧ (A = none → c = 0)
namespace OR
variable {w w' : World} {base n c : Nat} {e : TypeId} {A : Option Addr} {xs : List Value}
theorem sl (h : OR w base e A n c xs) : Sl w w.heap.size A xs := Sl.own h.1
theorem len (h : OR w base e A n c xs) : n = xs.length := by have := h.1.1; omega
theorem blk_lt (h : OR w base e A n c xs) (g : Nat) (hg : blk A = some g) : base ≤ g ∧ g < w.heap.size := h.1.lt g (by rw [ownBlock_slice]; exact hg)
theorem kept {row : Option Nat} (h : OR w base e A n c xs) (hg : w.grownBy w' row) (hne : blk A = none ∨ blk A ≠ row) : OR w' base e A n c xs := ⟨h.1.kept hg (by rw [ownBlock_slice]; exact hne), h.2⟩
theorem alloc (h : OR w base e A n c xs) (o : Obj) : OR (w.alloc o) base e A n c xs := ⟨h.1.alloc o, h.2⟩
theorem drew (h : OR w base e A n c xs) : OR w.drew base e A n c xs := ⟨h.1.drew, h.2⟩
theorem none_ (w : World) (base : Nat) (e : TypeId) : OR w base e none 0 0 [] := ⟨World.ownsRow_nil w base _ _, fun _ => rfl⟩
theorem below {B : Nat} (h : OR w base e A n c xs) (hb : Below B w w') (hB : ∀ g, blk A = some g → g < B) : OR w' base e A n c xs := by
  refine ⟨?_, h.2⟩
  obtain ⟨hl, ⟨hv, hn⟩ | ⟨g, cap, cur, hv, h1, h2, h3⟩⟩ := h.1
  · exact ⟨hl, .inl ⟨hv, hn⟩⟩
  · have hg : g < B := hB g (by injection hv with hA; subst hA; rfl)
    exact ⟨hl, .inr ⟨g, cap, cur, hv, h1, by rw [hb.block g hg]; exact h2, h3⟩⟩
/-- Rows of different elements share no block. -/
theorem apart {base' n' c' : Nat} {e' : TypeId} {A' : Option Addr} {xs' : List Value} (h : OR w base e A n c xs) (h' : OR w base' e' A' n' c' xs') (hne : e ≠ e') : blk A = none ∨ blk A ≠ blk A' := by
  obtain ⟨hl, ⟨hv, hn⟩ | ⟨g, cap, cur, hv, h1, h2, h3⟩⟩ := h.1
  · injection hv with hA; subst hA; exact .inl rfl
  · injection hv with hA; subst hA
    obtain ⟨hl', ⟨hv', hn'⟩ | ⟨g', cap', cur', hv', h1', h2', h3'⟩⟩ := h'.1
    · injection hv' with hA'; subst hA'; exact .inr (fun h => by cases h)
    · injection hv' with hA'; subst hA'
      refine .inr fun h => ?_
      have : g = g' := by simpa [blk] using h
      subst this
      rw [h2] at h2'
      injection h2' with h2'
      injection h2' with _ he
      exact hne he
end OR

theorem run_app {T e : TypeId} {z : Value} {bytes : Nat} (hT : Try.prog.underlying T = some (.slice e)) (hI : (Try.prog.info? e).map (fun i => (i.zero, i.size, i.bytes)) = some (some z, 1, bytes)) (hz : z.cells.size = 1) (hby : bytes ≤ 64)
    (w : World) (ty : TypeId) (base : Nat) (A : Option Addr) (n c : Nat) (xs : List Value) (hown : OR w base e A n c xs)
    (X : Option Addr) (m d : Nat) (k : List Value) (B : Nat) (hS : Sl w B X k) (hm : m = k.length) (hnil : X = none → d = 0) (h1 : ∀ u ∈ k, u.oneCell' = true) (N : Nat) (hN : N = n + m) (hl : N ≤ 100000000) (hbase : base ≤ w.heap.size) :
    ∃ A' c' w', (Builtin.append_ #[T, T] ty #[.slice A n c, .slice X m d]).run Try.prog w = .ok (.slice A' N c') w' ∧ OR w' base e A' N c' (xs ++ k) ∧ w.grownBy w' (blk A) ∧ (blk A' = blk A ∨ blk A' = some w.heap.size) := by
  obtain ⟨i0, hi0, hz0, hz1, hz2⟩ := info_parts hI
  subst hN
  have hbb : (n + m) * bytes ≤ 140737488355328 := by
    have : (n + m) * bytes ≤ 100000000 * 64 := Nat.mul_le_mul hl hby
    omega
  obtain ⟨v', w', hrun, h2, h3, h4⟩ := run_append_sl (P := Try.prog) w base T ty e i0 z 1 bytes hT hi0 hz0 hz1 hz2 hz (by omega) _ n xs hown.1 B X m d k hS (by omega) hnil h1 (by simp only [maxLen]; omega) hbb hbase
  obtain ⟨A', c', rfl, hn', _⟩ := own_of h2
  simp only [ownBlock_slice] at h3 h4
  exact ⟨A', c', w', hrun, ⟨h2, hn'⟩, h3, h4⟩

theorem wpList_app {T e : TypeId} {z : Value} {bytes : Nat} (hT : Try.prog.underlying T = some (.slice e)) (hI : (Try.prog.info? e).map (fun i => (i.zero, i.size, i.bytes)) = some (some z, 1, bytes)) (hz : z.cells.size = 1) (hby : bytes ≤ 64)
    (w : World) {ops : Array Oper} {rest : List Oper} {o : Oper} {a : Act} {Q : Exit → Act → World → Prop} (hgd : o.guard = none) (s x : Operand)
    (ho : o.op = .call { callee := .builtin .append, args := #[s, x], argTypes := #[T, T] })
    (base : Nat) (A : Option Addr) (n c : Nat) (xs : List Value) (hs : a.eval s = .slice A n c) (hown : OR w base e A n c xs)
    (X : Option Addr) (m d : Nat) (k : List Value) (B : Nat) (hx : a.eval x = .slice X m d) (hS : Sl w B X k) (hm : m = k.length) (hnil : X = none → d = 0) (h1 : ∀ u ∈ k, u.oneCell' = true) (N : Nat) (hN : N = n + m) (hl : N ≤ 100000000) (hbase : base ≤ w.heap.size)
    (h : ∀ A' c' w', OR w' base e A' N c' (xs ++ k) → w.grownBy w' (blk A) → (blk A' = blk A ∨ blk A' = some w.heap.size) → wpList Try.prog ops Q rest (a.put o.dst (.slice A' N c')) w') :
    wpList Try.prog ops Q (o :: rest) a w := by
  refine wpList_plain hgd fun K hK => ?_
  obtain ⟨A', c', w', hrun, h2, h3, h4⟩ := run_app hT hI hz hby w o.type base A n c xs hown X m d k B hS hm hnil h1 N hN hl hbase
  unfold Oper.wp execOp
  simp only [ho, resolve, invoke, builtin, Sem.run_bind, Sem.run_pure, Result.andThen_ok, List.map_toArray, List.map_cons, List.map_nil, hs, hx, hrun]
  exact hK _ _ (h A' c' w' h2 h3 h4)

theorem i32_info : (Try.prog.info? 21).map (fun i => (i.zero, i.size, i.bytes)) = some (some (.int .i32 0), 1, 4) := by kernel_rfl
theorem i64_info : (Try.prog.info? 3).map (fun i => (i.zero, i.size, i.bytes)) = some (some (.int .i64 0), 1, 8) := by kernel_rfl
end Go.Proofs.Ytdodogehlnchlaa

