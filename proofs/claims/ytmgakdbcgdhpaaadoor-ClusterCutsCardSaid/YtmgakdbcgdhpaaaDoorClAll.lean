/-
  Walks: cluster.All's iterator.
-/
import Derived.Test.YtmgakdbcgdhpaaaDoorClJoin
import Derived.Test.YtmgakdbcgdhpaaaDoorIterP
import Derived.Test.YtmgakdbcgdhpaaaDoorRnRunes
import Derived.Test.YtmgakdbcgdhpaaaDoorRnTwo
import Derived.Test.YtmgakdbcgdhpaaaDoorWdRef
import Derived.WalkSmall
namespace Go.Proofs.YtmgakdbcgdhpaaaDoor
open Go.RowKit Go.Shelf
attribute [local go_sem] Oper.semAt_some
set_option linter.unusedVariables false

def encC (x : Int × List UInt8) : Array Value := #[.int .i64 x.1, .string ⟨x.2.toArray⟩]

theorem YieldAt.deep {m : Nat} (m' : Nat) {P : Program} {l : Nat} {args : Array Value} {W : World} {R : Ending → World → Prop} (h : YieldAt Fence.wide m P l args W R) : YieldAt Fence.wide m' P l args W R := by
  obtain ⟨fn, tmps, assign, body, hy, hR⟩ := h
  exact ⟨fn, tmps, assign, body, hy, hR.1, fun c cs _ => hR.2 c cs (fun d h => by cases h)⟩
theorem RoundIn.inR {F : Fence} {m : Nat} {P : Program} {l : Nat} {f : FuncId} {tmps : Array Value} {assign body : Code} {w : World} {R : Ending → World → Prop} (l' : Nat) (h : RoundIn F m P l f tmps assign body w R) : RoundIn (F.inRound l') m P l f tmps assign body w R := h

/-- A row that is cut to nothing is still the call's own. -/
theorem OB.cut0 {w : World} {base n c : Nat} {A : Option Addr} {l : List UInt8} (h : OB w base A n c l) : OB w base A 0 c [] := by
  obtain ⟨⟨hl, hv⟩, hn⟩ := h
  refine ⟨⟨rfl, ?_⟩, hn⟩
  rcases hv with ⟨hv, h0⟩ | ⟨g, cap, cur, hv, h1, h2, h3, h4, h5, h6⟩
  · injection hv with hA hn' hc
    subst hA hc
    exact .inl ⟨rfl, rfl⟩
  · injection hv with hA hn' hc
    subst hA hc
    exact .inr ⟨g, c, cur, rfl, h1, h2, Nat.zero_le _, h4, h5, by simp [bv]⟩

/-- The tables, in a world in which their blocks lie as they lay. -/
theorem Tabs.same {w w' : World} (h : Tabs w) (hm : w'.heap[1]? = w.heap[1]?) (hw : w'.heap[0]? = w.heap[0]?) (hs : w.heap.size ≤ w'.heap.size) : Tabs w' :=
  ⟨fun k x hx => ⟨(World.cell?_of_block (w := w) (a := ⟨1, 2 * k, none⟩) hm).trans (h.mt k x hx).1, (World.cell?_of_block (w := w) (a := ⟨1, 2 * k + 1, none⟩) hm).trans (h.mt k x hx).2⟩,
   fun k x hx => ⟨(World.cell?_of_block (w := w) (a := ⟨0, 2 * k, none⟩) hw).trans (h.wt k x hx).1, (World.cell?_of_block (w := w) (a := ⟨0, 2 * k + 1, none⟩) hw).trans (h.wt k x hx).2⟩,
   Nat.lt_of_lt_of_le h.mg hs, Nat.lt_of_lt_of_le h.wg hs⟩

/-- The iterator's cells: the boxes of yield, open, ahead, columns and of the text, and open's row. -/
structure Cl (h : Nat) (f : Nat → Prop) (W : World) (l : Nat) (s : ByteArray) (A : Option Addr) (n c : Nat) (k : List UInt8) (v1 : Value) (a2 a3 : Int) (w : World) : Prop where
  turn : Turn h f W w
  keeps : KeepsOthers W w
  b0 : Boxed w h 80 (.func (.yield l) #[] #[])
  b1 : Boxed w (h + 1) 66 v1
  b2 : Boxed w (h + 1 + 1) 3 (.int .i64 a2)
  b3 : Boxed w (h + 1 + 1 + 1) 3 (.int .i64 a3)
  b4 : Boxed w (h + 1 + 1 + 1 + 1) 9 (.string s)
  row : OB w (h + 5) A n c k
  mine : ∀ g, blk A = some g → f g ∨ W.heap.size ≤ g
  sz : h + 5 ≤ w.heap.size
  fb : f (h + 1) ∧ f (h + 1 + 1) ∧ f (h + 1 + 1 + 1)
  tabs : Tabs w
  tg : 1 < h ∧ 0 < h
namespace Cl
variable {h : Nat} {f : Nat → Prop} {W w w' : World} {l : Nat} {s : ByteArray} {A A' : Option Addr} {n c n' c' : Nat} {k k' : List UInt8} {v1 : Value} {a2 a3 : Int}
theorem alloc (q : Cl h f W l s A n c k v1 a2 a3 w) (o : Obj) : Cl h f W l s A n c k v1 a2 a3 (w.alloc o) :=
  ⟨q.turn.alloc o, q.keeps.trans (KeepsOthers.alloc _ _), q.b0.alloc o, q.b1.alloc o, q.b2.alloc o, q.b3.alloc o, q.b4.alloc o, q.row.alloc o, q.mine, by have := q.sz; simp; omega, q.fb, q.tabs.below ((Below.refl _ _).alloc (Nat.le_refl _) o), q.tg⟩
theorem drew (q : Cl h f W l s A n c k v1 a2 a3 w) : Cl h f W l s A n c k v1 a2 a3 w.drew :=
  ⟨q.turn.drew, q.keeps.trans (KeepsOthers.drew _), q.b0, q.b1, q.b2, q.b3, q.b4, q.row.drew, q.mine, q.sz, q.fb, q.tabs.below ((Below.refl _ _).drew), q.tg⟩
theorem below (q : Cl h f W l s A n c k v1 a2 a3 w) (hb : Below w.heap.size w w') : Cl h f W l s A n c k v1 a2 a3 w' :=
  ⟨q.turn.trans (Turn.of_below hb (f := f)) (fun _ h => .inl h), q.keeps.trans (keeps_of_below hb), q.b0.kept (grown_of_below hb) (by simp), q.b1.kept (grown_of_below hb) (by simp), q.b2.kept (grown_of_below hb) (by simp), q.b3.kept (grown_of_below hb) (by simp), q.b4.kept (grown_of_below hb) (by simp),
   q.row.below hb (fun g hg => (q.row.blk_lt g hg).2), q.mine, Nat.le_trans q.sz hb.size, q.fb, q.tabs.below hb, q.tg⟩
/-- open's row has grown, or has become another one. -/
theorem app (q : Cl h f W l s A n c k v1 a2 a3 w) (hg : w.grownBy w' (blk A)) (r : OB w' (h + 5) A' n' c' k') (hm : ∀ g, blk A' = some g → blk A = some g ∨ w.heap.size ≤ g) : Cl h f W l s A' n' c' k' v1 a2 a3 w' := by
  have hb : ∀ B, B < h + 5 → some B ≠ blk A := fun B hB e => by have := (q.row.blk_lt B e.symm).1; omega
  have hsz := q.sz
  have htg := q.tg
  refine ⟨q.turn.grown hg (fun g e => ⟨by have := (q.row.blk_lt g e).1; omega, q.mine g e⟩), q.keeps.trans (KeepsOthers.of_grownBy hg ?_), q.b0.kept hg (hb _ (by omega)), q.b1.kept hg (hb _ (by omega)), q.b2.kept hg (hb _ (by omega)), q.b3.kept hg (hb _ (by omega)), q.b4.kept hg (hb _ (by omega)), r, ?_, by have := hg.size; omega, q.fb, ?_, q.tg⟩
  · exact OR.isCells (e := 5) (xs := bv k) q.row
  · intro g e
    rcases hm g e with h1 | h1
    · exact q.mine g h1
    · exact .inr (by have := q.turn.size; omega)
  · exact q.tabs.same (hg.block _ (by omega) (hb _ (by omega))) (hg.block _ (by omega) (hb _ (by omega))) hg.size
theorem ne_row (q : Cl h f W l s A n c k v1 a2 a3 w) {B : Nat} (hB : B < h + 5) : blk A = none ∨ blk A ≠ some B := .inr fun e => by have := (q.row.blk_lt B e).1; omega
theorem tabs_set (q : Cl h f W l s A n c k v1 a2 a3 w) {B : Nat} (hB : h ≤ B) (v : Value) : Tabs (w.setCell ⟨B, 0, none⟩ v) :=
  q.tabs.same (Below.heap_setCell _ _ _ _ (by have := q.tg; show _ ≠ B; omega)) (Below.heap_setCell _ _ _ _ (by have := q.tg; show _ ≠ B; omega)) (grownBy_setCell' w B v).size
theorem set1 (q : Cl h f W l s A n c k v1 a2 a3 w) (v : Value) : Cl h f W l s A n c k v a2 a3 (w.setCell ⟨h + 1, 0, none⟩ v) :=
  ⟨q.turn.setCell (by omega) (.inl q.fb.1) v, q.keeps.trans (KeepsOthers.setCell _ _ _), q.b0.other (by omega) v, q.b1.set v, q.b2.other (by omega) v, q.b3.other (by omega) v, q.b4.other (by omega) v, q.row.kept (grownBy_setCell' _ _ _) (q.ne_row (by omega)), q.mine, by have := q.sz; have := (grownBy_setCell' w (h + 1) v).size; omega, q.fb, q.tabs_set (by omega) v, q.tg⟩
theorem set2 (q : Cl h f W l s A n c k v1 a2 a3 w) (a : Int) : Cl h f W l s A n c k v1 a a3 (w.setCell ⟨h + 1 + 1, 0, none⟩ (.int .i64 a)) :=
  ⟨q.turn.setCell (by omega) (.inl q.fb.2.1) _, q.keeps.trans (KeepsOthers.setCell _ _ _), q.b0.other (by omega) _, q.b1.other (by omega) _, q.b2.set _, q.b3.other (by omega) _, q.b4.other (by omega) _, q.row.kept (grownBy_setCell' _ _ _) (q.ne_row (by omega)), q.mine, by have := q.sz; have := (grownBy_setCell' w (h + 1 + 1) (.int .i64 a)).size; omega, q.fb, q.tabs_set (by omega) _, q.tg⟩
theorem set3 (q : Cl h f W l s A n c k v1 a2 a3 w) (a : Int) : Cl h f W l s A n c k v1 a2 a (w.setCell ⟨h + 1 + 1 + 1, 0, none⟩ (.int .i64 a)) :=
  ⟨q.turn.setCell (by omega) (.inl q.fb.2.2) _, q.keeps.trans (KeepsOthers.setCell _ _ _), q.b0.other (by omega) _, q.b1.other (by omega) _, q.b2.other (by omega) _, q.b3.set _, q.b4.other (by omega) _, q.row.kept (grownBy_setCell' _ _ _) (q.ne_row (by omega)), q.mine, by have := q.sz; have := (grownBy_setCell' w (h + 1 + 1 + 1) (.int .i64 a)).size; omega, q.fb, q.tabs_set (by omega) _, q.tg⟩
/-- A round of another's, or a step of the book-keeping: all that is the iterator's lies as it lay. -/
theorem again {f' : Nat → Prop} (q : Cl h f W l s A n c k v1 a2 a3 w) (hs : w.heap.size ≤ w'.heap.size) (hk : ∀ j, (h ≤ j ∧ j < h + 5 ∨ blk A = some j ∨ j = 1 ∨ j = 0) → w'.heap[j]? = w.heap[j]?)
    (hf : f' (h + 1) ∧ f' (h + 1 + 1) ∧ f' (h + 1 + 1 + 1)) (hm : ∀ g, blk A = some g → f' g) : Cl h f' w' l s A n c k v1 a2 a3 w' := by
  refine ⟨Turn.refl _ _ _, KeepsOthers.refl _, (hk h (.inl (by omega))).trans q.b0, (hk _ (.inl (by omega))).trans q.b1, (hk _ (.inl (by omega))).trans q.b2, (hk _ (.inl (by omega))).trans q.b3, (hk _ (.inl (by omega))).trans q.b4, ?_, fun g hg => .inl (hm g hg), Nat.le_trans q.sz hs, hf, q.tabs.same (hk _ (.inr (.inr (.inl rfl)))) (hk _ (.inr (.inr (.inr rfl)))) hs, q.tg⟩
  obtain ⟨⟨hl, hv⟩, hn⟩ := q.row
  refine ⟨⟨hl, ?_⟩, hn⟩
  rcases hv with hv | ⟨g, cap, cur, hv, h1, h2, h3⟩
  · exact .inl hv
  · refine .inr ⟨g, cap, cur, hv, h1, ?_, h3⟩
    injection hv with hA
    subst hA
    exact (hk g (.inr (.inl rfl))).trans h2
end Cl

/-- The six operations of 'open = append(open[:0], runes.Bytes(r)...)', as far as they have come up (b0 .. b5). -/
structure R9 (h : Nat) (f : Nat → Prop) (X : World) (l : Nat) (s : ByteArray) (A : Option Addr) (m c : Nat) (k : List UInt8) (a2 a3 x : Int) (b0 b1 b2 b3 b4 b5 : Bool) (u32 u33 u34 u35 u36 : Value) (w : World) : Prop where
  s0 : b0 = true → u32 = .slice A m c
  s1 : b1 = true → u33 = .slice A 0 c
  s2 : b2 = true → u34 = .int .i32 x
  s3 : b3 = true → b4 = false → ∃ g, u35 = .slice (some ⟨g, 0, none⟩) (e4 x).length (e4 x).length ∧ Sl w w.heap.size (some ⟨g, 0, none⟩) (bv (e4 x))
  q1 : b1 = true → b0 = true
  q3 : b3 = true → b2 = true
  q4 : b4 = true → b1 = true ∧ b3 = true
  q5 : b5 = true → b4 = true
  ws : ∃ A' n' c' k' v, Cl h f X l s A' n' c' k' v a2 a3 w ∧ (b4 = false → A' = A ∧ n' = m ∧ c' = c ∧ k' = k) ∧ (b4 = true → u36 = .slice A' n' c' ∧ k' = e4 x) ∧ (b5 = false → v = .slice A m c) ∧ (b5 = true → v = u36)

/-- The seven operations of 'ahead, columns = ahead+columns, width.Of(r)', as far as they have come up. -/
structure R10 (h : Nat) (f : Nat → Prop) (X : World) (l : Nat) (s : ByteArray) (A : Option Addr) (n c : Nat) (k : List UInt8) (v : Value) (a2 a3 x : Int) (b0 b1 b2 b3 b4 b5 b6 : Bool) (u37 u38 u39 u40 u41 : Value) (w : World) : Prop where
  s0 : b0 = true → u37 = .int .i64 a2
  s1 : b1 = true → u38 = .int .i64 a3
  s2 : b2 = true → u39 = .int .i64 (a2 + a3)
  s3 : b3 = true → u40 = .int .i32 x
  s4 : b4 = true → u41 = .int .i64 (ofI x)
  q2 : b2 = true → b0 = true ∧ b1 = true
  q4 : b4 = true → b3 = true
  q5 : b5 = true → b2 = true ∧ b4 = true
  q6 : b6 = true → b5 = true
  ws : ∃ p2 p3, Cl h f X l s A n c k v p2 p3 w ∧ (b5 = false → p2 = a2) ∧ (b5 = true → p2 = a2 + a3) ∧ (b6 = false → p3 = a3) ∧ (b6 = true → p3 = ofI x)
end Go.Proofs.YtmgakdbcgdhpaaaDoor
