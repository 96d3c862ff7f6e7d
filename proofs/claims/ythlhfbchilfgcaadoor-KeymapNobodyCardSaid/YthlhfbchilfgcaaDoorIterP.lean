/-
  Iterators that keep state of their own in cells: what such an iterator and a range over it promise each other, and the law of the range.
  A set f of blocks is the iterator's own: it may turn them between two rounds; a round leaves them as they lie. What the iterator makes anew it may count to f.
-/
import Derived.RangeFuncNested
import Derived.RangeFuncBound
import Derived.RangeFuncCalls
import Derived.RangeFuncLeaves
import Derived.Test.YthlhfbchilfgcaaDoorSl
namespace Go.Proofs.YthlhfbchilfgcaaDoor
open Go.RowKit
set_option linter.unusedVariables false

/-- From A to B: new blocks; of what lay from 'base' on only the blocks of f, and what is no cells, may have turned. -/
structure Turn (base : Nat) (f : Nat → Prop) (A B : World) : Prop where
  os : B.os = A.os
  tape : B.tape = A.tape
  output : B.output = A.output
  size : A.heap.size ≤ B.heap.size
  block : ∀ (k : Nat) (o : Obj), A.heap[k]? = some o → (k < base ∨ (¬ f k ∧ o.isCells = true)) → B.heap[k]? = some o
theorem Turn.mono {b b' : Nat} {f : Nat → Prop} {A B : World} (h : Turn b f A B) (hb : b' ≤ b) : Turn b' f A B :=
  ⟨h.os, h.tape, h.output, h.size, fun k o ho hk => h.block k o ho (hk.imp (fun h1 => by omega) id)⟩
theorem Turn.refl (b : Nat) (f : Nat → Prop) (A : World) : Turn b f A A := ⟨rfl, rfl, rfl, Nat.le_refl _, fun _ _ h _ => h⟩
theorem Turn.trans {b : Nat} {f g : Nat → Prop} {A B C : World} (h : Turn b f A B) (k : Turn b g B C) (hg : ∀ j, g j → f j ∨ A.heap.size ≤ j) : Turn b f A C :=
  ⟨k.os.trans h.os, k.tape.trans h.tape, k.output.trans h.output, Nat.le_trans h.size k.size, fun j o ho hj => k.block j o (h.block j o ho hj) (hj.imp id fun h2 => ⟨fun hgj => by
    rcases hg j hgj with h3 | h3
    · exact h2.1 h3
    · have := (Array.getElem?_eq_some_iff.1 ho).1; omega, h2.2⟩)⟩
theorem Turn.of_below {f : Nat → Prop} {b : Nat} {A B : World} (h : Below A.heap.size A B) : Turn b f A B :=
  ⟨h.os, h.tape, h.output, h.size, fun k o ho _ => by rw [h.block k (Array.getElem?_eq_some_iff.1 ho).1]; exact ho⟩
theorem Turn.of_grown {f : Nat → Prop} {b : Nat} {A B : World} {row : Option Nat} (h : A.grownBy B row) (hr : ∀ k, row = some k → b ≤ k ∧ (f k ∨ ∃ o, A.heap[k]? = some o ∧ o.isCells = false)) : Turn b f A B :=
  ⟨h.os, h.tape, h.output, h.size, fun k o ho hk => by
    refine (h.block k (Array.getElem?_eq_some_iff.1 ho).1 (fun e => ?_)).trans ho
    have h1 := hr k e.symm
    rcases hk with hk | hk
    · omega
    · rcases h1.2 with h2 | ⟨o', ho', hc⟩
      · exact hk.1 h2
      · rw [ho] at ho'; cases ho'; rw [hk.2] at hc; cases hc⟩
theorem Turn.drew {b : Nat} {f : Nat → Prop} {A B : World} (h : Turn b f A B) : Turn b f A B.drew := ⟨h.os, h.tape, h.output, h.size, h.block⟩
theorem Turn.drewN {b : Nat} {f : Nat → Prop} {A B : World} (h : Turn b f A B) (n : Nat) : Turn b f A (B.drewN n) := ⟨h.os, h.tape, h.output, h.size, h.block⟩
theorem Turn.alloc {b : Nat} {f : Nat → Prop} {A B : World} (h : Turn b f A B) (o : Obj) : Turn b f A (B.alloc o) :=
  h.trans (Turn.of_below ((Below.refl _ _).alloc (Nat.le_refl _) o) (f := f)) (fun _ h => .inl h)
theorem Turn.setCell {b : Nat} {f : Nat → Prop} {A B : World} (h : Turn b f A B) {k : Nat} (hb : b ≤ k) (hk : f k ∨ A.heap.size ≤ k) (v : Value) : Turn b f A (B.setCell ⟨k, 0, none⟩ v) :=
  h.trans (g := fun j => j = k) (Turn.of_grown (grownBy_setCell' B k v) (fun j e => by cases e; exact ⟨hb, .inl rfl⟩)) (fun j e => by subst e; exact hk)
theorem Turn.grown {b : Nat} {f : Nat → Prop} {A B C : World} {row : Option Nat} (h : Turn b f A B) (hg : B.grownBy C row) (hr : ∀ k, row = some k → b ≤ k ∧ (f k ∨ A.heap.size ≤ k)) : Turn b f A C :=
  h.trans (g := fun j => row = some j) (Turn.of_grown hg (fun j e => ⟨(hr j e).1, .inl e⟩)) (fun j e => (hr j e).2)

/-- What is said abides the iterator's turns; the iterator may count to its own what it makes. -/
def AbP {β : Type} (base : Nat) (J : β → (Nat → Prop) → World → Prop) : Prop :=
  ∀ s f f' A B, J s f A → Turn base f A B → (∀ k, f' k → f k ∨ (A.heap.size ≤ k ∧ k < B.heap.size)) → J s f' B
theorem AbP.and {β : Type} {b : Nat} {I J : β → (Nat → Prop) → World → Prop} (h : AbP b I) (k : AbP b J) : AbP b (fun s f W => I s f W ∧ J s f W) :=
  fun s f f' A B hs ht hf => ⟨h s f f' A B hs.1 ht hf, k s f f' A B hs.2 ht hf⟩
theorem AbP.none {β : Type} (b : Nat) : AbP b (fun (_ : β) _ _ => False) := fun _ _ _ _ _ h _ _ => h
theorem AbP.below {β : Type} {b n₀ : Nat} {w : World} (hn : n₀ ≤ b) (hw : n₀ ≤ w.heap.size) : AbP b (fun (_ : β) _ W => Below n₀ w W) :=
  fun s f f' A B hs ht hf => hs.trans ⟨ht.os, ht.tape, ht.output, ht.size, fun k hk => by
    have hsz := hs.size
    have hlt : k < A.heap.size := by omega
    rw [Array.getElem?_eq_getElem hlt]
    exact ht.block k _ (Array.getElem?_eq_getElem hlt) (.inl (by omega))⟩
/-- A box that lay ahead. -/
theorem AbP.boxed {β : Type} {b B : Nat} {t : TypeId} (v : β → Value) (h : B < b) : AbP b (fun s _ W => Boxed W B t (v s)) :=
  fun s f f' A B' hs ht hf => ht.block _ _ hs (.inl h)
/-- What speaks of no world. -/
theorem AbP.pure {β : Type} {b : Nat} (p : β → Prop) : AbP b (fun s _ _ => p s) := fun s _ _ _ _ h _ _ => h

/-- What a round that goes on leaves to the iterator. -/
structure Rk (base : Nat) (f : Nat → Prop) (A B : World) : Prop where
  below : Below 0 A B
  keeps : KeepsFrom base A B
  mine : ∀ k, f k → B.heap[k]? = A.heap[k]?
theorem Rk.refl (base : Nat) (f : Nat → Prop) (A : World) : Rk base f A A := ⟨Below.refl _ _, KeepsFrom.refl _ _, fun _ _ => rfl⟩
theorem Rk.trans {base : Nat} {f : Nat → Prop} {A B C : World} (h : Rk base f A B) (k : Rk base f B C) : Rk base f A C :=
  ⟨h.below.trans k.below, h.keeps.trans k.keeps, fun j hj => (k.mine j hj).trans (h.mine j hj)⟩
theorem Rk.setCell {base : Nat} {f : Nat → Prop} {A B : World} (h : Rk base f A B) {k : Nat} (hk : ¬ f k) (v : Value) : Rk base f A (B.setCell ⟨k, 0, none⟩ v) :=
  h.trans ⟨(Below.refl 0 B).setCell (p := ⟨k, 0, none⟩) (Nat.zero_le _) v, (KeepsOthers.setCell _ _ _).from _, fun j hj => Below.heap_setCell _ _ _ _ (fun e => hk (by subst e; exact hj))⟩
theorem Rk.of_below {base : Nat} {f : Nat → Prop} {A B : World} (h : Below A.heap.size A B) (hf : ∀ k, f k → k < A.heap.size) : Rk base f A B :=
  ⟨h.mono (Nat.zero_le _), ⟨h.size, fun k o _ ho _ => by rw [h.block k (Array.getElem?_eq_some_iff.1 ho).1]; exact ho⟩, fun k hk => h.block k (hf k hk)⟩
theorem Rk.drew {base : Nat} {f : Nat → Prop} {A B : World} (h : Rk base f A B) : Rk base f A B.drew := ⟨h.below.drew, ⟨h.keeps.size, h.keeps.same⟩, h.mine⟩
/-- An append to a row that is not the iterator's. -/
theorem Rk.grown {base : Nat} {f : Nat → Prop} {A B C : World} {row : Option Nat} (h : Rk base f A B) (hg : B.grownBy C row) (hf : ∀ k, f k → k < A.heap.size) (hr : ∀ k, row = some k → ¬ f k ∧ ∀ o, B.heap[k]? = some o → o.isCells = true) : Rk base f A C :=
  h.trans ⟨⟨hg.os, hg.tape, hg.output, hg.size, fun k hk => by omega⟩, ⟨hg.size, fun k o _ ho hc => (hg.block k (Array.getElem?_eq_some_iff.1 ho).1 (fun e => by rw [(hr k e.symm).2 o ho] at hc; cases hc)).trans ho⟩,
    fun k hk => hg.block k (by have := hf k hk; have := h.below.size; omega) (fun e => (hr k e.symm).1 hk)⟩

/-- The contract of an iterator that has state in cells; f0: what it counts to its own from the start (what its closure has captured, tables); El: what holds of each element. -/
def SeqP {α : Type} (F : Fence) (n : Nat) (P : Program) (g : Nat) (lb : Array Value) (encs : α → Array Value) (f0 : Nat → Prop) (El : α → Prop) (S Sp : List α → Prop) (N : Nat) (w : World) : Prop :=
  ∀ (l : Nat) (J Jx : List α → (Nat → Prop) → World → Prop) (W : World), w.heap.size ≤ W.heap.size → (∀ k, f0 k → W.heap[k]? = w.heap[k]?) → AbP W.heap.size J → AbP W.heap.size Jx →
    (∀ pre x f W1, J pre f W1 → pre.length < N → El x → YieldAt F (n - 1) P l (encs x) W1 fun e W' =>
      (e = .returned (.bool true) ∧ J (pre ++ [x]) f W' ∧ Rk W.heap.size f W1 W') ∨ (e = .returned (.bool false) ∧ Jx (pre ++ [x]) f W' ∧ KeepsFrom W.heap.size W1 W')) →
    J [] f0 W →
    CallsIn F n P g (#[.func (.yield l) #[] #[]] ++ lb) W fun e W' => (∃ v, e = .returned v) ∧ ((∃ xs f, S xs ∧ J xs f W') ∨ (∃ pre f, Sp pre ∧ Jx pre f W'))

/-- How a round may be left. -/
def postP {α : Type} (base : Nat) (I : List α → (Nat → Prop) → World → Prop) (Ix : Code → List α → (Nat → Prop) → World → Prop) (f : Nat → Prop) (xs : List α) (W : World) : Exit → Act → World → Prop
  | .normal, _, W' => Rk base f W W' ∧ I xs f W'
  | .ret, _, W' => KeepsFrom base W W' ∧ Ix .ret xs f W'
  | .exit id, _, W' => KeepsFrom base W W' ∧ Ix (.exit id) xs f W'
  | .goto t, _, W' => KeepsFrom base W W' ∧ Ix (.goto t) xs f W'
  | .panic _, _, _ => False
  | .outgrown, _, _ => False

variable {F : Fence} {n : Nat} {P : Program}

theorem AbP.put {β : Type} {b : Nat} {I : β → (Nat → Prop) → World → Prop} (h : AbP b I) {s : β} {f : Nat → Prop} {W : World} {l : Nat} {o : Obj} (o' : Obj) (hs : I s f W) (hl : b ≤ l) (ho : W.heap[l]? = some o) (hc : o.isCells = false) : I s f (W.putObj l o') :=
  h s f f W _ hs (Turn.of_grown (grownBy_putObj' W l o') (fun k e => by cases e; exact ⟨hl, .inr ⟨o, ho, hc⟩⟩)) (fun _ h => .inl h)

/-- The range over such an iterator, where no round is under way. -/
theorem range_priv {α : Type} {g : Operand} {ps : Array Tmp} {assign body : Code} {Q : Exit → Act → World → Prop} {a : Act} {w : World}
    (hro : F.round = none) (h1 : 1 ≤ n) {gf : Nat} {lb : Array Value} (hg : a.eval g = .func (.func gf) #[] lb) (hFg : F.fn gf) (eg : ∀ args w, (callFunc gf args).run P w = .ok (.enter gf args) w)
    {encs : α → Array Value} {f0 : Nat → Prop} {El : α → Prop} {S Sp : List α → Prop} {N : Nat} {w0 : World} (hseq : SeqP F (n - 1) P gf lb encs f0 El S Sp N w0)
    (hw0 : w0.heap.size ≤ w.heap.size) (hf0 : ∀ k, f0 k → k < w.heap.size ∧ w.heap[k]? = w0.heap[k]?) (hps : ∀ x, (encs x).size = ps.size)
    (I : List α → (Nat → Prop) → World → Prop) (Ix : Code → List α → (Nat → Prop) → World → Prop) (hI : AbP w.heap.size I) (hIx : ∀ c, AbP w.heap.size (Ix c)) (h0 : I [] f0 w) (a₁ : α → Act)
    (hassign : ∀ (l : Nat) (x : α) (W : World) (K : Act → World → Prop), K (a₁ x) W →
      assign.wpIn (F.inRound l) (n - 1 - 1) P (Exit.then K (fun _ _ _ => False)) { tmps := (ps.zip (encs x)).foldl (fun t (p, v) => t.setIfInBounds p v) a.tmps, defers := [] } W)
    (hbody : ∀ (l : Nat) (pre : List α) (x : α) (f : Nat → Prop) (W : World), (∀ k, f k → f0 k ∨ (w.heap.size + 2 ≤ k ∧ k < W.heap.size)) → w.heap.size + 2 ≤ W.heap.size → I pre f W → pre.length < N → El x →
      body.wpIn (F.inRound l) (n - 1 - 1) P (postP w.heap.size I Ix f (pre ++ [x]) W) (a₁ x) W)
    (hdone : ∀ (D : Nat) (xs : List α) (f : Nat → Prop) (W : World), w.heap.size ≤ D → S xs → I xs f W → W.heap[D]? = some (.deferred (some [])) → Q .normal { a with defers := { target := .collected D, args := #[] } :: a.defers } W)
    (hstop : ∀ (D : Nat) (c : Code) (pre : List α) (f : Nat → Prop) (W : World), w.heap.size ≤ D → Sp pre → Ix c pre f W → W.heap[D]? = some (.deferred (some [])) → c.wpIn F n P Q { a with defers := { target := .collected D, args := #[] } :: a.defers } W) :
    (Code.rangeFunc g ps assign body).wpIn F n P Q a w := by
  refine wpIn_rangeFunc fun fn hfn => ?_
  rw [hro]
  -- the record as it looks in a state
  let rec' : LoopState → Option Code → Obj := fun st pe => .loop { state := st, pending := pe, fn, tmps := a.tmps, params := ps, assign, body, defers := w.heap.size }
  generalize hW1 : (w.alloc (.deferred (some []))).alloc (rec' .ready none) = W1
  have hs1 : W1.heap.size = w.heap.size + 2 := by rw [← hW1]; simp
  have hb1 : Below w.heap.size w W1 := by rw [← hW1]; exact ((Below.refl _ w).alloc (Nat.le_refl _) _).alloc (by simp) _
  have hD1 : W1.heap[w.heap.size]? = some (.deferred (some [])) := by
    rw [← hW1, Below.heap_alloc _ _ _ (by simp)]; exact World.alloc_heap_new w _
  have hL1 : W1.heap[w.heap.size + 1]? = some (rec' .ready none) := by
    have := World.alloc_heap_new (w.alloc (.deferred (some []))) (rec' .ready none)
    rw [World.size_alloc] at this
    rw [← hW1]; exact this
  refine ⟨w.heap.size + 1, [{ target := .collected w.heap.size, args := #[] }], W1, { target := .fn (.func gf) lb, args := #[.func (.yield (w.heap.size + 1)) #[] #[]] }, W1, gf,
    #[.func (.yield (w.heap.size + 1)) #[] #[]] ++ lb, W1, ?_, ?_, ?_, ?_, fun _ => h1, ?_⟩
  · rw [← hW1]; exact run_enterLoop_outer _ _ _ _ _
  · simp only [resolve, hg]
    simp [go_sem]
  · intro f' hf'
    simp [Target.leads] at hf'
    subst hf'
    exact hFg
  · simp [invoke, go_sem, eg]
  have hfs : ∀ k, f0 k → k < w.heap.size := fun k hk => (hf0 k hk).1
  have lift : ∀ {β : Type} (K : β → (Nat → Prop) → World → Prop) (L : Obj), L.isCells = false → AbP w.heap.size K →
      AbP W1.heap.size (fun s f W => K s f W ∧ (∀ k, f k → f0 k ∨ (w.heap.size + 2 ≤ k ∧ k < W.heap.size)) ∧ W.heap[w.heap.size + 1]? = some L ∧ W.heap[w.heap.size]? = some (.deferred (some []))) := by
    intro β K L hL hK s f f' A B hs ht hf
    refine ⟨hK s f f' A B hs.1 (ht.mono (by omega)) hf, fun k hk => ?_, ht.block _ _ hs.2.2.1 (.inl (by omega)), ht.block _ _ hs.2.2.2 (.inl (by omega))⟩
    have hAs : w.heap.size + 1 < A.heap.size := (Array.getElem?_eq_some_iff.1 hs.2.2.1).1
    have hsz := ht.size
    rcases hf k hk with h | h
    · rcases hs.2.1 k h with h | h
      · exact .inl h
      · exact .inr ⟨h.1, by omega⟩
    · exact .inr ⟨by omega, h.2⟩
  refine (hseq (w.heap.size + 1)
    (fun s f W => I s f W ∧ (∀ k, f k → f0 k ∨ (w.heap.size + 2 ≤ k ∧ k < W.heap.size)) ∧ W.heap[w.heap.size + 1]? = some (rec' .ready none) ∧ W.heap[w.heap.size]? = some (.deferred (some [])))
    (fun s f W => ∃ c, Ix c s f W ∧ (∀ k, f k → f0 k ∨ (w.heap.size + 2 ≤ k ∧ k < W.heap.size)) ∧ W.heap[w.heap.size + 1]? = some (rec' .done (some c)) ∧ W.heap[w.heap.size]? = some (.deferred (some [])))
    W1 (by omega) (fun k hk => (hb1.block k (hfs k hk)).trans (hf0 k hk).2) (lift I _ rfl hI)
    (fun s f f' A B hs ht hf => hs.elim fun c hc => ⟨c, lift (Ix c) _ rfl (hIx c) s f f' A B hc ht hf⟩) ?_
    ⟨hI [] f0 f0 w W1 h0 (Turn.of_below hb1) (fun _ h => .inl h), fun k h => .inl h, hL1, hD1⟩).mono ?_
  · -- one round
    rintro pre x f W ⟨hi, hf, hl, hk⟩ hlen hel
    have hlt : w.heap.size + 1 < W.heap.size := (Array.getElem?_eq_some_iff.1 hl).1
    have hy := run_yield (P := P) (args := encs x) hl (hps x)
    refine ⟨fn, _, assign, body, hy, roundIn_of_wpIn hfn (hassign _ x W _ ⟨_, run_beginRound hl rfl, ?_⟩)⟩
    generalize hWb : W.putObj (w.heap.size + 1) (rec' .busy none) = Wb
    have hlb : Wb.heap[w.heap.size + 1]? = some (rec' .busy none) := by rw [← hWb]; exact World.putObj_heap_same hlt
    have hkb : Wb.heap[w.heap.size]? = some (.deferred (some [])) := by rw [← hWb]; exact (World.putObj_heap_other (by omega)).trans hk
    have hsb : Wb.heap.size = W.heap.size := by rw [← hWb]; simp
    have hib : I pre f Wb := by rw [← hWb]; exact hI.put _ hi (by omega) hl rfl
    have put_rk : ∀ (X : World) (o' : Obj), Rk W1.heap.size f X (X.putObj (w.heap.size + 1) o') := fun X o' =>
      ⟨⟨rfl, rfl, rfl, by simp, fun k hk => by omega⟩, ⟨by simp, fun k o hk ho _ => (World.putObj_heap_other (by omega)).trans ho⟩, fun k hk => World.putObj_heap_other (by
        rcases hf k hk with h | h
        · have := hfs k h; omega
        · omega)⟩
    have hrb : Rk W1.heap.size f W Wb := by rw [← hWb]; exact put_rk W _
    refine wpIn_mono (hbody _ pre x f Wb (fun k hk => by rw [hsb]; exact hf k hk) (by omega) hib hlen hel) ?_
    have ends : ∀ (jump : Option Code) (W3 : World), KeepsFrom w.heap.size Wb W3 → ∃ W4, W4 = W3.putObj (w.heap.size + 1) (rec' (if jump.isNone then .ready else .done) jump) ∧
        (Instr.endRound (w.heap.size + 1) jump).run P W3 = .ok (.bool jump.isNone) W4 ∧ W3.heap[w.heap.size + 1]? = some (rec' .busy none) ∧
        W4.heap[w.heap.size + 1]? = some (rec' (if jump.isNone then .ready else .done) jump) ∧ W4.heap[w.heap.size]? = some (.deferred (some [])) ∧ (∀ k, f k → f0 k ∨ (w.heap.size + 2 ≤ k ∧ k < W4.heap.size)) := by
      intro jump W3 hk3
      have hl3 := hk3.same _ _ (by omega) hlb rfl
      have hsz3 := hk3.size
      refine ⟨_, rfl, run_endRound (P := P) jump hl3, hl3, World.putObj_heap_same (Array.getElem?_eq_some_iff.1 hl3).1, (World.putObj_heap_other (by omega)).trans (hk3.same _ _ (Nat.le_refl _) hkb rfl), fun k hk => ?_⟩
      rcases hf k hk with h | h
      · exact .inl h
      · exact .inr ⟨h.1, by simp; omega⟩
    have jx : ∀ (c : Code) (W3 : World), KeepsFrom w.heap.size Wb W3 → Ix c (pre ++ [x]) f W3 → ∃ v W4, (Instr.endRound (w.heap.size + 1) (some c)).run P W3 = .ok v W4 ∧
        ((Ending.returned v = .returned (.bool true) ∧ (I (pre ++ [x]) f W4 ∧ (∀ k, f k → f0 k ∨ (w.heap.size + 2 ≤ k ∧ k < W4.heap.size)) ∧ W4.heap[w.heap.size + 1]? = some (rec' .ready none) ∧ W4.heap[w.heap.size]? = some (.deferred (some []))) ∧ Rk W1.heap.size f W W4) ∨
         (Ending.returned v = .returned (.bool false) ∧ (∃ c, Ix c (pre ++ [x]) f W4 ∧ (∀ k, f k → f0 k ∨ (w.heap.size + 2 ≤ k ∧ k < W4.heap.size)) ∧ W4.heap[w.heap.size + 1]? = some (rec' .done (some c)) ∧ W4.heap[w.heap.size]? = some (.deferred (some []))) ∧ KeepsFrom W1.heap.size W W4)) := by
      intro c W3 hk3 hx3
      obtain ⟨W4, e4, hr, hl3, hl4, hk4, hf4⟩ := ends (some c) W3 hk3
      refine ⟨_, W4, hr, .inr ⟨rfl, ⟨c, ?_, hf4, hl4, hk4⟩, ?_⟩⟩
      · rw [e4]
        exact (hIx c).put _ hx3 (by omega) hl3 rfl
      · rw [e4]
        exact (hrb.keeps.trans ⟨hk3.size, fun k o hk ho hc => hk3.same k o (by omega) ho hc⟩).trans (put_rk W3 _).keeps
    intro e a3 W3 hp
    cases e with
    | normal =>
      obtain ⟨hr3, hi3⟩ := hp
      obtain ⟨W4, e4, hr, hl3, hl4, hk4, hf4⟩ := ends none W3 hr3.keeps
      refine ⟨_, W4, hr, .inl ⟨rfl, ⟨?_, hf4, hl4, hk4⟩, ?_⟩⟩
      · rw [e4]; exact hI.put _ hi3 (by omega) hl3 rfl
      · have h2 : Rk W1.heap.size f Wb W3 := ⟨hr3.below, ⟨hr3.keeps.size, fun k o hk ho hc => hr3.keeps.same k o (by omega) ho hc⟩, hr3.mine⟩
        rw [e4]
        exact (hrb.trans h2).trans (put_rk W3 _)
    | ret => exact jx .ret W3 hp.1 hp.2
    | exit id => exact jx (.exit id) W3 hp.1 hp.2
    | goto t => exact jx (.goto t) W3 hp.1 hp.2
    | panic ch => exact hp.elim
    | outgrown => exact hp.elim
  · -- behind the iterator
    rintro e W2 ⟨⟨v, rfl⟩, (⟨xs, f, hS, hi, hf, hl, hk⟩ | ⟨pre, f, hSp, c, hi, hf, hl, hk⟩)⟩
    · exact ⟨none, _, run_endLoop (P := P) hl (fun h => by cases h), hdone _ xs f _ (Nat.le_refl _) hS (hI.put _ hi (by omega) hl rfl) ((World.putObj_heap_other (by omega)).trans hk)⟩
    · exact ⟨some c, _, run_endLoop (P := P) hl (fun h => by cases h), hstop _ c pre f _ (Nat.le_refl _) hSp ((hIx c).put _ hi (by omega) hl rfl) ((World.putObj_heap_other (by omega)).trans hk)⟩
end Go.Proofs.YthlhfbchilfgcaaDoor
