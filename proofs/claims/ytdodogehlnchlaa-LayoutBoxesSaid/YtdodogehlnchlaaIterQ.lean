/-
  Iterators that read what their rounds may turn: the contract asks of what is carried that it tells what the iterator reads; the law of the range, as in IterP.
-/
import Derived.Test.YtdodogehlnchlaaLyA
namespace Go.Proofs.Ytdodogehlnchlaa
open Go.RowKit
set_option linter.unusedVariables false

/-- The contract of such an iterator; Rd: what it reads in each state. -/
def SeqQ {α : Type} (F : Fence) (n : Nat) (P : Program) (g : Nat) (lb : Array Value) (encs : α → Array Value) (f0 : Nat → Prop) (El : α → Prop) (S Sp : List α → Prop) (N : Nat) (Rd : World → Prop) (w : World) : Prop :=
  ∀ (l : Nat) (J Jx : List α → (Nat → Prop) → World → Prop) (W : World), w.heap.size ≤ W.heap.size → (∀ k, f0 k → W.heap[k]? = w.heap[k]?) → AbP W.heap.size J → AbP W.heap.size Jx → (∀ pre f W1, J pre f W1 → Rd W1) →
    (∀ pre x f W1, J pre f W1 → pre.length < N → El x → YieldAt F (n - 1) P l (encs x) W1 fun e W' =>
      (e = .returned (.bool true) ∧ J (pre ++ [x]) f W' ∧ Rk W.heap.size f W1 W') ∨ (e = .returned (.bool false) ∧ Jx (pre ++ [x]) f W' ∧ KeepsFrom W.heap.size W1 W')) →
    J [] f0 W →
    CallsIn F n P g (#[.func (.yield l) #[] #[]] ++ lb) W fun e W' => (∃ v, e = .returned v) ∧ ((∃ xs f, S xs ∧ J xs f W') ∨ (∃ pre f, Sp pre ∧ Jx pre f W'))

variable {F : Fence} {n : Nat} {P : Program}

/-- The range over such an iterator, where no round is under way. -/
theorem range_q {α : Type} {g : Operand} {ps : Array Tmp} {assign body : Code} {Q : Exit → Act → World → Prop} {a : Act} {w : World}
    (hro : F.round = none) (h1 : 1 ≤ n) {gf : Nat} {lb : Array Value} (hg : a.eval g = .func (.func gf) #[] lb) (hFg : F.fn gf) (eg : ∀ args w, (callFunc gf args).run P w = .ok (.enter gf args) w)
    {encs : α → Array Value} {f0 : Nat → Prop} {El : α → Prop} {S Sp : List α → Prop} {N : Nat} {Rd : World → Prop} {w0 : World} (hseq : SeqQ F (n - 1) P gf lb encs f0 El S Sp N Rd w0)
    (hw0 : w0.heap.size ≤ w.heap.size) (hf0 : ∀ k, f0 k → k < w.heap.size ∧ w.heap[k]? = w0.heap[k]?) (hps : ∀ x, (encs x).size = ps.size)
    (I : List α → (Nat → Prop) → World → Prop) (Ix : Code → List α → (Nat → Prop) → World → Prop) (hrd : ∀ s f W, I s f W → Rd W) (hI : AbP w.heap.size I) (hIx : ∀ c, AbP w.heap.size (Ix c)) (h0 : I [] f0 w) (a₁ : α → Act)
    (hassign : ∀ (l : Nat) (x : α) (W : World) (K : Act → World → Prop), K (a₁ x) W →
      assign.wpIn (F.inRound l) (n - 1 - 1) P (Exit.then K (fun _ _ _ => False)) { tmps := (ps.zip (encs x)).foldl (fun t (p, v) => t.setIfInBounds p v) a.tmps, defers := [] } W)
    (hbody : ∀ (l : Nat) (pre : List α) (x : α) (f : Nat → Prop) (W : World), (∀ k, f k → f0 k ∨ (w.heap.size + 2 ≤ k ∧ k < W.heap.size)) → w.heap.size + 2 ≤ W.heap.size → I pre f W → pre.length < N → El x →
      body.wpIn (F.inRound l) (n - 1 - 1) P (postP w.heap.size I Ix f (pre ++ [x]) W) (a₁ x) W)
    (hdone : ∀ (D : Nat) (xs : List α) (f : Nat → Prop) (W : World), w.heap.size ≤ D → S xs → I xs f W → W.heap[D]? = some (.deferred (some [])) → Q .normal { a with defers := { target := .collected D, args := #[] } :: a.defers } W)
    (hstop : ∀ (D : Nat) (c : Code) (pre : List α) (f : Nat → Prop) (W : World), w.heap.size ≤ D → Sp pre → Ix c pre f W → W.heap[D]? = some (.deferred (some [])) → c.wpIn F n P Q { a with defers := { target := .collected D, args := #[] } :: a.defers } W) :
    (Code.rangeFunc g ps assign body).wpIn F n P Q a w := by
  refine wpIn_rangeFunc fun fn hfn => ?_
  rw [hro]
  -- the record as it looks in a state
  let rec' : LoopState → Option Code → Obj := fun st pe => .loop { state := st, pending := pe, fn, tmps := a.tmps, params := ps, assign, body, defers := w.heap.size }
  generalize hW1 : (w.alloc (.deferred (some []))).alloc (rec' .ready none) = W1
  have hs1 : W1.heap.size = w.heap.size + 2 := by rw [← hW1]; simp
  have hb1 : Below w.heap.size w W1 := by rw [← hW1]; exact ((Below.refl _ w).alloc (Nat.le_refl _) _).alloc (by simp) _
  have hD1 : W1.heap[w.heap.size]? = some (.deferred (some [])) := by
    rw [← hW1, Below.heap_alloc _ _ _ (by simp)]; exact World.alloc_heap_new w _
  have hL1 : W1.heap[w.heap.size + 1]? = some (rec' .ready none) := by
    have := World.alloc_heap_new (w.alloc (.deferred (some []))) (rec' .ready none)
    rw [World.size_alloc] at this
    rw [← hW1]; exact this
  refine ⟨w.heap.size + 1, [{ target := .collected w.heap.size, args := #[] }], W1, { target := .fn (.func gf) lb, args := #[.func (.yield (w.heap.size + 1)) #[] #[]] }, W1, gf,
    #[.func (.yield (w.heap.size + 1)) #[] #[]] ++ lb, W1, ?_, ?_, ?_, ?_, fun _ => h1, ?_⟩
  · rw [← hW1]; exact run_enterLoop_outer _ _ _ _ _
  · simp only [resolve, hg]
    simp [go_sem]
  · intro f' hf'
    simp [Target.leads] at hf'
    subst hf'
    exact hFg
  · simp [invoke, go_sem, eg]
  have hfs : ∀ k, f0 k → k < w.heap.size := fun k hk => (hf0 k hk).1
  have lift : ∀ {β : Type} (K : β → (Nat → Prop) → World → Prop) (L : Obj), L.isCells = false → AbP w.heap.size K →
      AbP W1.heap.size (fun s f W => K s f W ∧ (∀ k, f k → f0 k ∨ (w.heap.size + 2 ≤ k ∧ k < W.heap.size)) ∧ W.heap[w.heap.size + 1]? = some L ∧ W.heap[w.heap.size]? = some (.deferred (some []))) := by
    intro β K L hL hK s f f' A B hs ht hf
    refine ⟨hK s f f' A B hs.1 (ht.mono (by omega)) hf, fun k hk => ?_, ht.block _ _ hs.2.2.1 (.inl (by omega)), ht.block _ _ hs.2.2.2 (.inl (by omega))⟩
    have hAs : w.heap.size + 1 < A.heap.size := (Array.getElem?_eq_some_iff.1 hs.2.2.1).1
    have hsz := ht.size
    rcases hf k hk with h | h
    · rcases hs.2.1 k h with h | h
      · exact .inl h
      · exact .inr ⟨h.1, by omega⟩
    · exact .inr ⟨by omega, h.2⟩
  refine (hseq (w.heap.size + 1)
    (fun s f W => I s f W ∧ (∀ k, f k → f0 k ∨ (w.heap.size + 2 ≤ k ∧ k < W.heap.size)) ∧ W.heap[w.heap.size + 1]? = some (rec' .ready none) ∧ W.heap[w.heap.size]? = some (.deferred (some [])))
    (fun s f W => ∃ c, Ix c s f W ∧ (∀ k, f k → f0 k ∨ (w.heap.size + 2 ≤ k ∧ k < W.heap.size)) ∧ W.heap[w.heap.size + 1]? = some (rec' .done (some c)) ∧ W.heap[w.heap.size]? = some (.deferred (some [])))
    W1 (by omega) (fun k hk => (hb1.block k (hfs k hk)).trans (hf0 k hk).2) (lift I _ rfl hI)
    (fun s f f' A B hs ht hf => hs.elim fun c hc => ⟨c, lift (Ix c) _ rfl (hIx c) s f f' A B hc ht hf⟩) (fun s f W h => hrd _ _ _ h.1) ?_
    ⟨hI [] f0 f0 w W1 h0 (Turn.of_below hb1) (fun _ h => .inl h), fun k h => .inl h, hL1, hD1⟩).mono ?_
  · -- one round
    rintro pre x f W ⟨hi, hf, hl, hk⟩ hlen hel
    have hlt : w.heap.size + 1 < W.heap.size := (Array.getElem?_eq_some_iff.1 hl).1
    have hy := run_yield (P := P) (args := encs x) hl (hps x)
    refine ⟨fn, _, assign, body, hy, roundIn_of_wpIn hfn (hassign _ x W _ ⟨_, run_beginRound hl rfl, ?_⟩)⟩
    generalize hWb : W.putObj (w.heap.size + 1) (rec' .busy none) = Wb
    have hlb : Wb.heap[w.heap.size + 1]? = some (rec' .busy none) := by rw [← hWb]; exact World.putObj_heap_same hlt
    have hkb : Wb.heap[w.heap.size]? = some (.deferred (some [])) := by rw [← hWb]; exact (World.putObj_heap_other (by omega)).trans hk
    have hsb : Wb.heap.size = W.heap.size := by rw [← hWb]; simp
    have hib : I pre f Wb := by rw [← hWb]; exact hI.put _ hi (by omega) hl rfl
    have put_rk : ∀ (X : World) (o' : Obj), Rk W1.heap.size f X (X.putObj (w.heap.size + 1) o') := fun X o' =>
      ⟨⟨rfl, rfl, rfl, by simp, fun k hk => by omega⟩, ⟨by simp, fun k o hk ho _ => (World.putObj_heap_other (by omega)).trans ho⟩, fun k hk => World.putObj_heap_other (by
        rcases hf k hk with h | h
        · have := hfs k h; omega
        · omega)⟩
    have hrb : Rk W1.heap.size f W Wb := by rw [← hWb]; exact put_rk W _
    refine wpIn_mono (hbody _ pre x f Wb (fun k hk => by rw [hsb]; exact hf k hk) (by omega) hib hlen hel) ?_
    have ends : ∀ (jump : Option Code) (W3 : World), KeepsFrom w.heap.size Wb W3 → ∃ W4, W4 = W3.putObj (w.heap.size + 1) (rec' (if jump.isNone then .ready else .done) jump) ∧
        (Instr.endRound (w.heap.size + 1) jump).run P W3 = .ok (.bool jump.isNone) W4 ∧ W3.heap[w.heap.size + 1]? = some (rec' .busy none) ∧
        W4.heap[w.heap.size + 1]? = some (rec' (if jump.isNone then .ready else .done) jump) ∧ W4.heap[w.heap.size]? = some (.deferred (some [])) ∧ (∀ k, f k → f0 k ∨ (w.heap.size + 2 ≤ k ∧ k < W4.heap.size)) := by
      intro jump W3 hk3
      have hl3 := hk3.same _ _ (by omega) hlb rfl
      have hsz3 := hk3.size
      refine ⟨_, rfl, run_endRound (P := P) jump hl3, hl3, World.putObj_heap_same (Array.getElem?_eq_some_iff.1 hl3).1, (World.putObj_heap_other (by omega)).trans (hk3.same _ _ (Nat.le_refl _) hkb rfl), fun k hk => ?_⟩
      rcases hf k hk with h | h
      · exact .inl h
      · exact .inr ⟨h.1, by simp; omega⟩
    have jx : ∀ (c : Code) (W3 : World), KeepsFrom w.heap.size Wb W3 → Ix c (pre ++ [x]) f W3 → ∃ v W4, (Instr.endRound (w.heap.size + 1) (some c)).run P W3 = .ok v W4 ∧
        ((Ending.returned v = .returned (.bool true) ∧ (I (pre ++ [x]) f W4 ∧ (∀ k, f k → f0 k ∨ (w.heap.size + 2 ≤ k ∧ k < W4.heap.size)) ∧ W4.heap[w.heap.size + 1]? = some (rec' .ready none) ∧ W4.heap[w.heap.size]? = some (.deferred (some []))) ∧ Rk W1.heap.size f W W4) ∨
         (Ending.returned v = .returned (.bool false) ∧ (∃ c, Ix c (pre ++ [x]) f W4 ∧ (∀ k, f k → f0 k ∨ (w.heap.size + 2 ≤ k ∧ k < W4.heap.size)) ∧ W4.heap[w.heap.size + 1]? = some (rec' .done (some c)) ∧ W4.heap[w.heap.size]? = some (.deferred (some []))) ∧ KeepsFrom W1.heap.size W W4)) := by
      intro c W3 hk3 hx3
      obtain ⟨W4, e4, hr, hl3, hl4, hk4, hf4⟩ := ends (some c) W3 hk3
      refine ⟨_, W4, hr, .inr ⟨rfl, ⟨c, ?_, hf4, hl4, hk4⟩, ?_⟩⟩
      · rw [e4]
        exact (hIx c).put _ hx3 (by omega) hl3 rfl
      · rw [e4]
        exact (hrb.keeps.trans ⟨hk3.size, fun k o hk ho hc => hk3.same k o (by omega) ho hc⟩).trans (put_rk W3 _).keeps
    intro e a3 W3 hp
    cases e with
    | normal =>
      obtain ⟨hr3, hi3⟩ := hp
      obtain ⟨W4, e4, hr, hl3, hl4, hk4, hf4⟩ := ends none W3 hr3.keeps
      refine ⟨_, W4, hr, .inl ⟨rfl, ⟨?_, hf4, hl4, hk4⟩, ?_⟩⟩
      · rw [e4]; exact hI.put _ hi3 (by omega) hl3 rfl
      · have h2 : Rk W1.heap.size f Wb W3 := ⟨hr3.below, ⟨hr3.keeps.size, fun k o hk ho hc => hr3.keeps.same k o (by omega) ho hc⟩, hr3.mine⟩
        rw [e4]
        exact (hrb.trans h2).trans (put_rk W3 _)
    | ret => exact jx .ret W3 hp.1 hp.2
    | exit id => exact jx (.exit id) W3 hp.1 hp.2
    | goto t => exact jx (.goto t) W3 hp.1 hp.2
    | panic ch => exact hp.elim
    | outgrown => exact hp.elim
  · -- behind the iterator
    rintro e W2 ⟨⟨v, rfl⟩, (⟨xs, f, hS, hi, hf, hl, hk⟩ | ⟨pre, f, hSp, c, hi, hf, hl, hk⟩)⟩
    · exact ⟨none, _, run_endLoop (P := P) hl (fun h => by cases h), hdone _ xs f _ (Nat.le_refl _) hS (hI.put _ hi (by omega) hl rfl) ((World.putObj_heap_other (by omega)).trans hk)⟩
    · exact ⟨some c, _, run_endLoop (P := P) hl (fun h => by cases h), hstop _ c pre f _ (Nat.le_refl _) hSp ((hIx c).put _ hi (by omega) hl rfl) ((World.putObj_heap_other (by omega)).trans hk)⟩
end Go.Proofs.Ytdodogehlnchlaa
