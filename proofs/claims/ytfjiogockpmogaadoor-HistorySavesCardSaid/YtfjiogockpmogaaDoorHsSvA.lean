/-
  Plain mathematics: the lines of a text, and its pieces.
  Iterators whose rounds turn what lay ahead of the range (a decoder that is fed): the contract and the law of the range, as in IterW; what holds at the end speaks of the world.
  Walks: strings.CutSuffix at a newline; strings.Lines and its iterator.
  Plain mathematics: a map that holds texts, and how many differ.
  Walk: read.
-/
import Derived.Test.YtfjiogockpmogaaDoorHsRefM
import Derived.Lib.Bytealg
import Derived.Test.YtfjiogockpmogaaDoorGfA
import Derived.Test.YtfjiogockpmogaaDoorHsShelf2
import Derived.Test.YtfjiogockpmogaaDoorHsTold
import Derived.Test.YtfjiogockpmogaaDoorRegT
import Derived.Maps.Own
import Derived.Maps.OwnSet
import Derived.Maps.Views
import Derived.Test.YtfjiogockpmogaaDoorHsNob
import Derived.Maps.OwnIn
namespace Go.Proofs.YtfjiogockpmogaaDoor
set_option linter.unusedVariables false

theorem flatB_fl1 (l : List UInt8) : (flatB l).map fl1 = flatB l := by
  obtain ⟨ds, hw, he⟩ := cleanB_eq (l.map fl1)
  have h2 : flatB l = eb ds.flatten := he
  rw [h2]
  exact fl1_ebH _ (fun r hr => by
    obtain ⟨c, hc, hrc⟩ := List.mem_flatten.1 hr
    exact wf_ctH (hw c hc) r hrc)
theorem flatB_no10 (l : List UInt8) : (10 : UInt8) ∉ flatB l := by
  intro h
  have h1 := flatB_fl1 l
  obtain ⟨k, hk⟩ := List.mem_iff_getElem?.1 h
  have h2 : ((flatB l).map fl1)[k]? = some (fl1 10) := by rw [List.getElem?_map, hk]; rfl
  rw [h1, hk] at h2
  injection h2 with h2
  revert h2
  decide
/-- the lines that newlines end, and what stands behind the last one -/
def linesN (acc : List UInt8) : List UInt8 → List (List UInt8) × List UInt8
  | [] => ([], acc)
  | c :: t => if c = 10 then (acc :: (linesN [] t).1, (linesN [] t).2) else linesN (acc ++ [c]) t
theorem linesN_cons (acc : List UInt8) (c : UInt8) (t : List UInt8) : linesN acc (c :: t) = if c = 10 then (acc :: (linesN [] t).1, (linesN [] t).2) else linesN (acc ++ [c]) t := rfl
def lnsOf (s : List UInt8) : List (List UInt8) := (linesN [] s).1
def rstOf (s : List UInt8) : List UInt8 := (linesN [] s).2
theorem linesN_end (a : List UInt8) (h : (10 : UInt8) ∉ a) : ∀ acc, linesN acc a = ([], acc ++ a) := by
  induction a with
  | nil => intro acc; simp [linesN]
  | cons c t ih =>
    intro acc
    simp only [List.mem_cons, not_or] at h
    rw [linesN_cons, if_neg (fun e => h.1 e.symm), ih h.2]
    simp
theorem linesN_run (a t : List UInt8) (h : (10 : UInt8) ∉ a) : ∀ acc, linesN acc (a ++ 10 :: t) = ((acc ++ a) :: (linesN [] t).1, (linesN [] t).2) := by
  induction a with
  | nil => intro acc; simp [linesN]
  | cons c u ih =>
    intro acc
    simp only [List.mem_cons, not_or] at h
    rw [List.cons_append, linesN_cons, if_neg (fun e => h.1 e.symm), ih h.2]
    simp
theorem lns_no {s : List UInt8} (h : (10 : UInt8) ∉ s) : lnsOf s = [] ∧ rstOf s = s := by
  unfold lnsOf rstOf; rw [linesN_end s h]; simp
theorem lns_run {a t : List UInt8} (h : (10 : UInt8) ∉ a) : lnsOf (a ++ 10 :: t) = a :: lnsOf t ∧ rstOf (a ++ 10 :: t) = rstOf t := by
  unfold lnsOf rstOf; rw [linesN_run a t h]; simp
/-- every text is without a newline, or has a first one -/
theorem split10 (s : List UInt8) : (10 : UInt8) ∉ s ∨ ∃ a t, s = a ++ 10 :: t ∧ (10 : UInt8) ∉ a := by
  induction s with
  | nil => exact .inl (by simp)
  | cons c s ih =>
    by_cases hc : c = 10
    · exact .inr ⟨[], s, by rw [hc]; rfl, by simp⟩
    · rcases ih with h | ⟨a, t, h, ha⟩
      · exact .inl (by simp only [List.mem_cons, not_or]; exact ⟨fun e => hc e.symm, h⟩)
      · exact .inr ⟨c :: a, t, by rw [h]; rfl, by simp only [List.mem_cons, not_or]; exact ⟨fun e => hc e.symm, ha⟩⟩
theorem index10_no {s : List UInt8} (h : (10 : UInt8) ∉ s) : Lib.indexByte s 10 = -1 := by
  induction s with
  | nil => rfl
  | cons c s ih =>
    simp only [List.mem_cons, not_or] at h
    unfold Lib.indexByte
    rw [if_neg (by simpa using fun e : c = 10 => h.1 e.symm), ih h.2]
    rfl
theorem index10_run {a t : List UInt8} (h : (10 : UInt8) ∉ a) : Lib.indexByte (a ++ 10 :: t) 10 = a.length := by
  induction a with
  | nil => simp [Lib.indexByte]
  | cons c s ih =>
    simp only [List.mem_cons, not_or] at h
    rw [List.cons_append]
    unfold Lib.indexByte
    rw [if_neg (by simpa using fun e : c = 10 => h.1 e.symm), ih h.2]
    have e : ((s.length : Int) == -1) = false := by simp
    rw [e]
    simp
/-- the pieces of a text -/
def pcs (s : List UInt8) : List (List UInt8) := (lnsOf s).map (· ++ [10]) ++ (if rstOf s = [] then [] else [rstOf s])
theorem pcs_nil : pcs [] = [] := by simp [pcs, lnsOf, rstOf, linesN]
theorem pcs_no {s : List UInt8} (h : (10 : UInt8) ∉ s) (hs : s ≠ []) : pcs s = [s] := by
  unfold pcs
  rw [(lns_no h).1, (lns_no h).2, if_neg hs]
  rfl
theorem pcs_run {a t : List UInt8} (h : (10 : UInt8) ∉ a) : pcs (a ++ 10 :: t) = (a ++ [10]) :: pcs t := by
  unfold pcs
  rw [(lns_run h).1, (lns_run h).2]
  rfl
theorem pcs_len (s : List UInt8) : (pcs s).length ≤ s.length := by
  have : ∀ n (s : List UInt8), s.length = n → (pcs s).length ≤ s.length := by
    intro n
    induction n using Nat.strongRecOn with
    | _ n ih =>
      intro s hs
      rcases split10 s with h | ⟨a, t, rfl, ha⟩
      · by_cases h0 : s = []
        · subst h0; simp [pcs_nil]
        · rw [pcs_no h h0]; have := List.length_pos_iff.2 h0; simp; omega
      · rw [pcs_run ha]
        have := ih t.length (by rw [← hs]; simp; omega) t rfl
        simp; omega
  exact this _ s rfl
/-- the text of lines -/
def jnl (M : List (List UInt8)) : List UInt8 := (M.map (· ++ [10])).flatten
theorem jnl_cons (a : List UInt8) (M : List (List UInt8)) : jnl (a :: M) = a ++ 10 :: jnl M := by simp [jnl]
theorem lns_jnl (M : List (List UInt8)) (h : ∀ l ∈ M, (10 : UInt8) ∉ l) : lnsOf (jnl M) = M ∧ rstOf (jnl M) = [] := by
  induction M with
  | nil => exact ⟨rfl, rfl⟩
  | cons a M ih =>
    have h1 := ih (fun l hl => h l (by simp [hl]))
    rw [jnl_cons, (lns_run (h a (by simp))).1, (lns_run (h a (by simp))).2, h1.1, h1.2]
    exact ⟨rfl, rfl⟩
theorem jnl_lns (s : List UInt8) : jnl (lnsOf s) ++ rstOf s = s := by
  have : ∀ n (s : List UInt8), s.length = n → jnl (lnsOf s) ++ rstOf s = s := by
    intro n
    induction n using Nat.strongRecOn with
    | _ n ih =>
      intro s hs
      rcases split10 s with h | ⟨a, t, rfl, ha⟩
      · rw [(lns_no h).1, (lns_no h).2]; rfl
      · rw [(lns_run ha).1, (lns_run ha).2, jnl_cons]
        have := ih t.length (by rw [← hs]; simp; omega) t rfl
        rw [List.append_assoc, List.cons_append, this]
  exact this _ s rfl
theorem lns_len {s : List UInt8} {l : List UInt8} (h : l ∈ lnsOf s) : l.length ≤ s.length := by
  have h1 := congrArg List.length (jnl_lns s)
  rw [List.length_append] at h1
  have h2 : l.length ≤ (jnl (lnsOf s)).length := by
    unfold jnl
    obtain ⟨A, B, hAB⟩ := List.append_of_mem h
    rw [hAB]; simp; omega
  omega
theorem lns_count (s : List UInt8) : (lnsOf s).length ≤ s.length := by
  have h := pcs_len s
  unfold pcs at h
  rw [List.length_append, List.length_map] at h
  omega
theorem lns_no10 (s : List UInt8) : ∀ l ∈ lnsOf s, (10 : UInt8) ∉ l := by
  have : ∀ n (s : List UInt8), s.length = n → ∀ l ∈ lnsOf s, (10 : UInt8) ∉ l := by
    intro n
    induction n using Nat.strongRecOn with
    | _ n ih =>
      intro s hs
      rcases split10 s with h | ⟨a, t, rfl, ha⟩
      · rw [(lns_no h).1]; simp
      · rw [(lns_run ha).1]
        intro l hl
        rcases List.mem_cons.1 hl with rfl | hl
        · exact ha
        · exact ih t.length (by rw [← hs]; simp; omega) t rfl l hl
  exact this _ s rfl
/-- may a line be? -/
def okL (t : List UInt8) : Bool := !(t == []) && flatB t == t
/-- is a text one of lines that may be? -/
def okS (s : List UInt8) : Bool := rstOf s == [] && (lnsOf s).all okL
/-- is a piece one? -/
def okPc (x : List UInt8) : Bool := (x.getLast? == some 10) && okL x.dropLast
theorem okS_iff (s : List UInt8) : okS s = (pcs s).all okPc := by
  have hm : ∀ M : List (List UInt8), ((M.map (· ++ [10])).all okPc) = M.all okL := fun M => by
    rw [List.all_map]
    congr 1
    funext a
    simp [okPc]
  unfold okS pcs
  rw [List.all_append, hm]
  by_cases h : rstOf s = []
  · rw [if_pos h, h]; simp
  · rw [if_neg h]
    have hno : (10 : UInt8) ∉ rstOf s := by
      have : ∀ n (s : List UInt8), s.length = n → (10 : UInt8) ∉ rstOf s := by
        intro n
        induction n using Nat.strongRecOn with
        | _ n ih =>
          intro s hs
          rcases split10 s with h | ⟨a, t, rfl, ha⟩
          · rw [(lns_no h).2]; exact h
          · rw [(lns_run ha).2]
            exact ih t.length (by rw [← hs]; simp; omega) t rfl
      exact this _ s rfl
    have h1 : okPc (rstOf s) = false := by
      unfold okPc
      have : (rstOf s).getLast? ≠ some 10 := fun e => hno (List.mem_of_getLast? e)
      simp [this]
    have h2 : (rstOf s == []) = false := by simpa using h
    rw [h2]
    simp [h1]
theorem pcs_ok {s : List UInt8} (h : okS s = true) : (pcs s).map List.dropLast = lnsOf s ∧ rstOf s = [] := by
  unfold okS at h
  simp only [Bool.and_eq_true, beq_iff_eq] at h
  refine ⟨?_, h.1⟩
  unfold pcs
  rw [if_pos h.1, List.append_nil, List.map_map]
  conv => rhs; rw [← List.map_id (lnsOf s)]
  apply List.map_congr_left
  intro a _
  simp
end Go.Proofs.YtfjiogockpmogaaDoor

namespace Go.Proofs.YtfjiogockpmogaaDoor
open Go.RowKit
set_option linter.unusedVariables false

/-- From A to B: new blocks; the blocks of f may have turned, and what lay from 'base' on and is no cells. -/
structure TurnV (base : Nat) (f : Nat → Prop) (A B : World) : Prop where
  os : B.os = A.os
  tape : B.tape = A.tape
  output : B.output = A.output
  size : A.heap.size ≤ B.heap.size
  block : ∀ (k : Nat) (o : Obj), A.heap[k]? = some o → ¬ f k → (k < base ∨ o.isCells = true) → B.heap[k]? = some o
theorem TurnV.mono {b b' : Nat} {f : Nat → Prop} {A B : World} (h : TurnV b f A B) (hb : b' ≤ b) : TurnV b' f A B :=
  ⟨h.os, h.tape, h.output, h.size, fun k o ho hk hc => h.block k o ho hk (hc.imp (fun h1 => by omega) id)⟩
theorem TurnV.of_below {f : Nat → Prop} {b : Nat} {A B : World} (h : Below A.heap.size A B) : TurnV b f A B :=
  ⟨h.os, h.tape, h.output, h.size, fun k o ho _ _ => by rw [h.block k (Array.getElem?_eq_some_iff.1 ho).1]; exact ho⟩
theorem TurnV.put {f : Nat → Prop} {b l : Nat} {A : World} {o : Obj} (o' : Obj) (hl : b ≤ l) (ho : A.heap[l]? = some o) (hc : o.isCells = false) : TurnV b f A (A.putObj l o') := by
  refine ⟨rfl, rfl, rfl, by simp, fun k x hx _ hk => (World.putObj_heap_other (fun e => ?_)).trans hx⟩
  subst e
  rw [ho] at hx
  cases hx
  rw [hc] at hk
  rcases hk with hk | hk
  · omega
  · cases hk
/-- What is said abides the iterator's turns; the iterator may count to its own what it makes. -/
def AbV {β : Type} (base : Nat) (J : β → (Nat → Prop) → World → Prop) : Prop :=
  ∀ s f f' A B, J s f A → TurnV base f A B → (∀ k, f' k → f k ∨ (A.heap.size ≤ k ∧ k < B.heap.size)) → J s f' B
theorem AbV.put {β : Type} {b : Nat} {I : β → (Nat → Prop) → World → Prop} (h : AbV b I) {s : β} {f : Nat → Prop} {W : World} {l : Nat} {o : Obj} (o' : Obj) (hs : I s f W) (hl : b ≤ l) (ho : W.heap[l]? = some o) (hc : o.isCells = false) : I s f (W.putObj l o') :=
  h s f f W _ hs (TurnV.put o' hl ho hc) (fun _ h => .inl h)

/-- The contract: what holds of an element, and at the end, speaks of the world. -/
def SeqV {α : Type} (F : Fence) (n : Nat) (P : Program) (g : Nat) (lb : Array Value) (encs : α → Array Value) (f0 : Nat → Prop) (El : α → World → Prop) (S Sp : List α → (Nat → Prop) → World → Prop) (N : Nat) (w : World) : Prop :=
  ∀ (l : Nat) (J Jx : List α → (Nat → Prop) → World → Prop) (W : World), w.heap.size ≤ W.heap.size → (∀ k, f0 k → W.heap[k]? = w.heap[k]?) → AbV W.heap.size J → AbV W.heap.size Jx →
    (∀ pre x f W1, J pre f W1 → pre.length < N → El x W1 → YieldAt F (n - 1) P l (encs x) W1 fun e W' =>
      (e = .returned (.bool true) ∧ J (pre ++ [x]) f W' ∧ Rk W.heap.size f W1 W') ∨ (e = .returned (.bool false) ∧ Jx (pre ++ [x]) f W' ∧ Rk W.heap.size f W1 W')) →
    J [] f0 W →
    CallsIn F n P g (#[.func (.yield l) #[] #[]] ++ lb) W fun e W' => (∃ v, e = .returned v) ∧ ((∃ xs f, S xs f W' ∧ J xs f W') ∨ (∃ pre f, Sp pre f W' ∧ Jx pre f W'))

/-- How a round may be left. -/
def postV {α : Type} (base : Nat) (I : List α → (Nat → Prop) → World → Prop) (Ix : Code → List α → (Nat → Prop) → World → Prop) (f : Nat → Prop) (xs : List α) (W : World) : Exit → Act → World → Prop
  | .normal, _, W' => Rk base f W W' ∧ I xs f W'
  | .ret, _, W' => Rk base f W W' ∧ Ix .ret xs f W'
  | .exit id, _, W' => Rk base f W W' ∧ Ix (.exit id) xs f W'
  | .goto t, _, W' => Rk base f W W' ∧ Ix (.goto t) xs f W'
  | .panic _, _, _ => False
  | .outgrown, _, _ => False

variable {F : Fence} {n : Nat} {P : Program}

/-- The range over such an iterator, where no round is under way. -/
theorem range_v {α : Type} {g : Operand} {ps : Array Tmp} {assign body : Code} {Q : Exit → Act → World → Prop} {a : Act} {w : World}
    (hro : F.round = none) (h1 : 1 ≤ n) {gf : Nat} {lb : Array Value} (hg : a.eval g = .func (.func gf) #[] lb) (hFg : F.fn gf) (eg : ∀ args w, (callFunc gf args).run P w = .ok (.enter gf args) w)
    {encs : α → Array Value} {f0 : Nat → Prop} {El : α → World → Prop} {S Sp : List α → (Nat → Prop) → World → Prop} {N : Nat} {w0 : World} (hseq : SeqV F (n - 1) P gf lb encs f0 El S Sp N w0)
    (hw0 : w0.heap.size ≤ w.heap.size) (hf0 : ∀ k, f0 k → k < w.heap.size ∧ w.heap[k]? = w0.heap[k]?) (hps : ∀ x, (encs x).size = ps.size) (hEl : ∀ x W l o o', w.heap.size ≤ l → W.heap[l]? = some o → o.isCells = false → El x W → El x (W.putObj l o'))
    (hS : ∀ xs f W l o o', w.heap.size ≤ l → W.heap[l]? = some o → o.isCells = false → S xs f W → S xs f (W.putObj l o')) (hSp : ∀ xs f W l o o', w.heap.size ≤ l → W.heap[l]? = some o → o.isCells = false → Sp xs f W → Sp xs f (W.putObj l o'))
    (I : List α → (Nat → Prop) → World → Prop) (Ix : Code → List α → (Nat → Prop) → World → Prop) (hI : AbV w.heap.size I) (hIx : ∀ c, AbV w.heap.size (Ix c)) (h0 : I [] f0 w) (a₁ : α → Act)
    (hassign : ∀ (l : Nat) (x : α) (W : World) (K : Act → World → Prop), K (a₁ x) W →
      assign.wpIn (F.inRound l) (n - 1 - 1) P (Exit.then K (fun _ _ _ => False)) { tmps := (ps.zip (encs x)).foldl (fun t (p, v) => t.setIfInBounds p v) a.tmps, defers := [] } W)
    (hbody : ∀ (l : Nat) (pre : List α) (x : α) (f : Nat → Prop) (W : World), (∀ k, f k → f0 k ∨ (w.heap.size + 2 ≤ k ∧ k < W.heap.size)) → w.heap.size + 2 ≤ W.heap.size → I pre f W → pre.length < N → El x W →
      body.wpIn (F.inRound l) (n - 1 - 1) P (postV w.heap.size I Ix f (pre ++ [x]) W) (a₁ x) W)
    (hdone : ∀ (D : Nat) (xs : List α) (f : Nat → Prop) (W : World), w.heap.size ≤ D → (∀ k, f k → f0 k ∨ w.heap.size + 2 ≤ k) → S xs f W → I xs f W → W.heap[D]? = some (.deferred (some [])) → Q .normal { a with defers := { target := .collected D, args := #[] } :: a.defers } W)
    (hstop : ∀ (D : Nat) (c : Code) (pre : List α) (f : Nat → Prop) (W : World), w.heap.size ≤ D → (∀ k, f k → f0 k ∨ w.heap.size + 2 ≤ k) → Sp pre f W → Ix c pre f W → W.heap[D]? = some (.deferred (some [])) → c.wpIn F n P Q { a with defers := { target := .collected D, args := #[] } :: a.defers } W) :
    (Code.rangeFunc g ps assign body).wpIn F n P Q a w := by
  refine wpIn_rangeFunc fun fn hfn => ?_
  rw [hro]
  -- the record as it looks in a state
  let rec' : LoopState → Option Code → Obj := fun st pe => .loop { state := st, pending := pe, fn, tmps := a.tmps, params := ps, assign, body, defers := w.heap.size }
  generalize hW1 : (w.alloc (.deferred (some []))).alloc (rec' .ready none) = W1
  have hs1 : W1.heap.size = w.heap.size + 2 := by rw [← hW1]; simp
  have hb1 : Below w.heap.size w W1 := by rw [← hW1]; exact ((Below.refl _ w).alloc (Nat.le_refl _) _).alloc (by simp) _
  have hD1 : W1.heap[w.heap.size]? = some (.deferred (some [])) := by
    rw [← hW1, Below.heap_alloc _ _ _ (by simp)]; exact World.alloc_heap_new w _
  have hL1 : W1.heap[w.heap.size + 1]? = some (rec' .ready none) := by
    have := World.alloc_heap_new (w.alloc (.deferred (some []))) (rec' .ready none)
    rw [World.size_alloc] at this
    rw [← hW1]; exact this
  refine ⟨w.heap.size + 1, [{ target := .collected w.heap.size, args := #[] }], W1, { target := .fn (.func gf) lb, args := #[.func (.yield (w.heap.size + 1)) #[] #[]] }, W1, gf,
    #[.func (.yield (w.heap.size + 1)) #[] #[]] ++ lb, W1, ?_, ?_, ?_, ?_, fun _ => h1, ?_⟩
  · rw [← hW1]; exact run_enterLoop_outer _ _ _ _ _
  · simp only [resolve, hg]
    simp [go_sem]
  · intro f' hf'
    simp [Target.leads] at hf'
    subst hf'
    exact hFg
  · simp [invoke, go_sem, eg]
  have hfs : ∀ k, f0 k → k < w.heap.size := fun k hk => (hf0 k hk).1
  have lift : ∀ {β : Type} (K : β → (Nat → Prop) → World → Prop) (L : Obj), L.isCells = false → AbV w.heap.size K →
      AbV W1.heap.size (fun s f W => K s f W ∧ (∀ k, f k → f0 k ∨ (w.heap.size + 2 ≤ k ∧ k < W.heap.size)) ∧ W.heap[w.heap.size + 1]? = some L ∧ W.heap[w.heap.size]? = some (.deferred (some []))) := by
    intro β K L hL hK s f f' A B hs ht hf
    have hn1 : ¬ f (w.heap.size + 1) := fun hh => by
      rcases hs.2.1 _ hh with h1 | h1
      · have := hfs _ h1; omega
      · omega
    have hn0 : ¬ f w.heap.size := fun hh => by
      rcases hs.2.1 _ hh with h1 | h1
      · have := hfs _ h1; omega
      · omega
    refine ⟨hK s f f' A B hs.1 (ht.mono (by omega)) hf, fun k hk => ?_, ht.block _ _ hs.2.2.1 hn1 (.inl (by omega)), ht.block _ _ hs.2.2.2 hn0 (.inl (by omega))⟩
    have hAs : w.heap.size + 1 < A.heap.size := (Array.getElem?_eq_some_iff.1 hs.2.2.1).1
    have hsz := ht.size
    rcases hf k hk with h | h
    · rcases hs.2.1 k h with h | h
      · exact .inl h
      · exact .inr ⟨h.1, by omega⟩
    · exact .inr ⟨by omega, h.2⟩
  refine (hseq (w.heap.size + 1)
    (fun s f W => I s f W ∧ (∀ k, f k → f0 k ∨ (w.heap.size + 2 ≤ k ∧ k < W.heap.size)) ∧ W.heap[w.heap.size + 1]? = some (rec' .ready none) ∧ W.heap[w.heap.size]? = some (.deferred (some [])))
    (fun s f W => ∃ c, Ix c s f W ∧ (∀ k, f k → f0 k ∨ (w.heap.size + 2 ≤ k ∧ k < W.heap.size)) ∧ W.heap[w.heap.size + 1]? = some (rec' .done (some c)) ∧ W.heap[w.heap.size]? = some (.deferred (some [])))
    W1 (by omega) (fun k hk => (hb1.block k (hfs k hk)).trans (hf0 k hk).2) (lift I _ rfl hI)
    (fun s f f' A B hs ht hf => hs.elim fun c hc => ⟨c, lift (Ix c) _ rfl (hIx c) s f f' A B hc ht hf⟩) ?_
    ⟨hI [] f0 f0 w W1 h0 (TurnV.of_below hb1) (fun _ h => .inl h), fun k h => .inl h, hL1, hD1⟩).mono ?_
  · -- one round
    rintro pre x f W ⟨hi, hf, hl, hk⟩ hlen hel
    have hlt : w.heap.size + 1 < W.heap.size := (Array.getElem?_eq_some_iff.1 hl).1
    have hy := run_yield (P := P) (args := encs x) hl (hps x)
    refine ⟨fn, _, assign, body, hy, roundIn_of_wpIn hfn (hassign _ x W _ ⟨_, run_beginRound hl rfl, ?_⟩)⟩
    generalize hWb : W.putObj (w.heap.size + 1) (rec' .busy none) = Wb
    have hlb : Wb.heap[w.heap.size + 1]? = some (rec' .busy none) := by rw [← hWb]; exact World.putObj_heap_same hlt
    have hkb : Wb.heap[w.heap.size]? = some (.deferred (some [])) := by rw [← hWb]; exact (World.putObj_heap_other (by omega)).trans hk
    have hsb : Wb.heap.size = W.heap.size := by rw [← hWb]; simp
    have hib : I pre f Wb := by rw [← hWb]; exact hI.put _ hi (by omega) hl rfl
    have put_rk : ∀ (X : World) (o' : Obj), Rk W1.heap.size f X (X.putObj (w.heap.size + 1) o') := fun X o' =>
      ⟨⟨rfl, rfl, rfl, by simp, fun k hk => by omega⟩, ⟨by simp, fun k o hk ho _ => (World.putObj_heap_other (by omega)).trans ho⟩, fun k hk => World.putObj_heap_other (by
        rcases hf k hk with h | h
        · have := hfs k h; omega
        · omega)⟩
    have hrb : Rk W1.heap.size f W Wb := by rw [← hWb]; exact put_rk W _
    have helb : El x Wb := by rw [← hWb]; exact hEl x W _ _ _ (by omega) hl rfl hel
    refine wpIn_mono (hbody _ pre x f Wb (fun k hk => by rw [hsb]; exact hf k hk) (by omega) hib hlen helb) ?_
    have ends : ∀ (jump : Option Code) (W3 : World), KeepsFrom w.heap.size Wb W3 → ∃ W4, W4 = W3.putObj (w.heap.size + 1) (rec' (if jump.isNone then .ready else .done) jump) ∧
        (Instr.endRound (w.heap.size + 1) jump).run P W3 = .ok (.bool jump.isNone) W4 ∧ W3.heap[w.heap.size + 1]? = some (rec' .busy none) ∧
        W4.heap[w.heap.size + 1]? = some (rec' (if jump.isNone then .ready else .done) jump) ∧ W4.heap[w.heap.size]? = some (.deferred (some [])) ∧ (∀ k, f k → f0 k ∨ (w.heap.size + 2 ≤ k ∧ k < W4.heap.size)) := by
      intro jump W3 hk3
      have hl3 := hk3.same _ _ (by omega) hlb rfl
      have hsz3 := hk3.size
      refine ⟨_, rfl, run_endRound (P := P) jump hl3, hl3, World.putObj_heap_same (Array.getElem?_eq_some_iff.1 hl3).1, (World.putObj_heap_other (by omega)).trans (hk3.same _ _ (Nat.le_refl _) hkb rfl), fun k hk => ?_⟩
      rcases hf k hk with h | h
      · exact .inl h
      · exact .inr ⟨h.1, by simp; omega⟩
    have jx : ∀ (c : Code) (W3 : World), Rk w.heap.size f Wb W3 → Ix c (pre ++ [x]) f W3 → ∃ v W4, (Instr.endRound (w.heap.size + 1) (some c)).run P W3 = .ok v W4 ∧
        ((Ending.returned v = .returned (.bool true) ∧ (I (pre ++ [x]) f W4 ∧ (∀ k, f k → f0 k ∨ (w.heap.size + 2 ≤ k ∧ k < W4.heap.size)) ∧ W4.heap[w.heap.size + 1]? = some (rec' .ready none) ∧ W4.heap[w.heap.size]? = some (.deferred (some []))) ∧ Rk W1.heap.size f W W4) ∨
         (Ending.returned v = .returned (.bool false) ∧ (∃ c, Ix c (pre ++ [x]) f W4 ∧ (∀ k, f k → f0 k ∨ (w.heap.size + 2 ≤ k ∧ k < W4.heap.size)) ∧ W4.heap[w.heap.size + 1]? = some (rec' .done (some c)) ∧ W4.heap[w.heap.size]? = some (.deferred (some []))) ∧ Rk W1.heap.size f W W4)) := by
      intro c W3 hk3 hx3
      obtain ⟨W4, e4, hr, hl3, hl4, hk4, hf4⟩ := ends (some c) W3 hk3.keeps
      refine ⟨_, W4, hr, .inr ⟨rfl, ⟨c, ?_, hf4, hl4, hk4⟩, ?_⟩⟩
      · rw [e4]
        exact (hIx c).put _ hx3 (by omega) hl3 rfl
      · rw [e4]
        have h2 : Rk W1.heap.size f Wb W3 := ⟨hk3.below, ⟨hk3.keeps.size, fun k o hk ho hc => hk3.keeps.same k o (by omega) ho hc⟩, hk3.mine⟩
        exact (hrb.trans h2).trans (put_rk W3 _)
    intro e a3 W3 hp
    cases e with
    | normal =>
      obtain ⟨hr3, hi3⟩ := hp
      obtain ⟨W4, e4, hr, hl3, hl4, hk4, hf4⟩ := ends none W3 hr3.keeps
      refine ⟨_, W4, hr, .inl ⟨rfl, ⟨?_, hf4, hl4, hk4⟩, ?_⟩⟩
      · rw [e4]; exact hI.put _ hi3 (by omega) hl3 rfl
      · have h2 : Rk W1.heap.size f Wb W3 := ⟨hr3.below, ⟨hr3.keeps.size, fun k o hk ho hc => hr3.keeps.same k o (by omega) ho hc⟩, hr3.mine⟩
        rw [e4]
        exact (hrb.trans h2).trans (put_rk W3 _)
    | ret => exact jx .ret W3 hp.1 hp.2
    | exit id => exact jx (.exit id) W3 hp.1 hp.2
    | goto t => exact jx (.goto t) W3 hp.1 hp.2
    | panic ch => exact hp.elim
    | outgrown => exact hp.elim
  · -- behind the iterator
    rintro e W2 ⟨⟨v, rfl⟩, (⟨xs, f, hSx, hi, hf, hl, hk⟩ | ⟨pre, f, hSpx, c, hi, hf, hl, hk⟩)⟩
    · exact ⟨none, _, run_endLoop (P := P) hl (fun h => by cases h), hdone _ xs f _ (Nat.le_refl _) (fun k hk => (hf k hk).imp id (fun h => h.1)) (hS xs f _ _ _ _ (by omega) hl rfl hSx) (hI.put _ hi (by omega) hl rfl) ((World.putObj_heap_other (by omega)).trans hk)⟩
    · exact ⟨some c, _, run_endLoop (P := P) hl (fun h => by cases h), hstop _ c pre f _ (Nat.le_refl _) (fun k hk => (hf k hk).imp id (fun h => h.1)) (hSp pre f _ _ _ _ (by omega) hl rfl hSpx) ((hIx c).put _ hi (by omega) hl rfl) ((World.putObj_heap_other (by omega)).trans hk)⟩
end Go.Proofs.YtfjiogockpmogaaDoor

namespace Go.Proofs.YtfjiogockpmogaaDoor
open Go.RowKit Go.Shelf Go.Sort
attribute [local go_sem] Oper.semAt_some
set_option linter.unusedVariables false
set_option linter.unusedSimpArgs false
set_option maxRecDepth 100000

theorem bs_ext {p q : ByteArray} (h : p.data.toList = q.data.toList) : p = q := by
  cases p; cases q; congr 1; exact Array.toList_inj.1 h
theorem sl_from (q : ByteArray) (k : Nat) (hk : k ≤ q.size) (w : World) : (Instr.slice 9 (.string q) (some (.int .i64 (k : Int))) none none).run Tryd.prog w = .ok (.string (q.extract k q.size)) w := by
  rw [run_slice_string_from_if w 9 q .i64 k Tryd.underlying9, if_pos ⟨by omega, by omega⟩]
  simp
theorem sl_to (q : ByteArray) (k : Nat) (hk : k ≤ q.size) (w : World) : (Instr.slice 9 (.string q) none (some (.int .i64 (k : Int))) none).run Tryd.prog w = .ok (.string (q.extract 0 k)) w := by
  rw [run_slice_string_to_if w 9 q .i64 k Tryd.underlying9, if_pos ⟨by omega, by omega⟩]
  simp
set_option maxHeartbeats 2000000 in
theorem hsuffix_any (x : List UInt8) (hx : x.length ≤ 1000000) (w : World) :
    Calls Tryd.prog 83 #[.string ⟨x.toArray⟩, .string ⟨#[10]⟩] w fun e w' => e = .returned (.bool (x.getLast? == some 10)) ∧ w = w' := by
  obtain ⟨q, hq⟩ : ∃ q : ByteArray, q = ⟨x.toArray⟩ := ⟨_, rfl⟩
  have hqs : q.size = x.length := by rw [hq]; simp [ByteArray.size]
  rw [← hq]
  rcases Nat.eq_zero_or_pos x.length with h0 | h0
  · obtain rfl : x = [] := List.eq_nil_of_length_eq_zero h0
    have h1 : ¬ (1 : Int) ≤ (q.size : Int) := by omega
    have e : (([] : List UInt8).getLast? == some 10) = false := rfl
    rw [e]
    clear hq hqs h0 hx e
    go_enter Tryd.func83, Tryd.ntmps83
    go_wp2_with (fail)
    go_ret
    exact ⟨rfl, rfl⟩
  · obtain ⟨y, c, rfl⟩ : ∃ y c, x = y ++ [c] := ⟨x.dropLast, x.getLast (List.ne_nil_of_length_pos h0), (List.dropLast_concat_getLast _).symm⟩
    have h1 : (1 : Int) ≤ (q.size : Int) := by omega
    have hE : q.extract y.length q.size = ⟨#[c]⟩ := by
      refine bs_ext ?_
      rw [Lib.extract_data, hqs, hq]
      simp
    have E : ∀ V, (Instr.slice 9 (.string q) (some (.int .i64 ((q.size : Int) - 1))) none none).run Tryd.prog V = .ok (.string ⟨#[c]⟩) V := fun V => by
      have h2 := sl_from q y.length (by rw [hqs]; simp) V
      rw [hE] at h2
      have h3 : ((q.size : Int) - 1) = (y.length : Int) := by rw [hqs]; simp
      rw [h3]; exact h2
    have e : ((y ++ [c]).getLast? == some 10) = (c == 10) := by simp
    rw [e]
    have hb : q.size ≤ 1000001 := by omega
    clear hq hqs h0 hE e hx
    by_cases hc : c = 10
    · subst hc
      go_enter Tryd.func83, Tryd.ntmps83
      go_wp2_with (fail)
      go_ret
      exact ⟨rfl, rfl⟩
    · have hcb : (c == 10) = false := by simpa using hc
      rw [hcb]
      have hc2 : ([c] == [(10 : UInt8)]) = false := by simpa using hc
      go_enter Tryd.func83, Tryd.ntmps83
      go_wp2_with (fail)
      go_ret
      exact ⟨rfl, rfl⟩
/-- what is left of a piece, and whether a newline ended it -/
def cutV (x : List UInt8) : List UInt8 × Bool := if (x.getLast? == some 10) = true then (x.dropLast, true) else (x, false)
set_option maxHeartbeats 2000000 in
theorem hcuts0_any (x : List UInt8) (hx : x.length ≤ 1000000) (w : World) :
    Calls Tryd.prog 70 #[.string ⟨x.toArray⟩, .string ⟨#[10]⟩] w fun e w' => e = .returned (.tuple #[.string ⟨(cutV x).1.toArray⟩, .bool (cutV x).2]) ∧ w = w' := by
  have HS := Lib.hid (hsuffix_any x hx)
  obtain ⟨q, hq⟩ : ∃ q : ByteArray, q = ⟨x.toArray⟩ := ⟨_, rfl⟩
  have hqs : q.size = x.length := by rw [hq]; simp [ByteArray.size]
  cases hg : (x.getLast? == some 10) with
  | false =>
    have e : cutV x = (x, false) := by unfold cutV; rw [hg]; rfl
    rw [hg, ← hq] at HS
    rw [e, ← hq]
    clear hq hqs hg e
    go_enter Tryd.func70, Tryd.ntmps70
    go_wp2_with (refine (HS.out _).mono ?_; rintro e w' ⟨rfl, rfl⟩)
    go_ret2
    exact ⟨rfl, rfl⟩
  | true =>
    have e : cutV x = (x.dropLast, true) := by unfold cutV; rw [hg]; rfl
    rw [hg, ← hq] at HS
    rw [e, ← hq]
    have hne : x ≠ [] := fun e => by subst e; cases hg
    have hpos := List.length_pos_iff.2 hne
    obtain ⟨z, hz⟩ : ∃ z : ByteArray, z = ⟨x.dropLast.toArray⟩ := ⟨_, rfl⟩
    have hE : q.extract 0 (x.length - 1) = z := by
      refine bs_ext ?_
      rw [Lib.extract_data, hz, hq]
      simp [List.dropLast_eq_take]
    have E : ∀ V, (Instr.slice 9 (.string q) none (some (.int .i64 ((q.size : Int) - 1))) none).run Tryd.prog V = .ok (.string z) V := fun V => by
      have h2 := sl_to q (x.length - 1) (by omega) V
      rw [hE] at h2
      have h3 : ((q.size : Int) - 1) = ((x.length - 1 : Nat) : Int) := by omega
      rw [h3]; exact h2
    have hb : q.size ≤ 1000001 := by omega
    simp only
    rw [← hz]
    clear hq hqs hE hg e hz hne hpos
    go_enter Tryd.func70, Tryd.ntmps70
    go_wp2_with (refine (HS.out _).mono ?_; rintro e w' ⟨rfl, rfl⟩)
    go_ret2
    exact ⟨rfl, rfl⟩
set_option maxHeartbeats 2000000 in
theorem hcuts_any (x : List UInt8) (hx : x.length ≤ 1000000) (w : World) :
    Calls Tryd.prog 57 #[.string ⟨x.toArray⟩, .string ⟨#[10]⟩] w fun e w' => e = .returned (.tuple #[.string ⟨(cutV x).1.toArray⟩, .bool (cutV x).2]) ∧ w = w' := by
  have hs := hcuts0_any x hx
  generalize cutV x = p at *
  obtain ⟨a, b⟩ := p
  simp only at hs ⊢
  have HS := Lib.hid hs
  clear hs
  go_enter Tryd.func57, Tryd.ntmps57
  go_wp2_with (refine (HS.out _).mono ?_; rintro e w' ⟨rfl, rfl⟩)
  go_ret2
  exact ⟨rfl, rfl⟩
set_option maxHeartbeats 1000000 in
theorem hlines_any (s : ByteArray) (w : World) : Calls Tryd.prog 56 #[.string s] w fun e w' =>
    e = .returned (.func (.func 68) #[] #[.pointer (some ⟨w.heap.size, 0, none⟩)]) ∧ w' = w.alloc (.cells #[.string s] 9) := by
  go_enter Tryd.func56, Tryd.ntmps56
  go_wp2
  go_ret
  exact ⟨rfl, rfl⟩
def encL (x : List UInt8) : Array Value := #[.string ⟨x.toArray⟩]
theorem TurnV.own {b B : Nat} (A : World) (v : Value) : TurnV b (fun k => k = B) A (A.setCell ⟨B, 0, none⟩ v) :=
  ⟨rfl, rfl, rfl, by simp, fun k o ho hk _ => (Below.heap_setCell _ _ _ _ (fun e => hk e)).trans ho⟩
/-- how long what is left is -/
def remN (B : Nat) (w : World) : Nat := match w.cell? ⟨B, 0, none⟩ with | some (.string s) => s.size | _ => 0
theorem remN_at {B : Nat} {w : World} {r : List UInt8} (h : Boxed w B 9 (.string ⟨r.toArray⟩)) : remN B w = r.length := by
  unfold remN; rw [h.cell]; simp [ByteArray.size]
set_option maxHeartbeats 4000000 in
theorem lines_stops (s : List UInt8) (hs : s.length ≤ 1000000) (B : Nat) (w : World) (hB : Boxed w B 9 (.string ⟨s.toArray⟩)) (m : Nat) :
    SeqV Fence.wide (m + 2) Tryd.prog 68 #[.pointer (some ⟨B, 0, none⟩)] encL (fun k => k = B) (fun x _ => x ∈ pcs s) (fun ys _ _ => ys = pcs s) (fun pre _ _ => pre <+: pcs s) s.length w := by
  intro l J Jx W hsz hf0 hJ hJx hY h0
  have hBW : Boxed W B 9 (.string ⟨s.toArray⟩) := (hf0 B rfl).trans hB
  have HY := Lib.hid hY
  have H0 := Lib.hid h0
  have HJ := Lib.hid hJ
  have HB := Lib.hid hBW
  clear hY h0 hJ hJx hf0 hB hBW
  refine callsIn_of_wp Tryd.func68 rfl trivial ?_ rfl
  simp only [Tryd.ntmps68, List.size_toArray, List.length_cons, List.length_nil, Nat.reduceAdd, Nat.reduceSub, Array.replicate_succ, Array.replicate_zero, List.push_toArray, List.append_toArray, List.nil_append, List.cons_append]
  gi_wp2_with (fail)
  gi_loopw [3, 4] (fun v3 v4 wr => ∃ (pre : List (List UInt8)) (r : List UInt8), pcs s = pre ++ pcs r ∧ r.length + pre.length ≤ s.length ∧ Boxed wr B 9 (.string ⟨r.toArray⟩) ∧ J pre (fun k => k = B) wr) (fun _ _ wr => remN B wr)
  case atStart => exact ⟨[], s, rfl, by simp, HB.out, H0.out⟩
  case round =>
    obtain ⟨pre, r, hp, hl, hbx, hj⟩ := hrel
    have hc := hbx.cell
    have hfr := hbx.frozen
    by_cases hr0 : r = []
    · subst hr0
      rw [pcs_nil, List.append_nil] at hp
      have HP := Lib.hid hp
      have HJP := Lib.hid hj
      clear hp hj hl hbx
      gi_wp2_with (fail)
      go_end0
      first | exact ⟨⟨_, rfl⟩, .inl ⟨_, _, HP.out.symm, HJP.out⟩⟩ | exact ⟨⟨_, rfl⟩, .inl ⟨pre, fun k => k = B, HP.out.symm, HJP.out⟩⟩
    · have hpos := List.length_pos_iff.2 hr0
      have hix : ∀ V, Calls Tryd.prog 69 #[.string ⟨r.toArray⟩, .int .u8 10] V fun e w' => e = .returned (.int .i64 (Lib.indexByte r 10)) ∧ V = w' := fun V => (sh_strings_IndexByte ⟨r.toArray⟩ 10 V).mono (by rintro e w' ⟨rfl, rfl⟩; exact ⟨rfl, rfl⟩)
      have hmeas := remN_at hbx
      obtain ⟨q, hq⟩ : ∃ q : ByteArray, q = ⟨r.toArray⟩ := ⟨_, rfl⟩
      have hqs : q.size = r.length := by rw [hq]; simp [ByteArray.size]
      rw [← hq] at hc hix
      have hq1 : (0 : Int) < (q.size : Int) := by omega
      have HBX := Lib.hid hbx
      have HJP := Lib.hid hj
      have HP := Lib.hid hp
      have HM := Lib.hid hmeas
      clear hbx hj hmeas
      rcases split10 r with hno | ⟨a, t, hrt, ha⟩
      · rw [index10_no hno] at hix
        have HIX := Lib.hid hix
        have hj1 := HJ.out pre _ _ _ _ HJP.out (TurnV.own (B := B) wr (.string ⟨#[]⟩)) (fun k hk => .inl hk)
        have hb1 := Boxed.set (.string ⟨#[]⟩) HBX.out
        have hps : pcs s = pre ++ [r] := by rw [hp, pcs_no hno hr0]
        have HPS := Lib.hid hps
        have HB1 := Lib.hid hb1
        have hyy := HY.out pre r _ _ hj1 (by omega) (by rw [hps]; simp)
        obtain ⟨fn, tmps, assign, body, hy, hR⟩ := hyy
        simp only [encL] at hy
        rw [← hq] at hy
        clear hix hno hp hq hj1 hb1 hps
        gi_wp2_with (fail)
        refine ⟨trivial, ?_⟩
        refine (callsIn_wide.2 (HIX.out _)).mono ?_
        rintro e w' ⟨rfl, rfl⟩
        gi_wp2
        refine hR.mono ?_
        rintro e W3 (⟨rfl, hJ3, hk3⟩ | ⟨rfl, hJ3, hk3⟩)
        · have hb3 : Boxed W3 B 9 (.string ⟨([] : List UInt8).toArray⟩) := (hk3.mine B rfl).trans HB1.out
          gi_wp2
          exact ⟨⟨pre ++ [r], [], by rw [HPS.out, pcs_nil]; simp, by simp; omega, hb3, hJ3⟩, by rw [remN_at hb3, HM.out]; simpa using hpos⟩
        · gi_wp2
          refine bodyPost_ret (results_none rfl _ _ _) rfl ?_
          exact ⟨⟨_, rfl⟩, .inr ⟨_, fun k => k = B, (by rw [HPS.out]; exact List.prefix_refl _), hJ3⟩⟩
      · have hal : a.length + 1 + t.length = r.length := by rw [hrt]; simp; omega
        have hi : Lib.indexByte r 10 = a.length := by rw [hrt]; exact index10_run ha
        rw [hi] at hix
        have HIX := Lib.hid hix
        obtain ⟨x1, hx1⟩ : ∃ x1 : ByteArray, x1 = ⟨(a ++ [10]).toArray⟩ := ⟨_, rfl⟩
        obtain ⟨x2, hx2⟩ : ∃ x2 : ByteArray, x2 = ⟨t.toArray⟩ := ⟨_, rfl⟩
        have hE1 : q.extract 0 (a.length + 1) = x1 := by
          refine bs_ext ?_
          rw [Lib.extract_data, hx1, hq, hrt]
          simp [List.take_append]
          try exact List.take_of_length_le (by omega)
        have hE2 : q.extract (a.length + 1) q.size = x2 := by
          refine bs_ext ?_
          rw [Lib.extract_data, hx2, hqs, hq, hrt]
          simp [List.drop_append]
          rw [List.drop_eq_nil_of_le (by omega), List.nil_append]
          exact List.take_of_length_le (by omega)
        have hc1 : ((a.length + 1 : Nat) : Int) = (a.length : Int) + 1 := by omega
        have E1 : ∀ V, (Instr.slice 9 (.string q) none (some (.int .i64 ((a.length : Int) + 1))) none).run Tryd.prog V = .ok (.string x1) V := fun V => by
          have h2 := sl_to q (a.length + 1) (by omega) V
          rw [hE1, hc1] at h2; exact h2
        have E2 : ∀ V, (Instr.slice 9 (.string q) (some (.int .i64 ((a.length : Int) + 1))) none none).run Tryd.prog V = .ok (.string x2) V := fun V => by
          have h2 := sl_from q (a.length + 1) (by omega) V
          rw [hE2, hc1] at h2; exact h2
        have hps : pcs s = (pre ++ [a ++ [10]]) ++ pcs t := by rw [hp, hrt, pcs_run ha]; simp
        have HPS := Lib.hid hps
        have hlen1 : (a ++ [10]).length ≤ s.length := by simp; omega
        have hwr : IntKind.i64.wrap ((a.length : Int) + 1) = (a.length : Int) + 1 := IntWalk.i64_in _ (by omega)
        have hge : (0 : Int) ≤ (a.length : Int) := by omega
        have k0 := cell_regrown hc
        have HX1 := Lib.hid hx1
        have HX2 := Lib.hid hx2
        clear hix hp hq hps hE1 hE2 hi hrt ha hx1 hx2 hc1
        gi_wp2_with (fail)
        refine ⟨trivial, ?_⟩
        refine (callsIn_wide.2 (HIX.out _)).mono ?_
        rintro e w' ⟨rfl, rfl⟩
        gi_wp2_with (fail)
        refine wpIn_region_below_tail 9 (by kernel_rfl) (by kernel_rfl) (by kernel_rfl) ?_
        simp only [List.take_succ_cons, List.take_zero, List.drop_succ_cons, List.drop_zero]
        repeat (first
          | gi_big_quiet_step (fail)
          | quiet_step_in (fail))
        refine wpQuietIn_nil ?_
        intro _ hw'
        obtain ⟨⟨dq, osq⟩, hw''⟩ := hw'
        subst hw''
        have hbe := below_regrown wr dq osq
        have hj2 := HJ.out pre _ _ _ _ HJP.out (TurnV.of_below (b := W.heap.size) (f := fun k => k = B) hbe) (fun k hk => .inl hk)
        have hb2 := (hbe.block _ (Boxed.lt HBX.out)).trans HBX.out
        have hb2' : Boxed (grow (redrawn wr dq) osq) B 9 (.string ⟨r.toArray⟩) := hb2
        clear k0 hwr hbe hb2 hc hfr
        generalize grow (redrawn wr dq) osq = w2 at *
        have hfr := hb2'.frozen
        have hc := hb2'.cell
        have hj1 := HJ.out pre _ _ _ _ hj2 (TurnV.own (B := B) w2 (.string x2)) (fun k hk => .inl hk)
        have hb1 := Boxed.set (.string x2) hb2'
        have HB1 := Lib.hid hb1
        have hyy := HY.out pre (a ++ [10]) _ _ hj1 (by omega) (by rw [HPS.out]; simp)
        obtain ⟨fn, tmps, assign, body, hy, hR⟩ := hyy
        simp only [encL] at hy
        rw [← HX1.out] at hy
        clear hj2 hj1 hb1 hb2' E1 E2
        gi_wp2
        refine hR.mono ?_
        rintro e W3 (⟨rfl, hJ3, hk3⟩ | ⟨rfl, hJ3, hk3⟩)
        · have hb3 : Boxed W3 B 9 (.string ⟨t.toArray⟩) := by rw [← HX2.out]; exact (hk3.mine B rfl).trans HB1.out
          gi_wp2
          exact ⟨⟨pre ++ [a ++ [10]], t, HPS.out, by simp; omega, hb3, hJ3⟩, by rw [remN_at hb3, HM.out]; omega⟩
        · gi_wp2
          refine bodyPost_ret (results_none rfl _ _ _) rfl ?_
          exact ⟨⟨_, rfl⟩, .inr ⟨_, fun k => k = B, (by rw [HPS.out]; exact List.prefix_append _ _), hJ3⟩⟩
end Go.Proofs.YtfjiogockpmogaaDoor

namespace Go.Proofs.YtfjiogockpmogaaDoor
open Go.RowKit Go.Maps
set_option linter.unusedVariables false

def tTrue : DataW Unit := .lit (.bool true)
/-- the map of texts -/
def dOf (L : List (List UInt8)) : DataW Unit := L.foldl (fun D l => D.put (.string l) tTrue) (.map [])
theorem dOf_snoc (L : List (List UInt8)) (x : List UInt8) : dOf (L ++ [x]) = (dOf L).put (.string x) tTrue := by simp [dOf]
theorem list_snoc_ind {α : Type} {p : List α → Prop} (h0 : p []) (hs : ∀ l a, p l → p (l ++ [a])) (l : List α) : p l := by
  have : ∀ r : List α, p r.reverse := fun r => by
    induction r with
    | nil => exact h0
    | cons a r ih => rw [List.reverse_cons]; exact hs _ _ ih
  have h := this l.reverse
  rwa [List.reverse_reverse] at h
theorem dOf_tidy (L : List (List UInt8)) : Tidy (dOf L) := by
  induction L using list_snoc_ind with
  | h0 => exact tidy_empty
  | hs L x ih => rw [dOf_snoc]; exact ih.put (by trivial) _
theorem dOf_has (L : List (List UInt8)) (y : List UInt8) : Maps.has (dOf L) (.string y) = L.contains y := by
  induction L using list_snoc_ind with
  | h0 => rfl
  | hs L x ih =>
    rw [dOf_snoc]
    by_cases h : y = x
    · subst h
      rw [has_put_same (dOf_tidy L).isMap (by trivial)]
      simp
    · rw [has_put_other (fun e => h (by injection e)), ih]
      simp [h]
theorem dOf_size_le (L : List (List UInt8)) : Maps.size (dOf L) ≤ L.length := by
  induction L using list_snoc_ind with
  | h0 => exact Nat.le_refl _
  | hs L x ih =>
    rw [dOf_snoc, size_put (dOf_tidy L)]
    split <;> simp <;> omega
theorem dOf_size (L : List (List UInt8)) : Maps.size (dOf L) < L.length ↔ ¬ L.Nodup := by
  induction L using list_snoc_ind with
  | h0 => simp [dOf, Maps.size]
  | hs L x ih =>
    have hle := dOf_size_le L
    rw [dOf_snoc, size_put (dOf_tidy L), dOf_has]
    rw [List.nodup_append]
    simp only [List.length_append, List.length_singleton]
    by_cases hx : x ∈ L
    · have hc : L.contains x = true := by simpa using hx
      rw [hc, if_pos rfl]
      constructor
      · intro _ h
        exact h.2.2 x hx x (by simp) rfl
      · intro _; omega
    · have hc : L.contains x = false := by simpa using hx
      rw [hc, if_neg (by simp)]
      constructor
      · intro h hn
        exact (ih.1 (by omega)) hn.1
      · intro h
        have : ¬ L.Nodup := fun hn => h ⟨hn, by simp, fun a ha b hb => by
          simp only [List.mem_singleton] at hb
          subst hb
          exact fun e => hx (e ▸ ha)⟩
        have := ih.2 this
        omega
end Go.Proofs.YtfjiogockpmogaaDoor

namespace Go.Proofs.YtfjiogockpmogaaDoor
open Go.RowKit Go.Shelf Go.Sort Go.Maps
attribute [local go_sem] Oper.semAt_some
set_option linter.unusedVariables false
set_option linter.unusedSimpArgs false
set_option maxRecDepth 100000

theorem put_one1 (a : Nat) (c : Value) (t : Array Value) : Array.foldl (fun (t : Array Value) (x : Nat × Value) => t.setIfInBounds x.1 x.2) t ((#[a] : Array Nat).zip #[c]) = t.setIfInBounds a c := by
  have e : ((#[a] : Array Nat).zip #[c]) = #[(a, c)] := by simp
  rw [e]
  rfl
/-- how a map's element reads: it is not looked at -/
def rdE (_ : Value) : Option (DataW Unit × List MemPlace) := some (tTrue, [])
theorem rd_law : Keyed Tryd.prog 9 := string_keyed Tryd.underlying9
abbrev SOwns (w : World) (b n : Nat) (D : DataW Unit) : Prop := w.ownsMap Tryd.prog 9 rdE b n D
theorem SOwns.at_ {w w' : World} {b n : Nat} {D : DataW Unit} (h : SOwns w b n D) (hb : w'.heap[b]? = w.heap[b]?) : SOwns w' b n D := by
  obtain ⟨es, clock, h1, h2, h3, h4⟩ := h
  exact ⟨es, clock, hb.trans h1, h2, h3, h4⟩
theorem SOwns.obj {w : World} {b n : Nat} {D : DataW Unit} (h : SOwns w b n D) : ∃ o, w.heap[b]? = some o := by
  obtain ⟨es, clock, h1, _⟩ := h
  exact ⟨_, h1⟩
/-- the texts of pieces -/
def txp (pre : List (List UInt8)) : List (List UInt8) := pre.map List.dropLast
theorem txp_snoc (pre : List (List UInt8)) (x : List UInt8) : txp (pre ++ [x]) = txp pre ++ [x.dropLast] := by simp [txp]
theorem txp_length (pre : List (List UInt8)) : (txp pre).length = pre.length := by simp [txp]
/-- the iterator's own blocks, and those of read that an append must leave -/
def fG (f : Nat → Prop) (h : Nat) (k : Nat) : Prop := f k ∨ k = h ∨ k = h + 1 ∨ k = h + 3 ∨ k = h + 4
theorem OR.turnV {b : Nat} {f : Nat → Prop} {X Y : World} {base n c : Nat} {e : TypeId} {A : Option Addr} {xs : List Value} (h : OR X base e A n c xs) (ht : TurnV b f X Y) (hf : ∀ g, blk A = some g → ¬ f g) : OR Y base e A n c xs := by
  obtain ⟨⟨hl, hv⟩, hn⟩ := h
  refine ⟨⟨hl, ?_⟩, hn⟩
  rcases hv with hv | ⟨g, cap, cur, hv, h1, h2, h3⟩
  · exact .inl hv
  · refine .inr ⟨g, cap, cur, hv, h1, ?_, h3⟩
    injection hv with hA
    subst hA
    exact ht.block _ _ h2 (hf g rfl) (.inr rfl)
/-- the boxes of read within a round -/
structure RdS (h : Nat) (pre : List (List UInt8)) (f : Nat → Prop) (W : World) : Prop where
  b0 : Boxed W h 27 (.slice none 0 0)
  b1 : Boxed W (h + 1) 24 (.int .i64 0)
  b2 : HoldP (h + 2) 27 9 h (sv (txp pre)) (fG f h) W
  b4 : Boxed W (h + 4) 98 (.map (some (h + 3)))
  mo : SOwns W (h + 3) pre.length (dOf (txp pre))
  nf : ∀ k, f k → h + 5 ≤ k
  b3 : pre = [] → Boxed W (h + 2) 27 (.slice none 0 0)
theorem RdS.ab {h b : Nat} (hb : h + 5 ≤ b) : AbV b (fun pre f W => RdS h pre f W) := fun pre f f' X Y q ht hf => by
  have hn : ∀ k, k < h + 5 → ¬ f k := fun k hk hf => by have := q.nf k hf; omega
  have hb2 := q.b2
  obtain ⟨A, n, c, hbx, hr, hm⟩ := hb2
  have hsz : h + 4 < X.heap.size := q.b4.lt
  refine ⟨ht.block _ _ q.b0 (hn _ (by omega)) (.inl (by omega)), ht.block _ _ q.b1 (hn _ (by omega)) (.inl (by omega)), ⟨A, n, c, ht.block _ _ hbx (hn _ (by omega)) (.inl (by omega)), hr.turnV ht (fun g hg hk => hm g hg (.inl hk)), fun g hg hk => ?_⟩, ht.block _ _ q.b4 (hn _ (by omega)) (.inl (by omega)), ?_, fun k hk => ?_, fun e => ht.block _ _ (q.b3 e) (hn _ (by omega)) (.inl (by omega))⟩
  · have h1 := (hr.blk_lt g hg).2
    rcases hk with hk | hk
    · rcases hf g hk with h2 | h2
      · exact hm g hg (.inl h2)
      · omega
    · exact hm g hg (.inr hk)
  · obtain ⟨o, ho⟩ := q.mo.obj
    exact q.mo.at_ ((ht.block _ _ ho (hn _ (by omega)) (.inl (by omega))).trans ho.symm)
  · rcases hf k hk with h2 | h2
    · exact q.nf k h2
    · omega
/-- What read comes to. -/
def ReadP (w : World) (s : List UInt8) (e : Ending) (w' : World) : Prop :=
  (okS s = false ∧ e = .returned (.tuple #[.slice none 0 0, .int .i64 7]) ∧ Below w.heap.size w w') ∨
  (okS s = true ∧ ¬ (lnsOf s).Nodup ∧ e = .returned (.tuple #[.slice none 0 0, .int .i64 1]) ∧ Below w.heap.size w w') ∨
  (okS s = true ∧ (lnsOf s).Nodup ∧ (∃ A c, e = .returned (.tuple #[.slice A (lnsOf s).length c, .int .i64 0]) ∧ OR w' w.heap.size 9 A (lnsOf s).length c (sv (lnsOf s)) ∧ (lnsOf s = [] → A = none ∧ c = 0)) ∧ Below w.heap.size w w')
/-- How read is left within a round. -/
def RdX (w : World) (co : Code) (pre : List (List UInt8)) (f : Nat → Prop) (W : World) : Prop :=
  co = .ret ∧ (∃ p x, pre = p ++ [x] ∧ okPc x = false) ∧ Boxed W w.heap.size 27 (.slice none 0 0) ∧ Boxed W (w.heap.size + 1) 24 (.int .i64 7) ∧ Below w.heap.size w W ∧ (∀ k, f k → w.heap.size + 5 ≤ k) ∧ w.heap.size + 5 ≤ W.heap.size
theorem below_turnV {n0 b : Nat} {f : Nat → Prop} {w X Y : World} (h : Below n0 w X) (ht : TurnV b f X Y) (hb : n0 ≤ b) (hw : n0 ≤ w.heap.size) (hf : ∀ k, f k → n0 ≤ k) : Below n0 w Y :=
  h.trans ⟨ht.os, ht.tape, ht.output, ht.size, fun k hk => by
    have hlt : k < X.heap.size := by have := h.size; omega
    rw [Array.getElem?_eq_getElem hlt]
    exact ht.block k _ (Array.getElem?_eq_getElem hlt) (fun e => by have := hf k e; omega) (.inl (by omega))⟩
theorem RdX.ab {w : World} {b : Nat} (hb : w.heap.size + 5 ≤ b) (co : Code) : AbV b (RdX w co) := fun pre f f' X Y q ht hf => by
  obtain ⟨hc, hx, b0, b1, hbe, hn, hz⟩ := q
  have hs : w.heap.size + 1 < X.heap.size := b1.lt
  refine ⟨hc, hx, ht.block _ _ b0 (fun e => by have := hn _ e; omega) (.inl (by omega)), ht.block _ _ b1 (fun e => by have := hn _ e; omega) (.inl (by omega)), below_turnV hbe ht (by omega) (Nat.le_refl _) (fun k e => by have := hn k e; omega), fun k hk => ?_, Nat.le_trans hz ht.size⟩
  rcases hf k hk with h2 | h2
  · exact hn k h2
  · omega
theorem keyof_strS (N : List UInt8) (h : N.length ≤ maxLen) : keyOf Tryd.prog 9 (.string ⟨N.toArray⟩) = some (.string N) := by
  exact WideMaps.keyOf_string_mk Tryd.underlying9 (by show N.toArray.size ≤ _; rw [List.size_toArray]; exact h)
theorem Rk.grownM {base : Nat} {f : Nat → Prop} {A B C : World} {b : Nat} (h : Rk base f A B) (hg : B.grownBy C (some b)) (hf : ∀ k, f k → k < A.heap.size) (hb : ¬ f b) (hlt : b < base) : Rk base f A C :=
  h.trans ⟨⟨hg.os, hg.tape, hg.output, hg.size, fun k hk => by omega⟩, ⟨hg.size, fun k o hk ho _ => (hg.block k (Array.getElem?_eq_some_iff.1 ho).1 (fun e => by injection e with e; omega)).trans ho⟩,
    fun k hk => hg.block k (by have := hf k hk; have := h.below.size; omega) (fun e => by injection e with e; exact hb (e ▸ hk))⟩
theorem rd_end {w W : World} {D : Nat} {u v : Value} (hK : W.heap[D]? = some (.deferred (some []))) (z0 : Boxed W w.heap.size 27 u) (z1 : Boxed W (w.heap.size + 1) 24 v) (hc : Below w.heap.size w W) (hD : w.heap.size ≤ D) :
    (W.putObj D (.deferred none)).cell? ⟨w.heap.size, 0, none⟩ = some u ∧ (W.putObj D (.deferred none)).cell? ⟨w.heap.size + 1, 0, none⟩ = some v ∧ Below w.heap.size w (W.putObj D (.deferred none)) := by
  have hne : ∀ (k : Nat) (o : Obj), W.heap[k]? = some o → o.isCells = true → k ≠ D := fun k o ho hc e => by
    subst e; rw [hK] at ho; cases ho; cases hc
  have hz : ∀ (k : Nat) (o : Obj), W.heap[k]? = some o → o.isCells = true → (W.putObj D (.deferred none)).heap[k]? = W.heap[k]? := fun k o ho hc => World.putObj_heap_other (hne k o ho hc)
  exact ⟨Boxed.cell (t := 27) ((hz _ _ z0 rfl).trans z0), Boxed.cell (t := 24) ((hz _ _ z1 rfl).trans z1), hc.trans (belowK_b (w := w) (Nat.le_refl _) W D _ _ hD hK rfl rfl)⟩
set_option maxHeartbeats 8000000 in
theorem hread_any (s : List UInt8) (hs : s.length ≤ 1000000) (hx : ∀ x ∈ pcs s, x.length ≤ 1000) (w : World) (hT : Tabs w) :
    Calls Tryd.prog 40 #[.string ⟨s.toArray⟩] w (ReadP w s) := by
  have HT := Lib.hid hT
  have HXL := Lib.hid hx
  clear hT hx
  have hmm := @run_makeMap Tryd.prog
  refine (callsIn_wide (n := 9)).1 ?_
  refine callsIn_of_wp_marks Tryd.func40 rfl trivial ?_ rfl
  simp only [Tryd.ntmps40, List.size_toArray, List.length_cons, List.length_nil, Nat.reduceAdd, Nat.reduceSub, Array.replicate_succ, Array.replicate_zero, List.push_toArray, List.append_toArray, List.nil_append, List.cons_append]
  refine wpIn_wide.2 ?_
  go_wp2_with (go_at_call 56; refine (hlines_any _ _).mono ?_; rintro e w' ⟨rfl, rfl⟩)
  clear hmm
  obtain ⟨w1, hw1⟩ : ∃ w1, w1 = w.alloc (.cells #[.slice none 0 0] 27) := ⟨_, rfl⟩
  obtain ⟨w2, hw2⟩ : ∃ w2, w2 = w1.alloc (.cells #[.int .i64 0] 24) := ⟨_, rfl⟩
  obtain ⟨w3, hw3⟩ : ∃ w3, w3 = w2.alloc (.cells #[.slice none 0 0] 27) := ⟨_, rfl⟩
  obtain ⟨w4, hw4⟩ : ∃ w4, w4 = w3.alloc (.map #[] 0) := ⟨_, rfl⟩
  obtain ⟨w5, hw5⟩ : ∃ w5, w5 = w4.alloc (.cells #[.map (some (w.heap.size + 1 + 1 + 1))] 98) := ⟨_, rfl⟩
  have s1 : w1.heap.size = w.heap.size + 1 := by rw [hw1]; simp
  have s2 : w2.heap.size = w.heap.size + 1 + 1 := by rw [hw2]; simp [s1]
  have s3 : w3.heap.size = w.heap.size + 1 + 1 + 1 := by rw [hw3]; simp [s2]
  have s4 : w4.heap.size = w.heap.size + 1 + 1 + 1 + 1 := by rw [hw4]; simp [s3]
  have s5 : w5.heap.size = w.heap.size + 1 + 1 + 1 + 1 + 1 := by rw [hw5]; simp [s4]
  have z0 : Boxed w1 w.heap.size 27 (.slice none 0 0) := by rw [hw1]; exact Boxed.new w _ _
  have z1 : Boxed w2 (w.heap.size + 1) 24 (.int .i64 0) := by rw [hw2, ← s1]; exact Boxed.new w1 _ _
  have z2 : Boxed w3 (w.heap.size + 1 + 1) 27 (.slice none 0 0) := by rw [hw3, ← s2]; exact Boxed.new w2 _ _
  have z3 : SOwns w4 (w.heap.size + 1 + 1 + 1) 0 (.map []) := by rw [hw4, ← s3]; exact World.ownsMap_made w3 _ _ _
  have z4 : Boxed w5 (w.heap.size + 1 + 1 + 1 + 1) 98 (.map (some (w.heap.size + 1 + 1 + 1))) := by rw [hw5, ← s4]; exact Boxed.new w4 _ _
  obtain ⟨X1, hX1⟩ : ∃ X1, X1 = w5.alloc (.cells #[.string ⟨s.toArray⟩] 9) := ⟨_, rfl⟩
  have z5 : Boxed X1 (w.heap.size + 1 + 1 + 1 + 1 + 1) 9 (.string ⟨s.toArray⟩) := by rw [hX1, ← s5]; exact Boxed.new w5 _ _
  have b01 : Below w.heap.size w w1 := by rw [hw1]; exact (Below.refl _ _).alloc (Nat.le_refl _) _
  have b12 : Below w1.heap.size w1 w2 := by rw [hw2]; exact (Below.refl _ _).alloc (Nat.le_refl _) _
  have b23 : Below w2.heap.size w2 w3 := by rw [hw3]; exact (Below.refl _ _).alloc (Nat.le_refl _) _
  have b34 : Below w3.heap.size w3 w4 := by rw [hw4]; exact (Below.refl _ _).alloc (Nat.le_refl _) _
  have b45 : Below w4.heap.size w4 w5 := by rw [hw5]; exact (Below.refl _ _).alloc (Nat.le_refl _) _
  have b5X : Below w5.heap.size w5 X1 := by rw [hX1]; exact (Below.refl _ _).alloc (Nat.le_refl _) _
  have b4X : Below w4.heap.size w4 X1 := b45.trans (b5X.mono b45.size)
  have b3X : Below w3.heap.size w3 X1 := b34.trans (b4X.mono b34.size)
  have b2X : Below w2.heap.size w2 X1 := b23.trans (b3X.mono b23.size)
  have b1X : Below w1.heap.size w1 X1 := b12.trans (b2X.mono b12.size)
  have hbX : Below w.heap.size w X1 := b01.trans (b1X.mono b01.size)
  have hR : RdS w.heap.size [] (fun k => k = w.heap.size + 1 + 1 + 1 + 1 + 1) X1 :=
    ⟨(b1X.block _ z0.lt).trans z0, (b2X.block _ z1.lt).trans z1, ⟨none, 0, 0, (b3X.block _ z2.lt).trans z2, OR.none_ _ _ _, fun g hg => by cases hg⟩, (b5X.block _ z4.lt).trans z4,
      SOwns.at_ z3 (b4X.block _ (by omega)), fun k hk => by omega, fun _ => (b3X.block _ z2.lt).trans z2⟩
  have sX : X1.heap.size = w.heap.size + 1 + 1 + 1 + 1 + 1 + 1 := by rw [hX1]; simp [s5]
  rw [← hw1, ← hw2, ← hw3, ← hw4, ← hw5, ← hX1]
  have HR := Lib.hid hR
  have HBX := Lib.hid hbX
  have HSX := Lib.hid sX
  clear hw1 hw2 hw3 hw4 hw5 hX1 s1 s2 s3 s4 s5 z0 z1 z2 z3 z4 b01 b12 b23 b34 b45 b5X b4X b3X b2X b1X w1 w2 w3 w4 w5 hR hbX sX
  refine (wpIn_wide (n := 9)).1 ?_
  refine range_v rfl (by omega) (gf := 68) (lb := #[.pointer (some ⟨w.heap.size + 1 + 1 + 1 + 1 + 1, 0, none⟩)]) rfl trivial (enters_of Tryd.func68 (by kernel_rfl) rfl)
    (lines_stops s hs (w.heap.size + 1 + 1 + 1 + 1 + 1) X1 z5 6)
    (Nat.le_refl _) (fun k hk => ⟨by have := HSX.out; omega, rfl⟩) (fun _ => rfl) (fun _ _ _ _ _ _ _ _ h => h) (fun _ _ _ _ _ _ _ _ _ h => h) (fun _ _ _ _ _ _ _ _ _ h => h)
    (fun pre f W => RdS w.heap.size pre f W ∧ Below w.heap.size w W ∧ (∀ x ∈ pre, okPc x = true))
    (RdX w)
    (fun pre f f' A B q ht hf => ⟨RdS.ab (by have := HSX.out; omega) pre f f' A B q.1 ht hf, below_turnV q.2.1 ht (by have := HSX.out; omega) (Nat.le_refl _) (fun k e => by have := q.1.nf k e; omega), q.2.2⟩)
    (RdX.ab (by have := HSX.out; omega))
    ⟨HR.out, HBX.out, by simp⟩
    ?a1 ?assign ?body ?done ?stop
  case assign =>
    intro l x W K hK
    simp only [encL]
    rw [put_one1]
    gi_wp2
    exact hK
  case body =>
    rintro lo' pre x f W hff hz ⟨hS, hbW, hok⟩ hlen hel
    have hx1 := HXL.out x hel
    have hfs : ∀ k, f k → k < W.heap.size := fun k hk => by
      rcases hff k hk with h' | h'
      · have := HSX.out; omega
      · exact h'.2
    have hpl : pre.length ≤ 1000000 := by omega
    have hCS := hcuts_any x (by omega) W
    have hszW : w.heap.size + 5 ≤ W.heap.size := by have := hS.b4.lt; omega
    -- the way of a piece that is none
    have ERR : okPc x = false → ∀ W2, Below W.heap.size W W2 → ∀ a : Act, postV X1.heap.size (fun pre f W => RdS w.heap.size pre f W ∧ Below w.heap.size w W ∧ (∀ x ∈ pre, okPc x = true)) (RdX w) f (pre ++ [x]) W .ret a ((W2.setCell ⟨w.heap.size, 0, none⟩ (.slice none 0 0)).setCell ⟨w.heap.size + 1, 0, none⟩ (.int .i64 7)) := fun hno W2 hb2 _ => by
      have y0 : Boxed W2 w.heap.size 27 (.slice none 0 0) := (hb2.block _ hS.b0.lt).trans hS.b0
      have y1 : Boxed W2 (w.heap.size + 1) 24 (.int .i64 0) := (hb2.block _ hS.b1.lt).trans hS.b1
      refine ⟨((Rk.of_below hb2 hfs).setCell (fun e => by have := hS.nf _ e; omega) _).setCell (fun e => by have := hS.nf _ e; omega) _, rfl, ⟨pre, x, rfl, hno⟩, Boxed.other (Boxed.set _ y0) (B' := w.heap.size + 1) (by omega) _, Boxed.set _ (Boxed.other y1 (B' := w.heap.size) (by omega) _), ?_, hS.nf, ?_⟩
      · exact ((hbW.trans (hb2.mono hbW.size)).setCell (p := ⟨w.heap.size, 0, none⟩) (Nat.le_refl _) _).setCell (p := ⟨w.heap.size + 1, 0, none⟩) (by simp) _
      · have := hb2.size; simp; omega
    have HERR := Lib.hid ERR
    have HS := Lib.hid hS
    have HBW := Lib.hid hbW
    have HOK := Lib.hid hok
    have HFS := Lib.hid hfs
    have HZZ := Lib.hid hszW
    have hT := HT.out.below hbW
    clear ERR hff hok hel z5
    cases hg : (x.getLast? == some 10) with
    | false =>
      have e : cutV x = (x, false) := by unfold cutV; rw [hg]; rfl
      rw [e] at hCS
      have hFL := hflat_any ⟨x.toArray⟩ (by simp [ByteArray.size]; omega) W hT
      have hno : okPc x = false := by unfold okPc; rw [hg]; rfl
      have HNO := Lib.hid hno
      have HCS := Lib.hid hCS
      have HFL := Lib.hid hFL
      clear hCS hFL hT hg e hno hS hbW hfs hszW
      gi_wp2_with (fail)
      refine ⟨trivial, ?_⟩
      refine (CallsIn.inRound lo' (callsIn_wide.2 HCS.out)).mono ?_
      rintro e w' ⟨rfl, rfl⟩
      gi_wp2_with (fail)
      refine ⟨trivial, ?_⟩
      refine (CallsIn.inRound lo' (callsIn_wide.2 HFL.out)).mono ?_
      rintro e W2 ⟨rfl, hb2⟩
      have HB2 := Lib.hid hb2
      have y0 : Boxed W2 w.heap.size 27 (.slice none 0 0) := (hb2.block _ HS.out.b0.lt).trans HS.out.b0
      have y1 : Boxed W2 (w.heap.size + 1) 24 (.int .i64 0) := (hb2.block _ HS.out.b1.lt).trans HS.out.b1
      have c0 := y0.cell
      have f0 := y0.frozen
      have c1 := y1.cell
      have f1 := y1.frozen
      clear hb2 y0 y1
      gi_wp2
      exact HERR.out HNO.out _ HB2.out _
    | true =>
      have e : cutV x = (x.dropLast, true) := by unfold cutV; rw [hg]; rfl
      rw [e] at hCS
      have hdl : x.dropLast.length ≤ 1000 := by simp; omega
      have hFL := hflat_any ⟨x.dropLast.toArray⟩ (by simp [ByteArray.size]; omega) W hT
      have hokx : okPc x = (!(x.dropLast == []) && flatB x.dropLast == x.dropLast) := by unfold okPc okL; rw [hg]; rfl
      have hxd := txp_snoc pre x
      clear e hg
      simp only at hCS hFL
      generalize hd : x.dropLast = d at *
      clear hd
      have HXD := Lib.hid hxd
      clear hxd
      obtain ⟨y, hy⟩ : ∃ y, flatB d = y := ⟨_, rfl⟩
      rw [hy] at hFL hokx
      clear hy
      by_cases hy0 : y = []
      · subst hy0
        have hno : okPc x = false := by rw [hokx]; cases d <;> simp
        have HNO := Lib.hid hno
        have hFL : Calls Tryd.prog 49 #[.string ⟨d.toArray⟩] W fun e w' => e = .returned (.tuple #[.string ⟨#[]⟩, .bool false]) ∧ Below W.heap.size W w' := hFL
        clear hno hokx
        have HCS := Lib.hid hCS
        have HFL := Lib.hid hFL
        clear hCS hFL hT hS hbW hfs hszW
        gi_wp2_with (fail)
        refine ⟨trivial, ?_⟩
        refine (CallsIn.inRound lo' (callsIn_wide.2 HCS.out)).mono ?_
        rintro e w' ⟨rfl, rfl⟩
        gi_wp2_with (fail)
        refine ⟨trivial, ?_⟩
        refine (CallsIn.inRound lo' (callsIn_wide.2 HFL.out)).mono ?_
        rintro e W2 ⟨rfl, hb2⟩
        have HB2 := Lib.hid hb2
        have y0 : Boxed W2 w.heap.size 27 (.slice none 0 0) := (hb2.block _ HS.out.b0.lt).trans HS.out.b0
        have y1 : Boxed W2 (w.heap.size + 1) 24 (.int .i64 0) := (hb2.block _ HS.out.b1.lt).trans HS.out.b1
        have c0 := y0.cell
        have f0 := y0.frozen
        have c1 := y1.cell
        have f1 := y1.frozen
        clear hb2 y0 y1
        gi_wp2
        exact HERR.out HNO.out _ HB2.out _
      · have hyb : (y == []) = false := by simpa using hy0
        rw [hyb] at hFL
        by_cases hyd : y = d
        · subst hyd
          have hyes : okPc x = true := by rw [hokx, hyb]; simp
          have HYES := Lib.hid hyes
          clear hokx hyes
          have hFL : Calls Tryd.prog 49 #[.string ⟨y.toArray⟩] W fun e w' => e = .returned (.tuple #[.string ⟨y.toArray⟩, .bool true]) ∧ Below W.heap.size W w' := hFL
          have HCS := Lib.hid hCS
          have HFL := Lib.hid hFL
          clear hCS hFL hT hS hbW hfs hszW hyb
          gi_wp2_with (fail)
          refine ⟨trivial, ?_⟩
          refine (CallsIn.inRound lo' (callsIn_wide.2 HCS.out)).mono ?_
          rintro e w' ⟨rfl, rfl⟩
          gi_wp2_with (fail)
          refine ⟨trivial, ?_⟩
          refine (CallsIn.inRound lo' (callsIn_wide.2 HFL.out)).mono ?_
          rintro e W2 ⟨rfl, hb2⟩
          have hS2 : RdS w.heap.size pre f W2 := RdS.ab (b := X1.heap.size) (by have := HSX.out; omega) pre f f W W2 HS.out (TurnV.of_below hb2) (fun _ h => .inl h)
          have hbw2 : Below w.heap.size w W2 := HBW.out.trans (hb2.mono HBW.out.size)
          have hrk2 : Rk X1.heap.size f W W2 := Rk.of_below hb2 HFS.out
          have hfs2 : ∀ k, f k → k < W2.heap.size := fun k hk => Nat.lt_of_lt_of_le (HFS.out k hk) hb2.size
          have hz2 := Nat.le_trans HZZ.out hb2.size
          obtain ⟨A, n, c, hb, hr, hm⟩ := hS2.b2
          have hn : n = pre.length := by rw [hr.len, sv_length, txp_length]
          subst hn
          have hfg : ∀ k, fG f w.heap.size k → k < W2.heap.size := fun k hk => by rcases hk with hk | hk; exact hfs2 k hk; omega
          have hnB : ¬ fG f w.heap.size (w.heap.size + 2) := fun hk => by
            rcases hk with hk | hk
            · have := hS2.nf _ hk; omega
            · omega
          obtain ⟨A4, c4, w7, hrun4, hO7, hg7, hat7⟩ := run_app Tryd.underlying27 str_info rfl (by omega) (W2.alloc (.cells #[.string ⟨y.toArray⟩] 9)) 27 w.heap.size A pre.length c _ (hr.alloc _) (some ⟨W2.heap.size, 0, none⟩) 1 1 [.string ⟨y.toArray⟩] (W2.heap.size + 1) (Sl.new W2 #[.string ⟨y.toArray⟩] 9) rfl (fun e => by cases e) (by intro u hu; simp at hu; subst hu; rfl) (pre.length + 1) rfl (by omega) (by have := hbw2.size; simp; omega)
          have hwx2 : Below W2.heap.size W2 (W2.alloc (.cells #[.string ⟨y.toArray⟩] 9)) := (Below.refl _ _).alloc (Nat.le_refl _) _
          obtain ⟨hH3, hRk3, hbo3, hbe3⟩ := HoldP.appended (X := W2.alloc (.cells #[.string ⟨y.toArray⟩] 9)) (by decide) (by omega) hfg hwx2 hb hr hm hnB hO7 hg7 (blk_at hat7) X1.heap.size
          have hBw8 := hbw2.trans (hbe3 (by have := hbw2.size; omega))
          have e3 := hbo3.cell
          have e4 := hbo3.frozen
          have k5 := hb.cell
          obtain ⟨W8, hW8⟩ : ∃ W8, W8 = w7.setCell ⟨w.heap.size + 2, 0, none⟩ (.slice A4 (pre.length + 1) c4) := ⟨_, rfl⟩
          rw [← hW8] at hH3 hRk3 hBw8
          have q0 : Boxed W8 w.heap.size 27 (.slice none 0 0) := (hRk3.mine _ (.inr (.inl rfl))).trans hS2.b0
          have q1 : Boxed W8 (w.heap.size + 1) 24 (.int .i64 0) := (hRk3.mine _ (.inr (.inr (.inl rfl)))).trans hS2.b1
          have q4 : Boxed W8 (w.heap.size + 4) 98 (.map (some (w.heap.size + 3))) := (hRk3.mine _ (.inr (.inr (.inr (.inr rfl))))).trans hS2.b4
          have qm : SOwns W8 (w.heap.size + 3) pre.length (dOf (txp pre)) := hS2.mo.at_ (hRk3.mine _ (.inr (.inr (.inr (.inl rfl)))))
          have hrk8 : Rk X1.heap.size f W W8 := hrk2.trans ⟨hRk3.below, hRk3.keeps, fun k hk => hRk3.mine k (.inl hk)⟩
          have k4 := q4.cell
          have HKY := Lib.hid (keyof_strS y (by unfold maxLen; omega))
          have hsv : sv (txp (pre ++ [x])) = sv (txp pre) ++ [.string ⟨y.toArray⟩] := by rw [HXD.out, sv_snoc]
          -- what the map's turn leaves
          have fin : ∀ w9, SOwns w9 (w.heap.size + 3) (pre.length + 1) ((dOf (txp pre)).put (.string y) tTrue) → W8.grownBy w9 (some (w.heap.size + 3)) → Rk X1.heap.size f W w9 ∧ RdS w.heap.size (pre ++ [x]) f w9 ∧ Below w.heap.size w w9 ∧ (∀ z ∈ pre ++ [x], okPc z = true) := fun w9 ho9 hg9 => by
            have hblk : ∀ k o, W8.heap[k]? = some o → k ≠ w.heap.size + 3 → w9.heap[k]? = some o := fun k o ho hne => (hg9.block k (Array.getElem?_eq_some_iff.1 ho).1 (fun e => by injection e with e; exact hne e)).trans ho
            refine ⟨hrk8.grownM hg9 HFS.out (fun e => by have := HS.out.nf _ e; omega) (by have := HSX.out; omega), ⟨hblk _ _ q0 (by omega), hblk _ _ q1 (by omega), ?_, hblk _ _ q4 (by omega), ?_, HS.out.nf, fun e => by simp at e⟩, ?_, ?_⟩
            · obtain ⟨A5, n5, c5, hb5, hr5, hm5⟩ := hH3
              rw [hsv]
              exact ⟨A5, n5, c5, hblk _ _ hb5 (by omega), hr5.kept hg9 (.inr (fun e => hm5 _ e (.inr (.inr (.inr (.inl rfl)))))), hm5⟩
            · rw [HXD.out, dOf_snoc, List.length_append]
              exact ho9
            · exact hBw8.grown hg9 hBw8.size (fun k e => by injection e with e; omega)
            · intro z hz'
              rcases List.mem_append.1 hz' with h | h
              · exact HOK.out z h
              · simp only [List.mem_singleton] at h
                rw [h]; exact HYES.out
          have FIN := Lib.hid fin
          have HR4 := Lib.hid hrun4
          have HQM := Lib.hid qm
          rw [hW8] at k4 HQM FIN
          clear fin hrun4 hH3 hRk3 hBw8 q0 q1 q4 qm hrk8 hsv hb2 hS2 hbw2 hrk2 hfs2 hz2 hb hr hm hfg hnB hO7 hg7 hat7 hwx2 hbo3 hbe3 hW8
          gi_wp2_with (first
            | ((with_reducible refine at_dstH 39 ?_); refine wpListIn_app 27 27 rfl (.tmp 36) (.tmp 38) rfl _ _ _ _ rfl rfl HR4.out ?_)
            | (refine wpListIn_mapUpdate_own _ rfl _ _ _ 98 rfl 9 102 rd_law Tryd.underlying98 rdE (w.heap.size + 3) pre.length _ rfl HQM.out (by unfold maxLen; omega) _ _ _ rfl rfl HKY.out tTrue [] rfl ?_; intro w9 ho9 hg9; have hfin := FIN.out w9 ho9 hg9; clear ho9 hg9))
          exact ⟨hfin.1, hfin.2.1, hfin.2.2.1, hfin.2.2.2⟩
        · have hq1 : (y == d) = false := by simpa using hyd
          have hno : okPc x = false := by rw [hokx, hq1]; simp
          have HNO := Lib.hid hno
          clear hno hokx hyb
          have HCS := Lib.hid hCS
          have HFL := Lib.hid hFL
          clear hCS hFL hT hS hbW hfs hszW
          gi_wp2_with (fail)
          refine ⟨trivial, ?_⟩
          refine (CallsIn.inRound lo' (callsIn_wide.2 HCS.out)).mono ?_
          rintro e w' ⟨rfl, rfl⟩
          gi_wp2_with (fail)
          refine ⟨trivial, ?_⟩
          refine (CallsIn.inRound lo' (callsIn_wide.2 HFL.out)).mono ?_
          rintro e W2 ⟨rfl, hb2⟩
          have HB2 := Lib.hid hb2
          have y0 : Boxed W2 w.heap.size 27 (.slice none 0 0) := (hb2.block _ HS.out.b0.lt).trans HS.out.b0
          have y1 : Boxed W2 (w.heap.size + 1) 24 (.int .i64 0) := (hb2.block _ HS.out.b1.lt).trans HS.out.b1
          have c0 := y0.cell
          have f0 := y0.frozen
          have c1 := y1.cell
          have f1 := y1.frozen
          clear hb2 y0 y1
          gi_wp2
          exact HERR.out HNO.out _ HB2.out _
  case done =>
    rintro D ys f W hD hfk rfl ⟨hS, hbW, hok⟩ hK
    have hyes : okS s = true := by rw [okS_iff]; exact List.all_eq_true.2 hok
    have htx : txp (pcs s) = lnsOf s := (pcs_ok hyes).1
    have hlen : (pcs s).length = (lnsOf s).length := by rw [← htx, txp_length]
    obtain ⟨A, n, c, hb, hr, hm⟩ := hS.b2
    have hmo := hS.mo
    rw [htx] at hr hmo
    have hn : n = (lnsOf s).length := by rw [hr.len, sv_length]
    subst hn
    have hnil : lnsOf s = [] → A = none ∧ c = 0 := fun e => by
      have h1 : pcs s = [] := List.eq_nil_of_length_eq_zero (by rw [hlen, e]; rfl)
      have h2 := hS.b3 h1
      unfold Boxed at h2 hb
      rw [h2] at hb
      injection hb with hb
      injection hb with hb _ _
      have hb := congrArg Array.toList hb
      simp at hb
      exact ⟨hb.1.symm, hb.2.2.symm⟩
    have HNIL := Lib.hid hnil
    clear hnil
    have hl := hmo.len Tryd.underlying98
    have d2 := hb.cell
    have d4 := hS.b4.cell
    have d0 := hS.b0.cell
    have g0 := hS.b0.frozen
    have d1 := hS.b1.cell
    have g1 := hS.b1.frozen
    have hsz := dOf_size (lnsOf s)
    have hsl := dOf_size_le (lnsOf s)
    have hcnt := lns_count s
    have HYES := Lib.hid hyes
    have HS := Lib.hid hS
    have HBW := Lib.hid hbW
    have HRW := Lib.hid hr
    have HM := Lib.hid hm
    have HSZ := Lib.hid hsz
    generalize Maps.size (dOf (lnsOf s)) = ms at *
    have y0 : ∀ u v, Boxed ((W.setCell ⟨w.heap.size, 0, none⟩ u).setCell ⟨w.heap.size + 1, 0, none⟩ v) w.heap.size 27 u := fun u v => Boxed.other (Boxed.set u HS.out.b0) (B' := w.heap.size + 1) (by omega) v
    have y1 : ∀ u v, Boxed ((W.setCell ⟨w.heap.size, 0, none⟩ u).setCell ⟨w.heap.size + 1, 0, none⟩ v) (w.heap.size + 1) 24 v := fun u v => Boxed.set v (Boxed.other HS.out.b1 (B' := w.heap.size) (by omega) u)
    have yb : ∀ u v, Below w.heap.size w ((W.setCell ⟨w.heap.size, 0, none⟩ u).setCell ⟨w.heap.size + 1, 0, none⟩ v) := fun u v => (HBW.out.setCell (p := ⟨w.heap.size, 0, none⟩) (Nat.le_refl _) _).setCell (p := ⟨w.heap.size + 1, 0, none⟩) (by simp) _
    have yk : ∀ u v, ((W.setCell ⟨w.heap.size, 0, none⟩ u).setCell ⟨w.heap.size + 1, 0, none⟩ v).heap[D]? = some (.deferred (some [])) := fun u v => ((KeepsOthers.setCell W ⟨w.heap.size, 0, none⟩ u).trans (KeepsOthers.setCell _ ⟨w.heap.size + 1, 0, none⟩ v)).same D _ hK rfl
    have yo : ∀ u v, OR (((W.setCell ⟨w.heap.size, 0, none⟩ u).setCell ⟨w.heap.size + 1, 0, none⟩ v).putObj D (.deferred none)) w.heap.size 9 A (lnsOf s).length c (sv (lnsOf s)) := fun u v => by
      have h1 := (HRW.out.kept (grownBy_setCell' W w.heap.size u) (.inr (fun e => HM.out _ e (.inr (.inl rfl))))).kept (grownBy_setCell' _ (w.heap.size + 1) v) (.inr (fun e => HM.out _ e (.inr (.inr (.inl rfl)))))
      exact ⟨ownsRow_putObj h1.1 (.deferred none) (yk u v) rfl, h1.2⟩
    have Y0 := Lib.hid y0
    have Y1 := Lib.hid y1
    have YB := Lib.hid yb
    have YK := Lib.hid yk
    have YO := Lib.hid yo
    clear y0 y1 yb yk yo hS hbW hok hyes htx hlen hb hr hm hmo hsz hK z5 hfk
    by_cases hlt : ms < (lnsOf s).length
    · have hli : (ms : Int) < ((lnsOf s).length : Int) := by omega
      have HND := Lib.hid (HSZ.out.1 hlt)
      go_wp2
      refine ⟨by simp, .inl ⟨_, _, rfl, run_takeDeferred (YK.out _ _), ?_⟩⟩
      have hend := rd_end (w := w) (YK.out (.slice none 0 0) (.int .i64 1)) (Y0.out _ _) (Y1.out _ _) (YB.out _ _) (by have := HSX.out; omega)
      have c0 := hend.1
      have c1 := hend.2.1
      have HE := Lib.hid hend.2.2
      clear hend
      refine ⟨.tuple #[.slice none 0 0, .int .i64 1], by simp [results, Tryd.f40, go_sem, c0, c1], ?_⟩
      exact .inr (.inl ⟨HYES.out, HND.out, rfl, HE.out⟩)
    · have hli : ¬ (ms : Int) < ((lnsOf s).length : Int) := by omega
      have HND := Lib.hid (Decidable.not_not.1 (fun h => hlt (HSZ.out.2 h)))
      go_wp2
      refine ⟨by simp, .inl ⟨_, _, rfl, run_takeDeferred (YK.out _ _), ?_⟩⟩
      have hend := rd_end (w := w) (YK.out (.slice A (lnsOf s).length c) (.int .i64 0)) (Y0.out _ _) (Y1.out _ _) (YB.out _ _) (by have := HSX.out; omega)
      have c0 := hend.1
      have c1 := hend.2.1
      have HE := Lib.hid hend.2.2
      clear hend
      refine ⟨.tuple #[.slice A (lnsOf s).length c, .int .i64 0], by simp [results, Tryd.f40, go_sem, c0, c1], ?_⟩
      exact .inr (.inr ⟨HYES.out, HND.out, ⟨A, c, rfl, YO.out _ _, HNIL.out⟩, HE.out⟩)
  case stop =>
    rintro D co pre f W hD hfk hpre ⟨rfl, ⟨p', x, hp, hno⟩, z0, z1, hb2, _, _⟩ hK
    have hbad : okS s = false := by
      rw [okS_iff]
      cases ha : (pcs s).all okPc with
      | false => rfl
      | true =>
        obtain ⟨t, ht⟩ := hpre
        have := List.all_eq_true.1 ha x (by rw [← ht, hp]; simp)
        rw [hno] at this; cases this
    have hend := rd_end (w := w) hK z0 z1 hb2 (by have := HSX.out; omega)
    have c0 := hend.1
    have c1 := hend.2.1
    have HE := Lib.hid hend.2.2
    have HBAD := Lib.hid hbad
    clear hend hbad hp hno z0 z1 hb2 hpre z5 hfk
    gi_wp2
    refine ⟨by simp, .inl ⟨_, _, rfl, run_takeDeferred hK, ?_⟩⟩
    refine ⟨.tuple #[.slice none 0 0, .int .i64 7], by simp [results, Tryd.f40, go_sem, c0, c1], ?_⟩
    exact .inl ⟨HBAD.out, rfl, HE.out⟩
end Go.Proofs.YtfjiogockpmogaaDoor

