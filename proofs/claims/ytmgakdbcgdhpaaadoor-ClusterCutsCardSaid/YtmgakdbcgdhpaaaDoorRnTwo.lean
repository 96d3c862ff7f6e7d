/-
  A region that draws its order, by an invariant that each operation keeps.
-/
import Derived.Test.YtmgakdbcgdhpaaaDoorRnAll
import Derived.Test.YtmgakdbcgdhpaaaDoorOwn
namespace Go.Proofs.YtmgakdbcgdhpaaaDoor
open Go.RowKit Go.Shelf
set_option linter.unusedVariables false

/-- how many are not listed yet -/
def openN (l : Array Bool) : Nat := (l.toList.filter fun b => !b).length
theorem openN_set {l : Array Bool} {i : Nat} (h : l.getD i true = false) : openN (l.setIfInBounds i true) + 1 = openN l := by
  obtain ⟨l⟩ := l
  unfold openN
  have hi : i < l.length := by
    rcases Nat.lt_or_ge i l.length with h' | h'
    · exact h'
    · simp [h'] at h
  have hv : l[i] = false := by simpa [hi] using h
  simp only [List.setIfInBounds_toArray]
  clear h
  induction l generalizing i with
  | nil => simp at hi
  | cons b l ih =>
    cases i with
    | zero => simp at hv; subst hv; simp
    | succ i =>
      simp at hv hi
      have := ih (by simpa using hi) hv
      cases b <;> simp_all
theorem openN_zero {l : Array Bool} (h : openN l = 0) (i : Nat) : l.getD i true = true := by
  obtain ⟨l⟩ := l
  unfold openN at h
  rw [List.length_eq_zero_iff, List.filter_eq_nil_iff] at h
  rcases Nat.lt_or_ge i l.length with h' | h'
  · have := h _ (List.getElem_mem h')
    simpa [h'] using this
  · simp [h']

theorem wpAnyIn_inv {F : Fence} {n : Nat} {P : Program} {md : Region.Mode} {ops : Array Oper} {Q : Exit → Act → World → Prop} (Inv : Array Bool → Act → World → Prop)
    (hdone : ∀ listed a w, Region.ready md ops listed = [] → Inv listed a w → Q .normal a w)
    (hstep : ∀ i listed a w, Inv listed a w → i ∈ Region.ready md ops listed → wpOpIn F n P ops Q i (fun a' w' => Inv (listed.setIfInBounds i true) a' w') a w) :
    ∀ fuel listed a w, openN listed ≤ fuel → Inv listed a w → wpAnyIn F n P md ops Q fuel listed a w := by
  intro fuel
  induction fuel with
  | zero =>
    intro listed a w hle h
    have hr : Region.ready md ops listed = [] := by
      rw [List.eq_nil_iff_forall_not_mem]
      intro j hj
      have := (mem_ready.1 hj).1
      rw [openN_zero (by omega)] at this
      cases this
    exact ⟨hr, hdone _ _ _ hr h⟩
  | succ fuel ih =>
    intro listed a w hle h
    refine ⟨fun hr => hdone _ _ _ hr h, fun i hi => ?_⟩
    refine wpOpIn_mono (fun a' w' h' => ih _ _ _ ?_ h') (hstep i listed a w h hi)
    have := openN_set (mem_ready.1 hi).1
    omega

theorem OR.isCells {w : World} {base n c : Nat} {e : TypeId} {A : Option Addr} {xs : List Value} (h : OR w base e A n c xs) : ∀ (j : Nat) (o : Obj), blk A = some j → w.heap[j]? = some o → o.isCells = true := by
  intro j o hj ho
  obtain ⟨hl, ⟨hv, hn⟩ | ⟨g, cap, cur, hv, h1, h2, h3⟩⟩ := h.1
  · injection hv with hA; subst hA; cases hj
  · injection hv with hA; subst hA
    have : g = j := by simpa [blk] using hj
    subst this
    rw [h2] at ho
    cases ho
    rfl

/-- What lies in memory while two slices are appended to: the four boxes and the two rows. -/
structure WS (h : Nat) (W w : World) (most : Int) (s : ByteArray) (A1 : Option Addr) (n1 c1 : Nat) (xs : List Value) (A2 : Option Addr) (n2 c2 : Nat) (ys : List Value) (vl va : Value) : Prop where
  below : Below h W w
  keeps : KeepsOthers W w
  bm : Boxed w h 3 (.int .i64 most)
  bl : Boxed w (h + 1) 30 vl
  ba : Boxed w (h + 1 + 1) 63 va
  bs : Boxed w (h + 1 + 1 + 1) 9 (.string s)
  r1 : OR w (h + 4) 21 A1 n1 c1 xs
  r2 : OR w (h + 4) 3 A2 n2 c2 ys
  sz : h + 4 ≤ w.heap.size
namespace WS
variable {h : Nat} {W w w' : World} {most : Int} {s : ByteArray} {A1 A2 A' : Option Addr} {n1 c1 n2 c2 n' c' : Nat} {xs ys xs' : List Value} {vl va : Value}
theorem alloc (k : WS h W w most s A1 n1 c1 xs A2 n2 c2 ys vl va) (o : Obj) : WS h W (w.alloc o) most s A1 n1 c1 xs A2 n2 c2 ys vl va :=
  ⟨k.below.alloc (by have := k.sz; omega) o, k.keeps.trans (KeepsOthers.alloc _ _), k.bm.alloc o, k.bl.alloc o, k.ba.alloc o, k.bs.alloc o, k.r1.alloc o, k.r2.alloc o, by have := k.sz; simp; omega⟩
theorem ne_row {B : Nat} {e : TypeId} (r : OR w (h + 4) e A' n' c' xs') (hB : B < h + 4) : some B ≠ blk A' := by
  intro e'
  have := (r.blk_lt B e'.symm).1
  omega
theorem app1 (k : WS h W w most s A1 n1 c1 xs A2 n2 c2 ys vl va) (hg : w.grownBy w' (blk A1)) (r : OR w' (h + 4) 21 A' n' c' xs') : WS h W w' most s A' n' c' xs' A2 n2 c2 ys vl va :=
  ⟨k.below.grown hg (by have := k.sz; omega) (fun j hj => by have := (k.r1.blk_lt j hj).1; omega), k.keeps.trans (KeepsOthers.of_grownBy hg k.r1.isCells),
   k.bm.kept hg (ne_row k.r1 (by omega)), k.bl.kept hg (ne_row k.r1 (by omega)), k.ba.kept hg (ne_row k.r1 (by omega)), k.bs.kept hg (ne_row k.r1 (by omega)), r, k.r2.kept hg (k.r2.apart k.r1 (by decide)), by have := k.sz; have := hg.size; omega⟩
theorem app2 (k : WS h W w most s A1 n1 c1 xs A2 n2 c2 ys vl va) (hg : w.grownBy w' (blk A2)) (r : OR w' (h + 4) 3 A' n' c' xs') : WS h W w' most s A1 n1 c1 xs A' n' c' xs' vl va :=
  ⟨k.below.grown hg (by have := k.sz; omega) (fun j hj => by have := (k.r2.blk_lt j hj).1; omega), k.keeps.trans (KeepsOthers.of_grownBy hg k.r2.isCells),
   k.bm.kept hg (ne_row k.r2 (by omega)), k.bl.kept hg (ne_row k.r2 (by omega)), k.ba.kept hg (ne_row k.r2 (by omega)), k.bs.kept hg (ne_row k.r2 (by omega)), k.r1.kept hg (k.r1.apart k.r2 (by decide)), r, by have := k.sz; have := hg.size; omega⟩
theorem row_ne {B : Nat} {e : TypeId} (r : OR w (h + 4) e A' n' c' xs') (hB : B < h + 4) : blk A' = none ∨ blk A' ≠ some B := .inr fun e' => by
  have := (r.blk_lt B e').1
  omega
theorem set1 (k : WS h W w most s A1 n1 c1 xs A2 n2 c2 ys vl va) (v : Value) : WS h W (w.setCell ⟨h + 1, 0, none⟩ v) most s A1 n1 c1 xs A2 n2 c2 ys v va :=
  ⟨k.below.setCell (p := ⟨h + 1, 0, none⟩) (by show h ≤ h + 1; omega) v, k.keeps.trans (KeepsOthers.setCell _ _ _), k.bm.other (by omega) v, k.bl.set v, k.ba.other (by omega) v, k.bs.other (by omega) v,
   k.r1.kept (grownBy_setCell' _ _ _) (row_ne k.r1 (by omega)), k.r2.kept (grownBy_setCell' _ _ _) (row_ne k.r2 (by omega)), by have := k.sz; have := (grownBy_setCell' w (h + 1) v).size; omega⟩
theorem set2 (k : WS h W w most s A1 n1 c1 xs A2 n2 c2 ys vl va) (v : Value) : WS h W (w.setCell ⟨h + 1 + 1, 0, none⟩ v) most s A1 n1 c1 xs A2 n2 c2 ys vl v :=
  ⟨k.below.setCell (p := ⟨h + 1 + 1, 0, none⟩) (by show h ≤ h + 1 + 1; omega) v, k.keeps.trans (KeepsOthers.setCell _ _ _), k.bm.other (by omega) v, k.bl.other (by omega) v, k.ba.set v, k.bs.other (by omega) v,
   k.r1.kept (grownBy_setCell' _ _ _) (row_ne k.r1 (by omega)), k.r2.kept (grownBy_setCell' _ _ _) (row_ne k.r2 (by omega)), by have := k.sz; have := (grownBy_setCell' w (h + 1 + 1) v).size; omega⟩
end WS

theorem listed_of {md : Region.Mode} {ops : Array Oper} {listed : Array Bool} (hr : Region.ready md ops listed = []) {j : Nat} {o : Oper} (ho : ops[j]? = some o)
    (hd : ∀ e ∈ o.after, Region.binds md e = true → listed.getD e.on false = true) : listed.getD j true = true := by
  cases hj : listed.getD j true with
  | true => rfl
  | false =>
    have := mem_ready.2 ⟨hj, o, ho, hd⟩
    rw [hr] at this
    cases this
theorem nb {a b : Bool} (h : a = true → b = true) (hb : b = false) : a = false := by
  cases a
  · rfl
  · have := h rfl
    rw [hb] at this
    cases this
/-- An append inside a region that draws its order, inside a round. -/
theorem stepIn_app {F : Fence} {N : Nat} {ops : Array Oper} {o : Oper} {a : Act} {w : World} {K : Act → World → Prop} {Q : Exit → Act → World → Prop} {E : Prop} (T : TypeId) (hgd : o.guard = none) (s x : Operand)
    (ho : o.op = .call { callee := .builtin .append, args := #[s, x], argTypes := #[T, T] }) (vs vx v' : Value) (w' : World) (hs : a.eval s = vs) (hx : a.eval x = vx)
    (hrun : (Builtin.append_ #[T, T] o.type #[vs, vx]).run Tryd.prog w = .ok v' w') (h : K (a.put o.dst v') w') :
    if Region.wanted o (yielded ops a.tmps) = true then Oper.wpIn F N Tryd.prog o a w K Q else E := by
  have hw : Region.wanted o (yielded ops a.tmps) = true := by simp [Region.wanted, hgd]
  rw [if_pos hw]
  unfold Oper.wpIn
  refine ⟨?_, ?_⟩
  · simp [Oper.about, ho, resolve, Target.leads, Sem.run_pure]
  · rw [Oper.semAt_plain F _ _ (by rw [ho]; intro c hc'; cases hc')]
    simp [execOp, ho, resolve, invoke, builtin, hs, hx, hrun, Result.andThen]
    exact h
theorem Boxed.sl1 {w : World} {g : Nat} {t : TypeId} {v : Value} (h : Boxed w g t v) : Sl w w.heap.size (some ⟨g, 0, none⟩) [v] := by
  refine .inr ⟨g, 0, rfl, h.lt, fun j u hu => ?_⟩
  cases j with
  | zero => simp at hu; subst hu; exact h.cell
  | succ j => simp at hu

/-- The ten operations of 'l, at = append(l, r), append(at, i)', as far as they have come up (b0 .. b9). -/
structure InvB (h : Nat) (W : World) (most : Int) (s : ByteArray) (A1 : Option Addr) (n1 c1 : Nat) (xs : List Value) (A2 : Option Addr) (n2 c2 : Nat) (ys : List Value) (x y : Int)
    (b0 b1 b2 b3 b4 b5 b6 b7 b8 b9 : Bool) (u22 u23 u24 u25 u26 u27 u28 u29 : Value) (w : World) : Prop where
  s0 : b0 = true → u22 = .slice A1 n1 c1
  s1 : b1 = true → u23 = .int .i32 x
  s2 : b2 = true → b3 = false → ∃ g, u24 = .slice (some ⟨g, 0, none⟩) 1 1 ∧ Boxed w g 21 (.int .i32 x)
  s4 : b4 = true → u26 = .slice A2 n2 c2
  s5 : b5 = true → u27 = .int .i64 y
  s6 : b6 = true → b7 = false → ∃ g, u28 = .slice (some ⟨g, 0, none⟩) 1 1 ∧ Boxed w g 3 (.int .i64 y)
  q2 : b2 = true → b1 = true
  q6 : b6 = true → b5 = true
  q3 : b3 = true → b0 = true ∧ b2 = true
  q7 : b7 = true → b3 = true ∧ b4 = true ∧ b6 = true
  q8 : b8 = true → b7 = true
  q9 : b9 = true → b8 = true
  ws : ∃ A3 n3 c3 xs3 A4 n4 c4 ys4 vl va, WS h W w most s A3 n3 c3 xs3 A4 n4 c4 ys4 vl va ∧
    (b3 = false → A3 = A1 ∧ n3 = n1 ∧ c3 = c1 ∧ xs3 = xs) ∧ (b3 = true → u25 = .slice A3 n3 c3 ∧ n3 = n1 + 1 ∧ xs3 = xs ++ [.int .i32 x]) ∧
    (b7 = false → A4 = A2 ∧ n4 = n2 ∧ c4 = c2 ∧ ys4 = ys) ∧ (b7 = true → u29 = .slice A4 n4 c4 ∧ n4 = n2 + 1 ∧ ys4 = ys ++ [.int .i64 y]) ∧
    (b8 = false → vl = .slice A1 n1 c1) ∧ (b8 = true → vl = u25) ∧ (b9 = false → va = .slice A2 n2 c2) ∧ (b9 = true → va = u29)
end Go.Proofs.YtmgakdbcgdhpaaaDoor
