/-
  A region that draws its order, by an invariant that each operation keeps.
  Plain mathematics of clusters: lists of runes. No program is named here.
  Walks: cluster.All, cluster.join.
  Walks: cluster.All's iterator.
  Walks: cluster.All's iterator has its contract.
-/
import Derived.Test.YtfjiogockpmogaaDoorGfR
import Derived.Test.YtfjiogockpmogaaDoorGfA
import Derived.Test.YtfjiogockpmogaaDoorGfW
import Derived.WalkSmall
import Derived.Outline
import Derived.IntWalk
namespace Go.Proofs.YtfjiogockpmogaaDoor
open Go.RowKit Go.Shelf
set_option linter.unusedVariables false

/-- how many are not listed yet -/
def openN (l : Array Bool) : Nat := (l.toList.filter fun b => !b).length
theorem openN_set {l : Array Bool} {i : Nat} (h : l.getD i true = false) : openN (l.setIfInBounds i true) + 1 = openN l := by
  obtain ⟨l⟩ := l
  unfold openN
  have hi : i < l.length := by
    rcases Nat.lt_or_ge i l.length with h' | h'
    · exact h'
    · simp [h'] at h
  have hv : l[i] = false := by simpa [hi] using h
  simp only [List.setIfInBounds_toArray]
  clear h
  induction l generalizing i with
  | nil => simp at hi
  | cons b l ih =>
    cases i with
    | zero => simp at hv; subst hv; simp
    | succ i =>
      simp at hv hi
      have := ih (by simpa using hi) hv
      cases b <;> simp_all
theorem openN_zero {l : Array Bool} (h : openN l = 0) (i : Nat) : l.getD i true = true := by
  obtain ⟨l⟩ := l
  unfold openN at h
  rw [List.length_eq_zero_iff, List.filter_eq_nil_iff] at h
  rcases Nat.lt_or_ge i l.length with h' | h'
  · have := h _ (List.getElem_mem h')
    simpa [h'] using this
  · simp [h']

theorem wpAnyIn_inv {F : Fence} {n : Nat} {P : Program} {md : Region.Mode} {ops : Array Oper} {Q : Exit → Act → World → Prop} (Inv : Array Bool → Act → World → Prop)
    (hdone : ∀ listed a w, Region.ready md ops listed = [] → Inv listed a w → Q .normal a w)
    (hstep : ∀ i listed a w, Inv listed a w → i ∈ Region.ready md ops listed → wpOpIn F n P ops Q i (fun a' w' => Inv (listed.setIfInBounds i true) a' w') a w) :
    ∀ fuel listed a w, openN listed ≤ fuel → Inv listed a w → wpAnyIn F n P md ops Q fuel listed a w := by
  intro fuel
  induction fuel with
  | zero =>
    intro listed a w hle h
    have hr : Region.ready md ops listed = [] := by
      rw [List.eq_nil_iff_forall_not_mem]
      intro j hj
      have := (mem_ready.1 hj).1
      rw [openN_zero (by omega)] at this
      cases this
    exact ⟨hr, hdone _ _ _ hr h⟩
  | succ fuel ih =>
    intro listed a w hle h
    refine ⟨fun hr => hdone _ _ _ hr h, fun i hi => ?_⟩
    refine wpOpIn_mono (fun a' w' h' => ih _ _ _ ?_ h') (hstep i listed a w h hi)
    have := openN_set (mem_ready.1 hi).1
    omega

theorem OR.isCells {w : World} {base n c : Nat} {e : TypeId} {A : Option Addr} {xs : List Value} (h : OR w base e A n c xs) : ∀ (j : Nat) (o : Obj), blk A = some j → w.heap[j]? = some o → o.isCells = true := by
  intro j o hj ho
  obtain ⟨hl, ⟨hv, hn⟩ | ⟨g, cap, cur, hv, h1, h2, h3⟩⟩ := h.1
  · injection hv with hA; subst hA; cases hj
  · injection hv with hA; subst hA
    have : g = j := by simpa [blk] using hj
    subst this
    rw [h2] at ho
    cases ho
    rfl

/-- What lies in memory while two slices are appended to: the four boxes and the two rows. -/
structure WS (h : Nat) (W w : World) (most : Int) (s : ByteArray) (A1 : Option Addr) (n1 c1 : Nat) (xs : List Value) (A2 : Option Addr) (n2 c2 : Nat) (ys : List Value) (vl va : Value) : Prop where
  below : Below h W w
  keeps : KeepsOthers W w
  bm : Boxed w h 3 (.int .i64 most)
  bl : Boxed w (h + 1) 107 vl
  ba : Boxed w (h + 1 + 1) 108 va
  bs : Boxed w (h + 1 + 1 + 1) 9 (.string s)
  r1 : OR w (h + 4) 21 A1 n1 c1 xs
  r2 : OR w (h + 4) 3 A2 n2 c2 ys
  sz : h + 4 ≤ w.heap.size
namespace WS
variable {h : Nat} {W w w' : World} {most : Int} {s : ByteArray} {A1 A2 A' : Option Addr} {n1 c1 n2 c2 n' c' : Nat} {xs ys xs' : List Value} {vl va : Value}
theorem alloc (k : WS h W w most s A1 n1 c1 xs A2 n2 c2 ys vl va) (o : Obj) : WS h W (w.alloc o) most s A1 n1 c1 xs A2 n2 c2 ys vl va :=
  ⟨k.below.alloc (by have := k.sz; omega) o, k.keeps.trans (KeepsOthers.alloc _ _), k.bm.alloc o, k.bl.alloc o, k.ba.alloc o, k.bs.alloc o, k.r1.alloc o, k.r2.alloc o, by have := k.sz; simp; omega⟩
theorem ne_row {B : Nat} {e : TypeId} (r : OR w (h + 4) e A' n' c' xs') (hB : B < h + 4) : some B ≠ blk A' := by
  intro e'
  have := (r.blk_lt B e'.symm).1
  omega
theorem app1 (k : WS h W w most s A1 n1 c1 xs A2 n2 c2 ys vl va) (hg : w.grownBy w' (blk A1)) (r : OR w' (h + 4) 21 A' n' c' xs') : WS h W w' most s A' n' c' xs' A2 n2 c2 ys vl va :=
  ⟨k.below.grown hg (by have := k.sz; omega) (fun j hj => by have := (k.r1.blk_lt j hj).1; omega), k.keeps.trans (KeepsOthers.of_grownBy hg k.r1.isCells),
   k.bm.kept hg (ne_row k.r1 (by omega)), k.bl.kept hg (ne_row k.r1 (by omega)), k.ba.kept hg (ne_row k.r1 (by omega)), k.bs.kept hg (ne_row k.r1 (by omega)), r, k.r2.kept hg (k.r2.apart k.r1 (by decide)), by have := k.sz; have := hg.size; omega⟩
theorem app2 (k : WS h W w most s A1 n1 c1 xs A2 n2 c2 ys vl va) (hg : w.grownBy w' (blk A2)) (r : OR w' (h + 4) 3 A' n' c' xs') : WS h W w' most s A1 n1 c1 xs A' n' c' xs' vl va :=
  ⟨k.below.grown hg (by have := k.sz; omega) (fun j hj => by have := (k.r2.blk_lt j hj).1; omega), k.keeps.trans (KeepsOthers.of_grownBy hg k.r2.isCells),
   k.bm.kept hg (ne_row k.r2 (by omega)), k.bl.kept hg (ne_row k.r2 (by omega)), k.ba.kept hg (ne_row k.r2 (by omega)), k.bs.kept hg (ne_row k.r2 (by omega)), k.r1.kept hg (k.r1.apart k.r2 (by decide)), r, by have := k.sz; have := hg.size; omega⟩
theorem row_ne {B : Nat} {e : TypeId} (r : OR w (h + 4) e A' n' c' xs') (hB : B < h + 4) : blk A' = none ∨ blk A' ≠ some B := .inr fun e' => by
  have := (r.blk_lt B e').1
  omega
theorem set1 (k : WS h W w most s A1 n1 c1 xs A2 n2 c2 ys vl va) (v : Value) : WS h W (w.setCell ⟨h + 1, 0, none⟩ v) most s A1 n1 c1 xs A2 n2 c2 ys v va :=
  ⟨k.below.setCell (p := ⟨h + 1, 0, none⟩) (by show h ≤ h + 1; omega) v, k.keeps.trans (KeepsOthers.setCell _ _ _), k.bm.other (by omega) v, k.bl.set v, k.ba.other (by omega) v, k.bs.other (by omega) v,
   k.r1.kept (grownBy_setCell' _ _ _) (row_ne k.r1 (by omega)), k.r2.kept (grownBy_setCell' _ _ _) (row_ne k.r2 (by omega)), by have := k.sz; have := (grownBy_setCell' w (h + 1) v).size; omega⟩
theorem set2 (k : WS h W w most s A1 n1 c1 xs A2 n2 c2 ys vl va) (v : Value) : WS h W (w.setCell ⟨h + 1 + 1, 0, none⟩ v) most s A1 n1 c1 xs A2 n2 c2 ys vl v :=
  ⟨k.below.setCell (p := ⟨h + 1 + 1, 0, none⟩) (by show h ≤ h + 1 + 1; omega) v, k.keeps.trans (KeepsOthers.setCell _ _ _), k.bm.other (by omega) v, k.bl.other (by omega) v, k.ba.set v, k.bs.other (by omega) v,
   k.r1.kept (grownBy_setCell' _ _ _) (row_ne k.r1 (by omega)), k.r2.kept (grownBy_setCell' _ _ _) (row_ne k.r2 (by omega)), by have := k.sz; have := (grownBy_setCell' w (h + 1 + 1) v).size; omega⟩
end WS

theorem listed_of {md : Region.Mode} {ops : Array Oper} {listed : Array Bool} (hr : Region.ready md ops listed = []) {j : Nat} {o : Oper} (ho : ops[j]? = some o)
    (hd : ∀ e ∈ o.after, Region.binds md e = true → listed.getD e.on false = true) : listed.getD j true = true := by
  cases hj : listed.getD j true with
  | true => rfl
  | false =>
    have := mem_ready.2 ⟨hj, o, ho, hd⟩
    rw [hr] at this
    cases this
theorem nb {a b : Bool} (h : a = true → b = true) (hb : b = false) : a = false := by
  cases a
  · rfl
  · have := h rfl
    rw [hb] at this
    cases this
/-- An append inside a region that draws its order, inside a round. -/
theorem stepIn_app {F : Fence} {N : Nat} {ops : Array Oper} {o : Oper} {a : Act} {w : World} {K : Act → World → Prop} {Q : Exit → Act → World → Prop} {E : Prop} (T : TypeId) (hgd : o.guard = none) (s x : Operand)
    (ho : o.op = .call { callee := .builtin .append, args := #[s, x], argTypes := #[T, T] }) (vs vx v' : Value) (w' : World) (hs : a.eval s = vs) (hx : a.eval x = vx)
    (hrun : (Builtin.append_ #[T, T] o.type #[vs, vx]).run Tryd.prog w = .ok v' w') (h : K (a.put o.dst v') w') :
    if Region.wanted o (yielded ops a.tmps) = true then Oper.wpIn F N Tryd.prog o a w K Q else E := by
  have hw : Region.wanted o (yielded ops a.tmps) = true := by simp [Region.wanted, hgd]
  rw [if_pos hw]
  unfold Oper.wpIn
  refine ⟨?_, ?_⟩
  · simp [Oper.about, ho, resolve, Target.leads, Sem.run_pure]
  · rw [Oper.semAt_plain F _ _ (by rw [ho]; intro c hc'; cases hc')]
    simp [execOp, ho, resolve, invoke, builtin, hs, hx, hrun, Result.andThen]
    exact h
theorem Boxed.sl1 {w : World} {g : Nat} {t : TypeId} {v : Value} (h : Boxed w g t v) : Sl w w.heap.size (some ⟨g, 0, none⟩) [v] := by
  refine .inr ⟨g, 0, rfl, h.lt, fun j u hu => ?_⟩
  cases j with
  | zero => simp at hu; subst hu; exact h.cell
  | succ j => simp at hu

/-- The ten operations of 'l, at = append(l, r), append(at, i)', as far as they have come up (b0 .. b9). -/
structure InvB (h : Nat) (W : World) (most : Int) (s : ByteArray) (A1 : Option Addr) (n1 c1 : Nat) (xs : List Value) (A2 : Option Addr) (n2 c2 : Nat) (ys : List Value) (x y : Int)
    (b0 b1 b2 b3 b4 b5 b6 b7 b8 b9 : Bool) (u22 u23 u24 u25 u26 u27 u28 u29 : Value) (w : World) : Prop where
  s0 : b0 = true → u22 = .slice A1 n1 c1
  s1 : b1 = true → u23 = .int .i32 x
  s2 : b2 = true → b3 = false → ∃ g, u24 = .slice (some ⟨g, 0, none⟩) 1 1 ∧ Boxed w g 21 (.int .i32 x)
  s4 : b4 = true → u26 = .slice A2 n2 c2
  s5 : b5 = true → u27 = .int .i64 y
  s6 : b6 = true → b7 = false → ∃ g, u28 = .slice (some ⟨g, 0, none⟩) 1 1 ∧ Boxed w g 3 (.int .i64 y)
  q2 : b2 = true → b1 = true
  q6 : b6 = true → b5 = true
  q3 : b3 = true → b0 = true ∧ b2 = true
  q7 : b7 = true → b3 = true ∧ b4 = true ∧ b6 = true
  q8 : b8 = true → b7 = true
  q9 : b9 = true → b8 = true
  ws : ∃ A3 n3 c3 xs3 A4 n4 c4 ys4 vl va, WS h W w most s A3 n3 c3 xs3 A4 n4 c4 ys4 vl va ∧
    (b3 = false → A3 = A1 ∧ n3 = n1 ∧ c3 = c1 ∧ xs3 = xs) ∧ (b3 = true → u25 = .slice A3 n3 c3 ∧ n3 = n1 + 1 ∧ xs3 = xs ++ [.int .i32 x]) ∧
    (b7 = false → A4 = A2 ∧ n4 = n2 ∧ c4 = c2 ∧ ys4 = ys) ∧ (b7 = true → u29 = .slice A4 n4 c4 ∧ n4 = n2 + 1 ∧ ys4 = ys ++ [.int .i64 y]) ∧
    (b8 = false → vl = .slice A1 n1 c1) ∧ (b8 = true → vl = u25) ∧ (b9 = false → va = .slice A2 n2 c2) ∧ (b9 = true → va = u29)
end Go.Proofs.YtfjiogockpmogaaDoor

namespace Go.Proofs.YtfjiogockpmogaaDoor
set_option linter.unusedVariables false

/-! ### Runes of a text -/
def rs (l : List UInt8) : List Int := (rnsOf l).map (·.2)
def e4 (r : Int) : List UInt8 := enc (rfix r)
def eb (c : List Int) : List UInt8 := c.flatMap e4
theorem eb_nil : eb [] = [] := rfl
theorem eb_cons (r : Int) (c : List Int) : eb (r :: c) = e4 r ++ eb c := by simp [eb]
theorem eb_append (c d : List Int) : eb (c ++ d) = eb c ++ eb d := by simp [eb]
theorem eb_snoc (c : List Int) (r : Int) : eb (c ++ [r]) = eb c ++ e4 r := by simp [eb]
theorem eb_flatten (cs : List (List Int)) : eb cs.flatten = (cs.map eb).flatten := by
  induction cs with
  | nil => rfl
  | cons c cs ih => simp [eb_append, ih]
theorem e4_le (r : Int) : (e4 r).length ≤ 4 ∧ 1 ≤ (e4 r).length := enc_le _
theorem eb_pos {c : List Int} (h : c ≠ []) : 0 < (eb c).length := by
  cases c with
  | nil => exact absurd rfl h
  | cons r c => rw [eb_cons, List.length_append]; have := e4_le r; omega

theorem isR_65533 : isR 65533 := by decide
theorem num_isR {c : UInt8} {t : List UInt8} (h : beg (c :: t) = true) (hl : hsz c.toNat = (t.length : Int) + 1) : isR (num (c :: t)) := by
  unfold beg at h
  simp only at h
  rw [hl] at h
  have e : ((t.length : Int) + 1 - ((t.length : Int) + 1)).toNat = 0 := by omega
  rw [e] at h
  simp only [List.replicate_zero, List.append_nil] at h
  simp at h
  have hf : 0 ≤ fromOf ((t.length : Int) + 1) := by unfold fromOf; (repeat' split) <;> omega
  unfold isR
  omega
theorem take_cons2 (c : UInt8) (t : List UInt8) (s : Nat) (h : 0 < s) : (c :: t).take s = c :: t.take (s - 1) := by
  obtain ⟨s, rfl⟩ : ∃ m, s = m + 1 := ⟨s - 1, by omega⟩
  rfl
theorem rnx_isR (l : List UInt8) (h : (rnx l).2.2 = false) : isR (rnx l).1 := by
  rcases l with _ | ⟨c, t⟩
  · simp [rnx] at h
  · rcases hsz_cases c.toNat with ⟨hs, hc⟩ | ⟨hs, hc⟩ | ⟨hs, hc⟩ | ⟨hs, hc⟩ | ⟨hs, hc⟩
    · simp [rnx, hs]; exact isR_65533
    all_goals
      by_cases hl : hsz c.toNat ≤ (t.length : Int) + 1
      · rw [rnx_full (by omega) hl] at h ⊢
        split
        · next hb =>
          simp only
          rw [take_cons2 _ _ _ (by omega)] at hb ⊢
          refine num_isR hb ?_
          rw [List.length_take]
          omega
        · exact isR_65533
      · rw [rnx_part (by omega) (by omega)] at h ⊢
        split
        · next hb => rw [if_pos hb] at h; simp at h
        · exact isR_65533
theorem nx_isR (l : List UInt8) (h : (nx l).2.2 = false) : isR (nx l).1 := by
  rw [same_nx] at h ⊢
  exact rnx_isR l h
theorem stp_isR (l : List UInt8) : isR (stp l).1 := by
  unfold stp
  split
  · exact isR_65533
  · next h => exact nx_isR l (by simpa using h)
theorem rns_isR : ∀ (f a : Nat) (l : List UInt8), ∀ x ∈ rns f a l, isR x.2 := by
  intro f
  induction f with
  | zero => intro a l x hx; simp [rns] at hx
  | succ f ih =>
    intro a l x hx
    rw [rns] at hx
    split at hx
    · simp at hx
    · rcases List.mem_cons.1 hx with rfl | hx
      · exact stp_isR l
      · exact ih _ _ _ hx
theorem rs_isR (l : List UInt8) : ∀ r ∈ rs l, isR r := by
  intro r hr
  obtain ⟨x, hx, rfl⟩ := List.mem_map.1 hr
  exact rns_isR _ _ _ x hx
theorem rfix_of {r : Int} (h : isR r) : rfix r = r := if_pos h
theorem stp_e4 {r : Int} (h : isR r) (l : List UInt8) : stp (e4 r ++ l) = (r, (e4 r).length) := by
  unfold stp e4
  rw [rfix_of h, nx_enc _ h]
  simp
theorem rns_eb (xs : List Int) : ∀ f a, (∀ r ∈ xs, isR r) → (eb xs).length ≤ f → (rns f a (eb xs)).map (·.2) = xs := by
  induction xs with
  | nil => intro f a _ _; rw [eb_nil, rns_nil]; rfl
  | cons x xs ih =>
    intro f a hx h
    have he := e4_le x
    rw [eb_cons] at h ⊢
    rw [List.length_append] at h
    obtain ⟨f, rfl⟩ : ∃ m, f = m + 1 := ⟨f - 1, by omega⟩
    rw [rns, if_neg (by intro e; have h1 := (List.append_eq_nil_iff.1 e).1; rw [h1] at he; simp at he), stp_e4 (hx x (by simp)), List.map_cons, List.drop_left]
    simp only
    rw [ih f _ (fun r hr => hx r (by simp [hr])) (by omega)]
/-- What is encoded decodes. -/
theorem rs_eb {xs : List Int} (h : ∀ r ∈ xs, isR r) : rs (eb xs) = xs := rns_eb xs _ _ h (Nat.le_refl _)

/-! ### Kinds of runes -/
def isB (r : Int) : Prop := ctB r = false ∧ mkB r = false
def isM (r : Int) : Prop := ctB r = false ∧ mkB r = true
theorem rnB_of {r : Int} (h : isR r) : rnB r = true := by
  unfold rnB; unfold isR at h; simp; omega
theorem isR_of_rnB {r : Int} (h : rnB r = true) : isR r := by
  unfold rnB at h; unfold isR; simp at h; omega
theorem ofI_ct {r : Int} (h : ctB r = true) : ofI r = 0 := by unfold ofI; rw [if_pos (by simp [h])]
theorem ofI_mk {r : Int} (h : mkB r = true) : ofI r = 0 := by unfold ofI; rw [if_pos (by simp [h])]
theorem ofI_base {r : Int} (hr : isR r) (h : isB r) : 1 ≤ ofI r ∧ ofI r ≤ 2 := by
  unfold ofI
  rw [if_neg (by simp [rnB_of hr, h.1, h.2])]
  split <;> omega
theorem ofI_pos {r : Int} (h : 0 < ofI r) : isR r ∧ isB r := by
  unfold ofI at h
  split at h
  · omega
  · next hn =>
    simp at hn
    exact ⟨isR_of_rnB hn.1.1, hn.1.2, hn.2⟩
theorem mk_bounds : ∀ x ∈ mkT, 159 < x.1 ∧ x.2 ≤ 1114111 ∧ (x.2 < 55296 ∨ 57343 < x.1) := by decide +kernel
theorem mk_isR {r : Int} (h : mkB r = true) : isR r ∧ isM r := by
  have h' := h
  unfold mkB inT at h
  rw [List.any_eq_true] at h
  obtain ⟨x, hx, hr⟩ := h
  have := mk_bounds x hx
  simp at hr
  refine ⟨by unfold isR; omega, ?_, h'⟩
  unfold ctB
  simp
  omega

/-! ### Clusters -/
def jn (o : List Int) (r : Int) : List Int := if o = [] ∨ 64 < (eb o).length + (e4 r).length then o else o ++ [r]
def st2 (q : List (List Int) × List Int) (r : Int) : List (List Int) × List Int :=
  if ctB r = true then q else if mkB r = true then (q.1, jn q.2 r) else (if q.2 = [] then q.1 else q.1 ++ [q.2], [r])
def fin (q : List (List Int) × List Int) : List (List Int) := if q.2 = [] then q.1 else q.1 ++ [q.2]
def run (xs : List Int) : List (List Int) × List Int := xs.foldl st2 ([], [])
def cls (xs : List Int) : List (List Int) := fin (run xs)
theorem run_snoc (xs : List Int) (r : Int) : run (xs ++ [r]) = st2 (run xs) r := by simp [run]
theorem st2_ct {q : List (List Int) × List Int} {r : Int} (h : ctB r = true) : st2 q r = q := by unfold st2; rw [if_pos h]
theorem st2_mk {q : List (List Int) × List Int} {r : Int} (h0 : ctB r = false) (h : mkB r = true) : st2 q r = (q.1, jn q.2 r) := by
  unfold st2; rw [if_neg (by simp [h0]), if_pos h]
theorem st2_base {q : List (List Int) × List Int} {r : Int} (h : isB r) : st2 q r = (fin q, [r]) := by
  unfold st2 fin; rw [if_neg (by simp [h.1]), if_neg (by simp [h.2])]
theorem kinds (r : Int) : ctB r = true ∨ isM r ∨ isB r := by
  unfold isM isB
  cases ctB r <;> cases mkB r <;> simp

def wc (c : List Int) : Int := ofI (c.headD 0)
def sumC (cs : List (List Int)) : Int := (cs.map wc).sum
theorem wc_nil : wc [] = 0 := by decide +kernel
theorem wc_jn (o : List Int) (r : Int) : wc (jn o r) = wc o := by
  unfold jn
  split
  · rfl
  · next h =>
    cases o with
    | nil => simp at h
    | cons x o => rfl
theorem wc_01 (c : List Int) : 0 ≤ wc c ∧ wc c ≤ 2 := ofI_01 _
theorem sumC_snoc (cs : List (List Int)) (c : List Int) : sumC (cs ++ [c]) = sumC cs + wc c := by simp [sumC]
theorem sumC_cons (c : List Int) (cs : List (List Int)) : sumC (c :: cs) = wc c + sumC cs := by simp [sumC]
theorem sumC_bd (cs : List (List Int)) : 0 ≤ sumC cs ∧ sumC cs ≤ 2 * cs.length := by
  induction cs with
  | nil => simp [sumC]
  | cons c cs ih =>
    have := wc_01 c
    rw [sumC_cons]
    simp only [List.length_cons]
    omega
theorem sumC_fin (q : List (List Int) × List Int) : sumC (fin q) = sumC q.1 + wc q.2 := by
  unfold fin
  split
  · next h => rw [h, wc_nil]; omega
  · rw [sumC_snoc]

/-- what holds on the way: the runes are those that came, no cluster is empty, a cluster is done only if one is open -/
structure Ok (q : List (List Int) × List Int) : Prop where
  opn : q.2 = [] → q.1 = []
  wf : ∀ c ∈ fin q, ∃ b ms, c = b :: ms ∧ isB b ∧ (∀ m ∈ ms, isM m) ∧ (eb c).length ≤ 64 ∧ ∀ r ∈ c, isR r
def wf (c : List Int) : Prop := ∃ b ms, c = b :: ms ∧ isB b ∧ (∀ m ∈ ms, isM m) ∧ (eb c).length ≤ 64 ∧ ∀ r ∈ c, isR r
theorem jn_nil (r : Int) : jn [] r = [] := by simp [jn]
theorem jn_ne {o : List Int} (h : o ≠ []) (r : Int) : jn o r ≠ [] := by
  unfold jn
  split
  · exact h
  · simp
theorem wf_jn {o : List Int} {r : Int} (h : wf o) (hr : isR r) (hm : isM r) : wf (jn o r) := by
  obtain ⟨b, ms, rfl, hb, hms, hl, hR⟩ := h
  unfold jn
  split
  · exact ⟨b, ms, rfl, hb, hms, hl, hR⟩
  · next hn =>
    refine ⟨b, ms ++ [r], rfl, hb, ?_, ?_, ?_⟩
    · intro m hm'
      rcases List.mem_append.1 hm' with h | h
      · exact hms m h
      · simp at h; subst h; exact hm
    · rw [eb_snoc, List.length_append]; simp at hn; omega
    · intro x hx
      rcases List.mem_append.1 hx with h | h
      · exact hR x h
      · simp at h; subst h; exact hr
theorem wf_one {r : Int} (hr : isR r) (hb : isB r) : wf [r] :=
  ⟨r, [], rfl, hb, by simp, by have := e4_le r; simp [eb]; omega, by intro x hx; simp at hx; subst hx; exact hr⟩
theorem wf_ne {c : List Int} (h : wf c) : c ≠ [] := by obtain ⟨b, ms, rfl, _⟩ := h; simp
theorem ok_nil : Ok ([], []) := ⟨fun _ => rfl, by simp [fin]⟩
theorem ok_step {q : List (List Int) × List Int} {r : Int} (h : Ok q) (hr : isR r) : Ok (st2 q r) := by
  rcases kinds r with hc | hm | hb
  · rw [st2_ct hc]; exact h
  · rw [st2_mk hm.1 hm.2]
    by_cases ho : q.2 = []
    · have e : (q.1, jn q.2 r) = q := by rw [ho, jn_nil]; rw [← ho]
      rw [e]; exact h
    · have hw : wf q.2 := h.wf _ (by unfold fin; rw [if_neg ho]; simp)
      have hj := jn_ne ho r
      refine ⟨fun e => absurd e hj, fun c hc => ?_⟩
      unfold fin at hc
      rw [if_neg hj] at hc
      rcases List.mem_append.1 hc with h1 | h1
      · exact h.wf c (by unfold fin; rw [if_neg ho]; simp [h1])
      · simp at h1; subst h1; exact wf_jn hw hr hm
  · rw [st2_base hb]
    refine ⟨fun e => by simp at e, fun c hc => ?_⟩
    unfold fin at hc
    rw [if_neg (by simp)] at hc
    rcases List.mem_append.1 hc with h1 | h1
    · exact h.wf c h1
    · simp at h1; subst h1; exact wf_one hr hb
theorem ok_fold (xs : List Int) : ∀ q, Ok q → (∀ r ∈ xs, isR r) → Ok (xs.foldl st2 q) := by
  induction xs with
  | nil => intro q h _; exact h
  | cons x xs ih => intro q h hx; exact ih _ (ok_step h (hx x (by simp))) (fun r hr => hx r (by simp [hr]))
theorem ok_run {xs : List Int} (h : ∀ r ∈ xs, isR r) : Ok (run xs) := ok_fold xs _ ok_nil h
theorem cls_wf {xs : List Int} (h : ∀ r ∈ xs, isR r) : ∀ c ∈ cls xs, wf c := (ok_run h).wf

theorem fold_marks (ms : List Int) : ∀ (y : List (List Int)) (o : List Int), o ≠ [] → (∀ m ∈ ms, isM m) → (eb (o ++ ms)).length ≤ 64 → ms.foldl st2 (y, o) = (y, o ++ ms) := by
  induction ms with
  | nil => intro y o _ _ _; simp
  | cons m ms ih =>
    intro y o ho hm hl
    have h1 := hm m (by simp)
    have h2 : (eb o).length + (e4 m).length ≤ 64 := by
      rw [eb_append, eb_cons] at hl
      simp at hl
      omega
    have e : st2 (y, o) m = (y, o ++ [m]) := by
      rw [st2_mk h1.1 h1.2]
      unfold jn
      rw [if_neg (by simp [ho]; omega)]
    rw [List.foldl_cons, e, ih y (o ++ [m]) (by simp) (fun x hx => hm x (by simp [hx])) (by simpa using hl)]
    simp
theorem fold_wf {c : List Int} (h : wf c) (q : List (List Int) × List Int) : c.foldl st2 q = (fin q, c) := by
  obtain ⟨b, ms, rfl, hb, hms, hl, _⟩ := h
  rw [List.foldl_cons, st2_base hb, fold_marks ms _ _ (by simp) hms (by simpa using hl)]
  rfl
theorem fin_wf {c : List Int} (h : wf c) (y : List (List Int)) : fin (y, c) = y ++ [c] := by unfold fin; rw [if_neg (wf_ne h)]
theorem fold_flat (cs : List (List Int)) : ∀ q, (∀ c ∈ cs, wf c) → fin (cs.flatten.foldl st2 q) = fin q ++ cs := by
  induction cs with
  | nil => intro q _; simp
  | cons c cs ih =>
    intro q h
    have hc := h c (by simp)
    rw [List.flatten_cons, List.foldl_append, fold_wf hc, ih _ (fun d hd => h d (by simp [hd])), fin_wf hc]
    simp
/-- What consists of clusters has just these. -/
theorem cls_flat {cs : List (List Int)} (h : ∀ c ∈ cs, wf c) : cls cs.flatten = cs := by
  have := fold_flat cs ([], []) h
  have e : fin (([], []) : List (List Int) × List Int) = [] := rfl
  rw [e, List.nil_append] at this
  exact this
theorem cls_one {c : List Int} (h : wf c) : cls c = [c] := by
  have := cls_flat (cs := [c]) (by intro d hd; simp at hd; subst hd; exact h)
  simpa using this
theorem flat_isR {cs : List (List Int)} (h : ∀ c ∈ cs, wf c) : ∀ r ∈ cs.flatten, isR r := by
  intro r hr
  obtain ⟨c, hc, hrc⟩ := List.mem_flatten.1 hr
  obtain ⟨b, ms, _, _, _, _, hR⟩ := h c hc
  exact hR r hrc
theorem rs_wf {c : List Int} (h : wf c) : rs (eb c) = c := by
  obtain ⟨b, ms, _, _, _, _, hR⟩ := h
  exact rs_eb hR

/-! ### Columns -/
theorem cols_step (q : List (List Int) × List Int) (r : Int) : sumC (st2 q r).1 + wc (st2 q r).2 = sumC q.1 + wc q.2 + ofI r := by
  rcases kinds r with hc | hm | hb
  · rw [st2_ct hc, ofI_ct hc]; omega
  · rw [st2_mk hm.1 hm.2, ofI_mk hm.2]
    show sumC q.1 + wc (jn q.2 r) = _
    rw [wc_jn]; omega
  · rw [st2_base hb]
    show sumC (fin q) + wc [r] = _
    rw [sumC_fin]; rfl
theorem cols_fold (xs : List Int) : ∀ q, sumC (xs.foldl st2 q).1 + wc (xs.foldl st2 q).2 = sumC q.1 + wc q.2 + (xs.map ofI).sum := by
  induction xs with
  | nil => intro q; simp
  | cons x xs ih =>
    intro q
    rw [List.foldl_cons, ih, cols_step]
    simp only [List.map_cons, List.sum_cons]
    omega
/-- The columns of all clusters are those of all runes. -/
theorem cols_all (xs : List Int) : sumC (cls xs) = (xs.map ofI).sum := by
  unfold cls
  rw [sumC_fin]
  have := cols_fold xs ([], [])
  unfold run
  rw [this]
  simp [sumC, wc_nil]

/-- the columns of the first rune that has some -/
def fw : List Int → Int
  | [] => 0
  | r :: xs => if 0 < ofI r then ofI r else fw xs
theorem fw_append (xs ys : List Int) (h : ∀ r ∈ xs, ¬ 0 < ofI r) : fw (xs ++ ys) = fw ys := by
  induction xs with
  | nil => rfl
  | cons x xs ih => simp only [List.cons_append, fw]; rw [if_neg (h x (by simp)), ih (fun r hr => h r (by simp [hr]))]
theorem fw_none (xs : List Int) (h : ∀ r ∈ xs, ¬ 0 < ofI r) : fw xs = 0 := by
  have := fw_append xs [] h
  simpa [fw] using this
theorem fw_wf {c : List Int} (h : wf c) : fw c = wc c := by
  obtain ⟨b, ms, rfl, hb, _, _, hR⟩ := h
  have := ofI_base (hR b (by simp)) hb
  simp only [fw, wc, List.headD_cons]
  rw [if_pos (by omega)]
def hd (q : List (List Int) × List Int) : Int := wc ((fin q).headD [])
theorem hd_step {q : List (List Int) × List Int} {r : Int} (ho : q.2 ≠ []) : (st2 q r).2 ≠ [] ∧ hd (st2 q r) = hd q := by
  rcases kinds r with hc | hm | hb
  · rw [st2_ct hc]; exact ⟨ho, rfl⟩
  · rw [st2_mk hm.1 hm.2]
    have hj := jn_ne ho r
    refine ⟨hj, ?_⟩
    unfold hd fin
    rw [if_neg hj, if_neg ho]
    cases h1 : q.1 with
    | nil => simp only [List.nil_append, List.headD_cons]; exact wc_jn _ _
    | cons a l => simp
  · rw [st2_base hb]
    refine ⟨by simp, ?_⟩
    unfold hd
    have e : fin (fin q, [r]) = fin q ++ [[r]] := by simp [fin]
    rw [e]
    have hne : fin q ≠ [] := by unfold fin; rw [if_neg ho]; simp
    cases h1 : fin q with
    | nil => exact absurd h1 hne
    | cons a l => simp
theorem hd_fold (xs : List Int) : ∀ q, q.2 ≠ [] → hd (xs.foldl st2 q) = hd q := by
  induction xs with
  | nil => intro q _; rfl
  | cons x xs ih => intro q ho; have := hd_step (r := x) ho; rw [List.foldl_cons, ih _ this.1, this.2]
theorem fw_fold (xs : List Int) (hR : ∀ r ∈ xs, isR r) : hd (xs.foldl st2 ([], [])) = fw xs := by
  induction xs with
  | nil => simp [hd, fin, fw]; exact wc_nil
  | cons x xs ih =>
    rw [List.foldl_cons]
    simp only [fw]
    rcases kinds x with hc | hm | hb
    · rw [st2_ct hc, if_neg (by rw [ofI_ct hc]; omega)]; exact ih fun r hr => hR r (by simp [hr])
    · rw [st2_mk hm.1 hm.2, if_neg (by rw [ofI_mk hm.2]; omega), jn_nil]; exact ih fun r hr => hR r (by simp [hr])
    · have := ofI_base (hR x (by simp)) hb
      rw [st2_base hb, if_pos (by omega), hd_fold _ _ (by simp)]
      simp [hd, fin, wc]
/-- The first rune with columns tells the columns of the first cluster. -/
theorem fw_cls {xs : List Int} (h : ∀ r ∈ xs, isR r) : wc ((cls xs).headD []) = fw xs := fw_fold xs h

theorem st2_len {q : List (List Int) × List Int} (r : Int) (h : (eb q.2).length ≤ 64) : (eb (st2 q r).2).length ≤ 64 := by
  rcases kinds r with hc | hm | hb
  · rw [st2_ct hc]; exact h
  · rw [st2_mk hm.1 hm.2]
    show (eb (jn q.2 r)).length ≤ 64
    unfold jn
    split
    · exact h
    · next hn => rw [eb_snoc, List.length_append]; simp at hn; omega
  · rw [st2_base hb]
    have := e4_le r
    simp [eb]; omega
theorem run_len (xs : List Int) : (eb (run xs).2).length ≤ 64 := by
  suffices h : ∀ (xs : List Int) (q : List (List Int) × List Int), (eb q.2).length ≤ 64 → (eb (xs.foldl st2 q).2).length ≤ 64 from h xs ([], []) (by simp [eb])
  intro xs
  induction xs with
  | nil => intro q h; exact h
  | cons x xs ih => intro q h; exact ih _ (st2_len x h)

/-! ### What an iterator tells -/
def prs : Int → List (List Int) → List (Int × List UInt8)
  | _, [] => []
  | a, c :: cs => (a, eb c) :: prs (a + wc c) cs
theorem prs_snoc (cs : List (List Int)) (c : List Int) : ∀ a, prs a (cs ++ [c]) = prs a cs ++ [(a + sumC cs, eb c)] := by
  induction cs with
  | nil => intro a; simp [prs, sumC]
  | cons d cs ih =>
    intro a
    simp only [List.cons_append, prs]
    rw [ih, sumC_cons]
    simp only [Int.add_assoc]
theorem prs_append (cs ds : List (List Int)) : ∀ a, prs a (cs ++ ds) = prs a cs ++ prs (a + sumC cs) ds := by
  induction cs with
  | nil => intro a; simp [prs, sumC]
  | cons d cs ih =>
    intro a
    simp only [List.cons_append, prs]
    rw [ih, sumC_cons, Int.add_assoc]
theorem prs_length (cs : List (List Int)) : ∀ a, (prs a cs).length = cs.length := by
  induction cs with
  | nil => intro a; rfl
  | cons d cs ih => intro a; simp [prs, ih]
theorem prs_take (cs : List (List Int)) (k : Nat) : ∀ a, (prs a cs).take k = prs a (cs.take k) := by
  induction cs generalizing k with
  | nil => intro a; simp [prs]
  | cons d cs ih =>
    intro a
    cases k with
    | zero => simp [prs]
    | succ k => simp [prs, ih]
theorem prs_map (cs : List (List Int)) : ∀ a, (prs a cs).map (·.2) = cs.map eb := by
  induction cs with
  | nil => intro a; rfl
  | cons d cs ih => intro a; simp [prs, ih]
theorem fold_ext (xs : List Int) : ∀ (y : List (List Int)) (o : List Int), ∃ z, (xs.foldl st2 (y, o)).1 = y ++ z := by
  induction xs with
  | nil => intro y o; exact ⟨[], by simp⟩
  | cons x xs ih =>
    intro y o
    rw [List.foldl_cons]
    have : ∃ z, (st2 (y, o) x).1 = y ++ z := by
      unfold st2
      split
      · exact ⟨[], by simp⟩
      · split
        · exact ⟨[], by simp⟩
        · simp only
          split
          · exact ⟨[], by simp⟩
          · exact ⟨[o], rfl⟩
    obtain ⟨z, hz⟩ := this
    obtain ⟨z2, hz2⟩ := ih (st2 (y, o) x).1 (st2 (y, o) x).2
    exact ⟨z ++ z2, by rw [hz2, hz, List.append_assoc]⟩
/-- What is told on the way is the beginning of what is told in all. -/
theorem told_pre {xs ys : List Int} (h : ys <+: xs) : (run ys).1 <+: cls xs := by
  obtain ⟨t, rfl⟩ := h
  have e : run (ys ++ t) = t.foldl st2 ((run ys).1, (run ys).2) := by unfold run; rw [List.foldl_append]
  obtain ⟨z, hz⟩ := fold_ext t (run ys).1 (run ys).2
  unfold cls fin
  rw [e]
  split
  · rw [hz]; exact List.prefix_append _ _
  · rw [hz, List.append_assoc]; exact List.prefix_append _ _
theorem run_count (xs : List Int) : (fin (run xs)).length ≤ xs.length := by
  suffices h : ∀ (xs : List Int) (q), (fin (xs.foldl st2 q)).length ≤ (fin q).length + xs.length by
    have h0 := h xs ([], [])
    have e : fin (([], []) : List (List Int) × List Int) = [] := rfl
    rw [e, List.length_nil, Nat.zero_add] at h0
    exact h0
  intro xs
  induction xs with
  | nil => intro q; simp
  | cons x xs ih =>
    intro q
    have h1 := ih (st2 q x)
    have h2 : (fin (st2 q x)).length ≤ (fin q).length + 1 := by
      rcases kinds x with hc | hm | hb
      · rw [st2_ct hc]; omega
      · rw [st2_mk hm.1 hm.2]
        by_cases ho : q.2 = []
        · have e : fin (q.1, jn q.2 x) = fin q := by unfold fin; rw [ho, jn_nil]; try simp
          rw [e]; omega
        · unfold fin; rw [if_neg (jn_ne ho x), if_neg ho]; simp
      · rw [st2_base hb]
        have e : fin (fin q, [x]) = fin q ++ [[x]] := by simp [fin]
        rw [e]; simp
    rw [List.foldl_cons, List.length_cons]
    omega
end Go.Proofs.YtfjiogockpmogaaDoor

namespace Go.Proofs.YtfjiogockpmogaaDoor
open Go.RowKit
set_option linter.unusedVariables false

theorem bv_eb_arr (l : List UInt8) : (bv l).toArray.toList = bv l := rfl

/-- What the boxed row does while a mark joins. -/
def JoinD (w : World) (base : Nat) (A : Option Addr) (k : List UInt8) (e : Ending) (w' : World) : Prop :=
  ∃ A' n' c', e = .returned (.slice A' n' c') ∧ OB w' base A' n' c' k ∧ w.grownBy w' (blk A) ∧ (∀ g, blk A' = some g → blk A = some g ∨ w.heap.size ≤ g)

theorem grown_alloc {w w' : World} {o : Obj} {row : Option Nat} (hg : (w.alloc o).grownBy w' row) : w.grownBy w' row :=
  ⟨hg.os, hg.tape, hg.output, by have := hg.size; simp at this; omega, fun k hk hr => (hg.block k (by simp; omega) hr).trans (Below.heap_alloc _ _ _ hk)⟩

set_option maxHeartbeats 1000000 in
theorem cljoin_any (w : World) (base : Nat) (A : Option Addr) (n c : Nat) (o : List Int) (r : Int) (hO : OB w base A n c (eb o)) (hm : n ≤ 1000) (hb : base ≤ w.heap.size) :
    Calls Tryd.prog 96 #[.slice A n c, .int .i32 r] w (JoinD w base A (eb (jn o r))) := by
  have hl := hO.len
  have h4 := e4_le r
  have hk : ∃ k, e4 r = k := ⟨_, rfl⟩
  obtain ⟨k, hk⟩ := hk
  have HK : Hid (enc (rfix r) = k) := hk
  rw [hk] at h4
  have HO := Lib.hid hO
  clear hO
  by_cases ho : o = []
  · have hn : n = 0 := by rw [hl, ho]; rfl
    subst hn
    have hj : jn o r = o := by unfold jn; rw [if_pos (.inl ho)]
    rw [hj]
    clear ho hl hj hk
    go_enter Tryd.func96, Tryd.ntmps96
    go_wp2_with (go_at_call 97; refine (bytes_any _ _).mono ?_; rintro e w' ⟨rfl, rfl⟩; rw [HK.out])
    go_ret
    exact ⟨A, 0, c, rfl, HO.out.alloc _, World.grownBy_alloc _ _ _, fun g hg => .inl hg⟩
  · have hn : 0 < n := by rw [hl]; exact eb_pos ho
    by_cases h64 : 64 < n + k.length
    · have hj : jn o r = o := by unfold jn; rw [if_pos (.inr (by rw [← hl, hk]; exact h64))]
      rw [hj]
      have hn0 : (n : Int) ≠ 0 := by omega
      have hgt : (64 : Int) < (n : Int) + (k.length : Int) := by omega
      have hz : ((n : Int) == 0) = false := by simp; omega
      clear ho hl hj hk
      go_enter Tryd.func96, Tryd.ntmps96
      go_wp2_with (go_at_call 97; refine (bytes_any _ _).mono ?_; rintro e w' ⟨rfl, rfl⟩; rw [HK.out])
      go_ret
      exact ⟨A, n, c, rfl, HO.out.alloc _, World.grownBy_alloc _ _ _, fun g hg => .inl hg⟩
    · have hj : eb (jn o r) = eb o ++ k := by
        have : jn o r = o ++ [r] := by
          unfold jn
          rw [if_neg (by rw [← hl, hk]; intro h; rcases h with h | h; exact ho h; omega)]
        rw [this, eb_snoc, hk]
      rw [hj]
      have hgt : ¬ (64 : Int) < (n : Int) + (k.length : Int) := by omega
      have hz : ((n : Int) == 0) = false := by simp; omega
      clear ho hl hj hk
      go_enter Tryd.func96, Tryd.ntmps96
      go_wp2_with (first
        | (go_at_call 97; refine (bytes_any _ _).mono ?_; rintro e w' ⟨rfl, rfl⟩; rw [HK.out])
        | (at_builtin
           refine wpList_app_u8 _ rfl (.tmp 20) (.tmp 21) rfl base A n c (eb o) rfl (HO.out.alloc _) _ k.length k.length k (w.heap.size + 1) rfl (by have := Sl.new w (bv k).toArray 5; exact this) rfl (fun h => by cases h) (n + k.length) rfl (by omega) (by simp; omega) ?_
           intro A4 c4 w4 h4' hg4 hat4))
      go_ret
      refine ⟨A4, _, c4, rfl, h4', grown_alloc hg4, fun g hg => ?_⟩
      rcases hat4 with h | h
      · exact .inl (by rw [← h]; exact hg)
      · rw [h] at hg; cases hg; exact .inr (by simp)

set_option maxHeartbeats 400000 in
theorem call_any (s : ByteArray) (w : World) :
    Calls Tryd.prog 77 #[.string s] w fun e w' => e = .returned (.func (.func 92) #[] #[.pointer (some ⟨w.heap.size, 0, none⟩)]) ∧ w' = w.alloc (.cells #[.string s] 9) := by
  go_enter Tryd.func77, Tryd.ntmps77
  go_wp2
  go_ret
  exact ⟨rfl, rfl⟩
end Go.Proofs.YtfjiogockpmogaaDoor

namespace Go.Proofs.YtfjiogockpmogaaDoor
open Go.RowKit Go.Shelf
attribute [local go_sem] Oper.semAt_some
set_option linter.unusedVariables false

def encC (x : Int × List UInt8) : Array Value := #[.int .i64 x.1, .string ⟨x.2.toArray⟩]

theorem YieldAt.deep {m : Nat} (m' : Nat) {P : Program} {l : Nat} {args : Array Value} {W : World} {R : Ending → World → Prop} (h : YieldAt Fence.wide m P l args W R) : YieldAt Fence.wide m' P l args W R := by
  obtain ⟨fn, tmps, assign, body, hy, hR⟩ := h
  exact ⟨fn, tmps, assign, body, hy, hR.1, fun c cs _ => hR.2 c cs (fun d h => by cases h)⟩
theorem RoundIn.inR {F : Fence} {m : Nat} {P : Program} {l : Nat} {f : FuncId} {tmps : Array Value} {assign body : Code} {w : World} {R : Ending → World → Prop} (l' : Nat) (h : RoundIn F m P l f tmps assign body w R) : RoundIn (F.inRound l') m P l f tmps assign body w R := h

/-- A row that is cut to nothing is still the call's own. -/
theorem OB.cut0 {w : World} {base n c : Nat} {A : Option Addr} {l : List UInt8} (h : OB w base A n c l) : OB w base A 0 c [] := by
  obtain ⟨⟨hl, hv⟩, hn⟩ := h
  refine ⟨⟨rfl, ?_⟩, hn⟩
  rcases hv with ⟨hv, h0⟩ | ⟨g, cap, cur, hv, h1, h2, h3, h4, h5, h6⟩
  · injection hv with hA hn' hc
    subst hA hc
    exact .inl ⟨rfl, rfl⟩
  · injection hv with hA hn' hc
    subst hA hc
    exact .inr ⟨g, c, cur, rfl, h1, h2, Nat.zero_le _, h4, h5, by simp [bv]⟩

/-- The tables, in a world in which their blocks lie as they lay. -/
theorem Tabs.same {w w' : World} (h : Tabs w) (hm : w'.heap[1]? = w.heap[1]?) (hw : w'.heap[2]? = w.heap[2]?) (hs : w.heap.size ≤ w'.heap.size) : Tabs w' :=
  ⟨fun k x hx => ⟨(World.cell?_of_block (w := w) (a := ⟨1, 2 * k, none⟩) hm).trans (h.mt k x hx).1, (World.cell?_of_block (w := w) (a := ⟨1, 2 * k + 1, none⟩) hm).trans (h.mt k x hx).2⟩,
   fun k x hx => ⟨(World.cell?_of_block (w := w) (a := ⟨2, 2 * k, none⟩) hw).trans (h.wt k x hx).1, (World.cell?_of_block (w := w) (a := ⟨2, 2 * k + 1, none⟩) hw).trans (h.wt k x hx).2⟩,
   Nat.lt_of_lt_of_le h.mg hs, Nat.lt_of_lt_of_le h.wg hs⟩

/-- The iterator's cells: the boxes of yield, open, ahead, columns and of the text, and open's row. -/
structure ClIn (h : Nat) (f : Nat → Prop) (W : World) (l : Nat) (s : ByteArray) (A : Option Addr) (n c : Nat) (k : List UInt8) (v1 : Value) (a2 a3 : Int) (w : World) : Prop where
  turn : Turn h f W w
  keeps : KeepsOthers W w
  b0 : Boxed w h 96 (.func (.yield l) #[] #[])
  b1 : Boxed w (h + 1) 83 v1
  b2 : Boxed w (h + 1 + 1) 3 (.int .i64 a2)
  b3 : Boxed w (h + 1 + 1 + 1) 3 (.int .i64 a3)
  b4 : Boxed w (h + 1 + 1 + 1 + 1) 9 (.string s)
  row : OB w (h + 5) A n c k
  mine : ∀ g, blk A = some g → f g ∨ W.heap.size ≤ g
  sz : h + 5 ≤ w.heap.size
  fb : f (h + 1) ∧ f (h + 1 + 1) ∧ f (h + 1 + 1 + 1)
  tabs : Tabs w
  tg : 1 < h ∧ 2 < h
namespace ClIn
variable {h : Nat} {f : Nat → Prop} {W w w' : World} {l : Nat} {s : ByteArray} {A A' : Option Addr} {n c n' c' : Nat} {k k' : List UInt8} {v1 : Value} {a2 a3 : Int}
theorem alloc (q : ClIn h f W l s A n c k v1 a2 a3 w) (o : Obj) : ClIn h f W l s A n c k v1 a2 a3 (w.alloc o) :=
  ⟨q.turn.alloc o, q.keeps.trans (KeepsOthers.alloc _ _), q.b0.alloc o, q.b1.alloc o, q.b2.alloc o, q.b3.alloc o, q.b4.alloc o, q.row.alloc o, q.mine, by have := q.sz; simp; omega, q.fb, q.tabs.below ((Below.refl _ _).alloc (Nat.le_refl _) o), q.tg⟩
theorem drew (q : ClIn h f W l s A n c k v1 a2 a3 w) : ClIn h f W l s A n c k v1 a2 a3 w.drew :=
  ⟨q.turn.drew, q.keeps.trans (KeepsOthers.drew _), q.b0, q.b1, q.b2, q.b3, q.b4, q.row.drew, q.mine, q.sz, q.fb, q.tabs.below ((Below.refl _ _).drew), q.tg⟩
theorem below (q : ClIn h f W l s A n c k v1 a2 a3 w) (hb : Below w.heap.size w w') : ClIn h f W l s A n c k v1 a2 a3 w' :=
  ⟨q.turn.trans (Turn.of_below hb (f := f)) (fun _ h => .inl h), q.keeps.trans (keeps_of_below hb), q.b0.kept (grown_of_below hb) (by simp), q.b1.kept (grown_of_below hb) (by simp), q.b2.kept (grown_of_below hb) (by simp), q.b3.kept (grown_of_below hb) (by simp), q.b4.kept (grown_of_below hb) (by simp),
   q.row.below hb (fun g hg => (q.row.blk_lt g hg).2), q.mine, Nat.le_trans q.sz hb.size, q.fb, q.tabs.below hb, q.tg⟩
/-- open's row has grown, or has become another one. -/
theorem app (q : ClIn h f W l s A n c k v1 a2 a3 w) (hg : w.grownBy w' (blk A)) (r : OB w' (h + 5) A' n' c' k') (hm : ∀ g, blk A' = some g → blk A = some g ∨ w.heap.size ≤ g) : ClIn h f W l s A' n' c' k' v1 a2 a3 w' := by
  have hb : ∀ B, B < h + 5 → some B ≠ blk A := fun B hB e => by have := (q.row.blk_lt B e.symm).1; omega
  have hsz := q.sz
  have htg := q.tg
  refine ⟨q.turn.grown hg (fun g e => ⟨by have := (q.row.blk_lt g e).1; omega, q.mine g e⟩), q.keeps.trans (KeepsOthers.of_grownBy hg ?_), q.b0.kept hg (hb _ (by omega)), q.b1.kept hg (hb _ (by omega)), q.b2.kept hg (hb _ (by omega)), q.b3.kept hg (hb _ (by omega)), q.b4.kept hg (hb _ (by omega)), r, ?_, by have := hg.size; omega, q.fb, ?_, q.tg⟩
  · exact OR.isCells (e := 5) (xs := bv k) q.row
  · intro g e
    rcases hm g e with h1 | h1
    · exact q.mine g h1
    · exact .inr (by have := q.turn.size; omega)
  · exact q.tabs.same (hg.block _ (by omega) (hb _ (by omega))) (hg.block _ (by omega) (hb _ (by omega))) hg.size
theorem ne_row (q : ClIn h f W l s A n c k v1 a2 a3 w) {B : Nat} (hB : B < h + 5) : blk A = none ∨ blk A ≠ some B := .inr fun e => by have := (q.row.blk_lt B e).1; omega
theorem tabs_set (q : ClIn h f W l s A n c k v1 a2 a3 w) {B : Nat} (hB : h ≤ B) (v : Value) : Tabs (w.setCell ⟨B, 0, none⟩ v) :=
  q.tabs.same (Below.heap_setCell _ _ _ _ (by have := q.tg; show _ ≠ B; omega)) (Below.heap_setCell _ _ _ _ (by have := q.tg; show _ ≠ B; omega)) (grownBy_setCell' w B v).size
theorem set1 (q : ClIn h f W l s A n c k v1 a2 a3 w) (v : Value) : ClIn h f W l s A n c k v a2 a3 (w.setCell ⟨h + 1, 0, none⟩ v) :=
  ⟨q.turn.setCell (by omega) (.inl q.fb.1) v, q.keeps.trans (KeepsOthers.setCell _ _ _), q.b0.other (by omega) v, q.b1.set v, q.b2.other (by omega) v, q.b3.other (by omega) v, q.b4.other (by omega) v, q.row.kept (grownBy_setCell' _ _ _) (q.ne_row (by omega)), q.mine, by have := q.sz; have := (grownBy_setCell' w (h + 1) v).size; omega, q.fb, q.tabs_set (by omega) v, q.tg⟩
theorem set2 (q : ClIn h f W l s A n c k v1 a2 a3 w) (a : Int) : ClIn h f W l s A n c k v1 a a3 (w.setCell ⟨h + 1 + 1, 0, none⟩ (.int .i64 a)) :=
  ⟨q.turn.setCell (by omega) (.inl q.fb.2.1) _, q.keeps.trans (KeepsOthers.setCell _ _ _), q.b0.other (by omega) _, q.b1.other (by omega) _, q.b2.set _, q.b3.other (by omega) _, q.b4.other (by omega) _, q.row.kept (grownBy_setCell' _ _ _) (q.ne_row (by omega)), q.mine, by have := q.sz; have := (grownBy_setCell' w (h + 1 + 1) (.int .i64 a)).size; omega, q.fb, q.tabs_set (by omega) _, q.tg⟩
theorem set3 (q : ClIn h f W l s A n c k v1 a2 a3 w) (a : Int) : ClIn h f W l s A n c k v1 a2 a (w.setCell ⟨h + 1 + 1 + 1, 0, none⟩ (.int .i64 a)) :=
  ⟨q.turn.setCell (by omega) (.inl q.fb.2.2) _, q.keeps.trans (KeepsOthers.setCell _ _ _), q.b0.other (by omega) _, q.b1.other (by omega) _, q.b2.other (by omega) _, q.b3.set _, q.b4.other (by omega) _, q.row.kept (grownBy_setCell' _ _ _) (q.ne_row (by omega)), q.mine, by have := q.sz; have := (grownBy_setCell' w (h + 1 + 1 + 1) (.int .i64 a)).size; omega, q.fb, q.tabs_set (by omega) _, q.tg⟩
/-- A round of another's, or a step of the book-keeping: all that is the iterator's lies as it lay. -/
theorem again {f' : Nat → Prop} (q : ClIn h f W l s A n c k v1 a2 a3 w) (hs : w.heap.size ≤ w'.heap.size) (hk : ∀ j, (h ≤ j ∧ j < h + 5 ∨ blk A = some j ∨ j = 1 ∨ j = 2) → w'.heap[j]? = w.heap[j]?)
    (hf : f' (h + 1) ∧ f' (h + 1 + 1) ∧ f' (h + 1 + 1 + 1)) (hm : ∀ g, blk A = some g → f' g) : ClIn h f' w' l s A n c k v1 a2 a3 w' := by
  refine ⟨Turn.refl _ _ _, KeepsOthers.refl _, (hk h (.inl (by omega))).trans q.b0, (hk _ (.inl (by omega))).trans q.b1, (hk _ (.inl (by omega))).trans q.b2, (hk _ (.inl (by omega))).trans q.b3, (hk _ (.inl (by omega))).trans q.b4, ?_, fun g hg => .inl (hm g hg), Nat.le_trans q.sz hs, hf, q.tabs.same (hk _ (.inr (.inr (.inl rfl)))) (hk _ (.inr (.inr (.inr rfl)))) hs, q.tg⟩
  obtain ⟨⟨hl, hv⟩, hn⟩ := q.row
  refine ⟨⟨hl, ?_⟩, hn⟩
  rcases hv with hv | ⟨g, cap, cur, hv, h1, h2, h3⟩
  · exact .inl hv
  · refine .inr ⟨g, cap, cur, hv, h1, ?_, h3⟩
    injection hv with hA
    subst hA
    exact (hk g (.inr (.inl rfl))).trans h2
end ClIn

/-- The six operations of 'open = append(open[:0], runes.Bytes(r)...)', as far as they have come up (b0 .. b5). -/
structure R9 (h : Nat) (f : Nat → Prop) (X : World) (l : Nat) (s : ByteArray) (A : Option Addr) (m c : Nat) (k : List UInt8) (a2 a3 x : Int) (b0 b1 b2 b3 b4 b5 : Bool) (u32 u33 u34 u35 u36 : Value) (w : World) : Prop where
  s0 : b0 = true → u32 = .slice A m c
  s1 : b1 = true → u33 = .slice A 0 c
  s2 : b2 = true → u34 = .int .i32 x
  s3 : b3 = true → b4 = false → ∃ g, u35 = .slice (some ⟨g, 0, none⟩) (e4 x).length (e4 x).length ∧ Sl w w.heap.size (some ⟨g, 0, none⟩) (bv (e4 x))
  q1 : b1 = true → b0 = true
  q3 : b3 = true → b2 = true
  q4 : b4 = true → b1 = true ∧ b3 = true
  q5 : b5 = true → b4 = true
  ws : ∃ A' n' c' k' v, ClIn h f X l s A' n' c' k' v a2 a3 w ∧ (b4 = false → A' = A ∧ n' = m ∧ c' = c ∧ k' = k) ∧ (b4 = true → u36 = .slice A' n' c' ∧ k' = e4 x) ∧ (b5 = false → v = .slice A m c) ∧ (b5 = true → v = u36)

/-- The seven operations of 'ahead, columns = ahead+columns, width.Of(r)', as far as they have come up. -/
structure R10 (h : Nat) (f : Nat → Prop) (X : World) (l : Nat) (s : ByteArray) (A : Option Addr) (n c : Nat) (k : List UInt8) (v : Value) (a2 a3 x : Int) (b0 b1 b2 b3 b4 b5 b6 : Bool) (u37 u38 u39 u40 u41 : Value) (w : World) : Prop where
  s0 : b0 = true → u37 = .int .i64 a2
  s1 : b1 = true → u38 = .int .i64 a3
  s2 : b2 = true → u39 = .int .i64 (a2 + a3)
  s3 : b3 = true → u40 = .int .i32 x
  s4 : b4 = true → u41 = .int .i64 (ofI x)
  q2 : b2 = true → b0 = true ∧ b1 = true
  q4 : b4 = true → b3 = true
  q5 : b5 = true → b2 = true ∧ b4 = true
  q6 : b6 = true → b5 = true
  ws : ∃ p2 p3, ClIn h f X l s A n c k v p2 p3 w ∧ (b5 = false → p2 = a2) ∧ (b5 = true → p2 = a2 + a3) ∧ (b6 = false → p3 = a3) ∧ (b6 = true → p3 = ofI x)
end Go.Proofs.YtfjiogockpmogaaDoor

namespace Go.Proofs.YtfjiogockpmogaaDoor
open Go.RowKit Go.Shelf
attribute [local go_sem] Oper.semAt_some
set_option linter.unusedVariables false

/-- Between two rounds over the runes. -/
def InI (h : Nat) (f0 : Nat → Prop) (J : List (Int × List UInt8) → (Nat → Prop) → World → Prop) (l : Nat) (s : ByteArray) (q : List (List Int) × List Int) (X : World) : Prop :=
  ∃ f A n c, ClIn h f X l s A n c (eb q.2) (.slice A n c) (sumC q.1) (wc q.2) X ∧ J (prs 0 q.1) f X ∧ (∀ k, f0 k → f k) ∧ (∀ j, h ≤ j → j < h + 5 → f j) ∧ (∀ g, blk A = some g → f g)

theorem inI_own {h : Nat} {f0 : Nat → Prop} {J : List (Int × List UInt8) → (Nat → Prop) → World → Prop} {l : Nat} {s : ByteArray} {q : List (List Int) × List Int} {X Y : World} {row : Option Nat} (hJ : AbP h J)
    (hi : InI h f0 J l s q X) (hg : X.grownBy Y row) (hr : ∀ r, row = some r → h + 5 ≤ r ∧ ∃ o : Obj, X.heap[r]? = some o ∧ o.isCells = false) : InI h f0 J l s q Y := by
  obtain ⟨f, A, n, c, hC, hj, h1, h2, h3⟩ := hi
  have hne : ∀ {B : Nat} {t : TypeId} {v : Value}, Boxed X B t v → some B ≠ row := fun hb e => by
    obtain ⟨_, o, ho, hc⟩ := hr _ e.symm
    rw [show X.heap[_]? = _ from hb] at ho; cases ho; cases hc
  have hz := hC.sz
  refine ⟨f, A, n, c, hC.again hg.size (fun j hj => hg.block j ?_ ?_) ⟨h2 _ (by omega) (by omega), h2 _ (by omega) (by omega), h2 _ (by omega) (by omega)⟩ h3, hJ _ f f X Y hj (Turn.of_grown hg (fun k e => ⟨by have := (hr k e).1; omega, .inr (hr k e).2⟩)) (fun _ h => .inl h), h1, h2, h3⟩
  · have := hC.tg
    rcases hj with hj | hj | hj | hj
    · omega
    · exact (hC.row.blk_lt j hj).2
    · omega
    · omega
  · intro e
    have hr' := hr j e.symm
    have := hC.tg
    rcases hj with hj | hj | hj | hj
    · omega
    · obtain ⟨_, o, ho, hc⟩ := hr'
      have := OR.isCells (e := 5) (xs := bv (eb q.2)) hC.row j o hj ho
      rw [hc] at this; cases this
    · omega
    · omega

def rr (pre : List (Nat × Int)) : List Int := pre.map (·.2)
theorem rr_snoc (pre : List (Nat × Int)) (x : Nat × Int) : run (rr (pre ++ [x])) = st2 (run (rr pre)) x.2 := by
  unfold rr; rw [List.map_append]; exact run_snoc _ _
/-- Where a round over the runes goes on. -/
theorem inI_next {h : Nat} {f0 f : Nat → Prop} {J : List (Int × List UInt8) → (Nat → Prop) → World → Prop} {l : Nat} {s : ByteArray} {q : List (List Int) × List Int} {X Y : World} {A : Option Addr} {n c : Nat} (hJ : AbP h J)
    (hC : ClIn h f X l s A n c (eb q.2) (.slice A n c) (sumC q.1) (wc q.2) Y) (hj : J (prs 0 q.1) f X) (h1 : ∀ k, f0 k → f k) (h2 : ∀ j, h ≤ j → j < h + 5 → f j) :
    InI h f0 J l s q Y := by
  refine ⟨fun k => f k ∨ (X.heap.size ≤ k ∧ k < Y.heap.size), A, n, c, hC.again (Nat.le_refl _) (fun _ _ => rfl) ⟨.inl (h2 _ (by omega) (by omega)), .inl (h2 _ (by omega) (by omega)), .inl (h2 _ (by omega) (by omega))⟩ ?_, hJ _ f _ X Y hj hC.turn (fun k hk => hk), fun k hk => .inl (h1 k hk), fun j a b => .inl (h2 j a b), ?_⟩
  all_goals
    intro g hg
    exact (hC.mine g hg).imp id (fun hl => ⟨hl, (hC.row.blk_lt g hg).2⟩)
/-- what holds of each cluster that is told -/
def elC (x : Int × List UInt8) : Prop := x.2.length ≤ 64 ∧ 0 ≤ x.1 ∧ x.1 ≤ 12000000
theorem keepsFrom_of {W X : World} (h : KeepsOthers W X) (B : Nat) : KeepsFrom B W X := h.from B
theorem prs_prefix {a b : List (List Int)} (h : a <+: b) : prs 0 a <+: prs 0 b := by
  obtain ⟨t, rfl⟩ := h
  rw [prs_append]
  exact List.prefix_append _ _
theorem kps_of {h : Nat} {f : Nat → Prop} {X Y : World} {l : Nat} {s : ByteArray} {A : Option Addr} {n c : Nat} {k : List UInt8} {v : Value} {a b : Int} (hC : ClIn h f X l s A n c k v a b Y) : KpS 0 (h + 1 + 1 + 1 + 1) s X Y :=
  ⟨⟨hC.turn.os, hC.turn.tape, hC.turn.output, hC.turn.size, fun k hk => by omega⟩, fun _ => hC.b4.cell⟩
theorem Turn.below0 {b : Nat} {f : Nat → Prop} {A B : World} (h : Turn b f A B) : Below 0 A B := ⟨h.os, h.tape, h.output, h.size, fun k hk => by omega⟩

set_option maxRecDepth 100000 in
set_option maxHeartbeats 2000000 in
theorem call_stops (Bn : Nat) (s : ByteArray) (hs : s.size ≤ 4000000) (f0 : Nat → Prop) (w : World) (hc : w.cell? ⟨Bn, 0, none⟩ = some (.string s)) (hT : Tabs w)
    (h0B : f0 Bn) (h0m : f0 1) (h0w : f0 2) (h0l : ∀ k, f0 k → k < w.heap.size) :
    SeqP Fence.wide 8 Tryd.prog 92 #[.pointer (some ⟨Bn, 0, none⟩)] encC f0 elC (fun ys => ys = prs 0 (cls (rs s.data.toList))) (fun pre => pre <+: prs 0 (cls (rs s.data.toList))) s.size w := by
  intro l J Jx W hsz hf0 hJ hJx hY h0
  have hcW : W.cell? ⟨Bn, 0, none⟩ = some (.string s) := (World.cell?_of_block (w := w) (hf0 Bn h0B)).trans hc
  have hTW : Tabs W := hT.same (hf0 _ h0m) (hf0 _ h0w) hsz
  have hY' : ∀ m pre x f W1, J pre f W1 → pre.length < s.size → elC x → YieldAt Fence.wide m Tryd.prog l (encC x) W1 fun e W' =>
      (e = .returned (.bool true) ∧ J (pre ++ [x]) f W' ∧ Rk W.heap.size f W1 W') ∨ (e = .returned (.bool false) ∧ Jx (pre ++ [x]) f W' ∧ KeepsFrom W.heap.size W1 W') := fun m pre x f W1 hj hl he => YieldAt.deep m (hY pre x f W1 hj hl he)
  have hBl : Bn < W.heap.size := cell_lt' hcW
  have hld : ∀ o1 o2 o3 o4, ((((W.alloc o1).alloc o2).alloc o3).alloc o4).cell? ⟨Bn, 0, none⟩ = some (.string s) := fun o1 o2 o3 o4 => by
    rw [World.cell?_alloc_lt _ _ _ (by simp; omega), World.cell?_alloc_lt _ _ _ (by simp; omega), World.cell?_alloc_lt _ _ _ (by simp; omega), World.cell?_alloc_lt _ _ _ (by simpa using hBl)]; exact hcW
  have HJ := Lib.hid hJ
  have HJx := Lib.hid hJx
  have HY := Lib.hid hY'
  have H0 := Lib.hid h0
  have HT := Lib.hid hTW
  clear hJ hJx hY hY' h0 hT hTW hf0 hc h0B
  refine callsIn_of_wp_marks Tryd.func92 rfl trivial ?_ rfl
  simp only [Tryd.ntmps92, List.size_toArray, List.length_cons, List.length_nil, Nat.reduceAdd, Nat.reduceSub, Array.replicate_succ, Array.replicate_zero, List.push_toArray, List.append_toArray, List.nil_append, List.cons_append]
  gi_wp2
  refine wpIn_wide.2 (wp_scope_straight ((wpIn_wide (n := 8)).1 ?_))
  gi_wp2
  refine wpIn_label ?_
  rename_i hKK
  refine hKK _ _ ?_
  refine wpIn_wide.2 ?_
  go_wp2_with (go_at_call 93; refine (all_any _ _).mono ?_; rintro e w' ⟨rfl, rfl⟩)
  refine (wpIn_wide (n := 8)).1 ?_
  obtain ⟨h, hh⟩ : ∃ h, h = W.heap.size := ⟨_, rfl⟩
  rw [← hh]
  rw [← hh] at HJ HJx
  obtain ⟨W0, hW0⟩ : ∃ W0, W0 = ((((W.alloc (.cells #[.func (.yield l) #[] #[]] 96)).alloc (.cells #[.slice none 0 0] 83)).alloc (.cells #[.int .i64 0] 3)).alloc (.cells #[.int .i64 0] 3)).alloc (.cells #[.string s] 9) := ⟨_, rfl⟩
  have hsz0 : W0.heap.size = h + 5 := by rw [hW0, hh]; simp
  have hB0 : Below h W W0 := by
    rw [hW0, hh]
    exact (((((Below.refl _ W).alloc (Nat.le_refl _) _).alloc (by simp) _).alloc (by simp; omega) _).alloc (by simp; omega) _).alloc (by simp; omega) _
  have hI0 : InI h f0 J l s ([], []) W0 := by
    refine ⟨fun k => f0 k ∨ (h ≤ k ∧ k < h + 5), none, 0, 0, ?_, ?_, fun k hk => .inl hk, fun j h1 h2 => .inr ⟨h1, h2⟩, fun g hg => by cases hg⟩
    · refine ⟨Turn.refl _ _ _, KeepsOthers.refl _, ?_, ?_, ?_, ?_, ?_, OB.none_ _ _, (fun g hg => by cases hg), by omega, ⟨.inr (by omega), .inr (by omega), .inr (by omega)⟩, ?_, ?_⟩
      · rw [hW0, hh]; exact ((((Boxed.new W _ _).alloc _).alloc _).alloc _).alloc _
      · have := (((Boxed.new (W.alloc (.cells #[.func (.yield l) #[] #[]] 96)) 83 (.slice none 0 0)).alloc (.cells #[.int .i64 0] 3)).alloc (.cells #[.int .i64 0] 3)).alloc (.cells #[.string s] 9)
        rw [hW0, hh]; simpa using this
      · have := ((Boxed.new ((W.alloc (.cells #[.func (.yield l) #[] #[]] 96)).alloc (.cells #[.slice none 0 0] 83)) 3 (.int .i64 0)).alloc (.cells #[.int .i64 0] 3)).alloc (.cells #[.string s] 9)
        rw [hW0, hh]; simpa [sumC] using this
      · have := (Boxed.new (((W.alloc (.cells #[.func (.yield l) #[] #[]] 96)).alloc (.cells #[.slice none 0 0] 83)).alloc (.cells #[.int .i64 0] 3)) 3 (.int .i64 0)).alloc (.cells #[.string s] 9)
        rw [hW0, hh, show wc (([], []) : List (List Int) × List Int).2 = 0 from wc_nil]; simpa using this
      · have := Boxed.new ((((W.alloc (.cells #[.func (.yield l) #[] #[]] 96)).alloc (.cells #[.slice none 0 0] 83)).alloc (.cells #[.int .i64 0] 3)).alloc (.cells #[.int .i64 0] 3)) 9 (.string s)
        rw [hW0, hh]; simpa using this
      · exact HT.out.below (by rw [← hh]; exact hB0)
      · have h1 := HT.out.mg; have h2 := HT.out.wg; omega
    · exact HJ.out _ f0 _ W W0 H0.out (Turn.of_below (by rw [← hh]; exact hB0)) (fun k hk => hk.imp id (fun hk => ⟨by omega, by omega⟩))
  have hbase : h + 5 ≤ W0.heap.size := by omega
  have hbase2 : W0.heap.size ≤ h + 5 := by omega
  rw [← hW0]
  have hcs : W0.cell? ⟨h + 1 + 1 + 1 + 1, 0, none⟩ = some (.string s) := by
    obtain ⟨f, A, m, c, hC, _⟩ := hI0
    exact hC.b4.cell
  have HH := Lib.hid hh
  clear hW0 hB0 hsz0 hh hcW hBl hld
  refine wpIn_rangeFunc_ownG rfl (by omega) (gf := 107) (lb := #[.pointer (some ⟨h + 1 + 1 + 1 + 1, 0, none⟩)]) rfl trivial (enters_of Tryd.func107 (by kernel_rfl) rfl)
    (all_stops 7 (by omega) (h + 1 + 1 + 1 + 1) 0 s hs _ hcs) KpS.t (KpS.b (by omega)) (Below.refl _ _) (fun _ => rfl)
    (fun pre X => InI h f0 J l s (run (rr pre)) X)
    (fun c pre X => c = .ret ∧ ∃ f, Jx (prs 0 (run (rr pre)).1) f X)
    (fun pre X Y row hi hg hr => inI_own HJ.out hi hg (fun r e => ⟨by have := (hr r e).1; omega, (hr r e).2⟩))
    (fun c pre X Y row hi hg hr => ⟨hi.1, hi.2.elim fun f hj => ⟨f, HJx.out _ f f X Y hj (Turn.of_grown hg (fun k e => ⟨by have := (hr k e).1; omega, .inr (hr k e).2⟩)) (fun _ h => .inl h)⟩⟩)
    hI0
    (fun x => { tmps := #[.func (.yield l) #[] #[], .pointer (some ⟨Bn, 0, none⟩), .pointer (some ⟨h, 0, none⟩), .pointer (some ⟨h + 1, 0, none⟩), .pointer (some ⟨h + 1 + 1, 0, none⟩), .pointer (some ⟨h + 1 + 1 + 1, 0, none⟩), undef, .int .i32 x.2, .string s, .func (.func 107) #[] #[.pointer (some ⟨h + 1 + 1 + 1 + 1, 0, none⟩)], .int .i64 x.1, .int .i32 x.2, undef, undef, undef, undef, undef, undef, undef, undef, undef, undef, undef, undef, undef, undef, undef, undef, undef, undef, undef, undef, undef, undef, undef, undef, undef, undef, undef, undef, undef, undef, undef, undef, undef, undef, undef, undef, undef, undef], defers := [] }) ?assign ?body ?done ?stop
  case assign =>
    intro l x W K hK
    simp only [encR]
    rw [put_two]
    gi_wp2
    exact hK
  case body =>
    rintro lo pre x X hI hlen
    have hrun := rr_snoc pre x
    have hcount := run_count (rr pre)
    have hrl : (rr pre).length = pre.length := by simp [rr]
    have h64 := run_len (rr pre)
    generalize hq : run (rr pre) = q at hI hrun hcount h64
    obtain ⟨f, A, m, c, hC, hj, h1, h2, h3⟩ := hI
    have hm64 : m ≤ 64 := by rw [hC.row.len]; exact h64
    have HR := Lib.hid hrun
    have HQ := Lib.hid hcount
    have HJ1 := Lib.hid hj
    have HF1 := Lib.hid h1
    have HF2 := Lib.hid h2
    have HF3 := Lib.hid h3
    have HC := Lib.hid hC
    clear hq hrun hcount hj h1 h2 h3 hC hrl h64
    rcases kinds x.2 with hk | hk | hk
    · -- a control
      have HK := Lib.hid hk
      clear hk
      gi_wp2_with (refine ⟨trivial, ?_⟩; gi_at_call 94; refine (CallsIn.inRound lo (callsIn_wide.2 (ctl_any _ _))).mono ?_; rintro e w' ⟨rfl, rfl⟩; rw [HK.out])
      refine ⟨KeepsFrom.refl _ _, ⟨Below.refl _ _, id⟩, ?_⟩
      show InI h f0 J l s (run (rr (pre ++ [x]))) X
      rw [HR.out, st2_ct HK.out]
      exact ⟨f, A, m, c, HC.out, HJ1.out, HF1.out, HF2.out, HF3.out⟩
    · -- a mark
      obtain ⟨hk0, hk1⟩ := hk
      have HK0 := Lib.hid hk0
      have HK1 := Lib.hid hk1
      clear hk0 hk1
      gi_wp2_with (first
        | (refine ⟨trivial, ?_⟩; gi_at_call 94; refine (CallsIn.inRound lo (callsIn_wide.2 (ctl_any _ _))).mono ?_; rintro e w' ⟨rfl, rfl⟩; rw [HK0.out])
        | (refine ⟨trivial, ?_⟩; gi_at_call 95; refine (CallsIn.inRound lo (callsIn_wide.2 (mark_any _ _ HC.out.tabs))).mono ?_; rintro e w1 ⟨rfl, hb1⟩; rw [HK1.out]; have hC1 := Lib.hid (HC.out.below hb1); have hc1 := hC1.out.b1.cell)
        | (refine ⟨trivial, ?_⟩; gi_at_call 96; refine (CallsIn.inRound lo (callsIn_wide.2 (cljoin_any _ (h + 5) A m c q.2 x.2 hC1.out.row (by omega) hC1.out.sz))).mono ?_; rintro e w2 ⟨A2, m2, c2, rfl, hO, hg, hm⟩; have hC2 := Lib.hid (hC1.out.app hg hO hm); clear hc1; have hc1 := hC2.out.b1.cell; have hf1 := hC2.out.b1.frozen))
      have hC3 := hC2.out.set1 (.slice A2 m2 c2)
      refine ⟨hC3.keeps.from _, kps_of hC3, ?_⟩
      show InI h f0 J l s (run (rr (pre ++ [x]))) _
      rw [HR.out, st2_mk HK0.out HK1.out]
      refine inI_next (q := (q.1, jn q.2 x.2)) (A := A2) (n := m2) (c := c2) HJ.out ?_ HJ1.out HF1.out HF2.out
      rw [wc_jn]
      exact hC3
    · -- a base
      have hb := hk
      obtain ⟨hk0, hk1⟩ := hk
      have HK0 := Lib.hid hk0
      have HK1 := Lib.hid hk1
      have HB := Lib.hid hb
      clear hk0 hk1 hb
      have hpl : (prs 0 q.1).length < s.size ∨ q.2 = [] := by
        by_cases ho : q.2 = []
        · exact .inr ho
        · refine .inl ?_
          have h1 := HQ.out
          unfold fin at h1
          rw [if_neg ho, List.length_append] at h1
          have h2 : (rr pre).length = pre.length := by simp [rr]
          rw [prs_length]
          simp at h1
          omega
      have HPL := Lib.hid hpl
      clear hpl
      by_cases ho : q.2 = []
      · have hm0 : m = 0 := by rw [HC.out.row.len, ho]; rfl
        have HO := Lib.hid ho
        clear ho
        subst hm0
        gi_wp2_with (first
          | (refine ⟨trivial, ?_⟩; gi_at_call 94; refine (CallsIn.inRound lo (callsIn_wide.2 (ctl_any _ _))).mono ?_; rintro e w' ⟨rfl, rfl⟩; rw [HK0.out])
          | (refine ⟨trivial, ?_⟩; gi_at_call 95; refine (CallsIn.inRound lo (callsIn_wide.2 (mark_any _ _ HC.out.tabs))).mono ?_; rintro e w1 ⟨rfl, hb1⟩; rw [HK1.out]; have hC1 := Lib.hid (HC.out.below hb1); have hc1 := hC1.out.b1.cell))
        refine ⟨fun _ h => (by cases h), ?_⟩
        gi_wp2
        obtain ⟨wS, hwS⟩ : ∃ wS, wS = w1 := ⟨_, rfl⟩
        rw [← hwS]
        have hCS : ClIn h f X l s A 0 c (eb q.2) (.slice A 0 c) (sumC q.1) (wc q.2) wS := by rw [hwS]; exact hC1.out
        obtain ⟨fS, hfS⟩ : ∃ fS, fS = f := ⟨_, rfl⟩
        obtain ⟨XS, hXS⟩ : ∃ XS, XS = X := ⟨_, rfl⟩
        rw [← hfS, ← hXS] at hCS
        have HCS := Lib.hid hCS
        have HKF : Hid (KeepsFrom W0.heap.size X XS) := by rw [hXS]; exact KeepsFrom.refl _ _
        have HB0 : Hid (Below 0 X XS) := by rw [hXS]; exact Below.refl _ _
        have HJS : Hid (J (prs 0 (fin q)) fS XS) := by
          have e : fin q = q.1 := by unfold fin; rw [if_pos HO.out]
          rw [e, hfS, hXS]; exact HJ1.out
        have HFS1 : Hid (∀ k, f0 k → fS k) := by rw [hfS]; exact HF1.out
        have HFS2 : Hid (∀ j, h ≤ j → j < h + 5 → fS j) := by rw [hfS]; exact HF2.out
        have ha0 := sumC_bd q.1
        have ha1 := wc_01 q.2
        obtain ⟨hsA, hsB⟩ := ha0
        obtain ⟨hwA, hwB⟩ := ha1
        have ha2 : sumC q.1 ≤ 12000000 := by
          have h1 := HQ.out
          have h2 : (rr pre).length = pre.length := by simp [rr]
          have h3 : (q.1).length ≤ (fin q).length := by unfold fin; split <;> simp
          omega
        clear hCS hwS hfS hXS hC1 hc1 hb1 HC HJ1 HF1 HF2 HF3 hm64 hI0 HPL HO hcs
        have hmx : Tryd.prog.follows .mixedOrders = true := by kernel_rfl
        refine wpIn_region_any hmx ?_
        change wpAnyIn _ _ _ _ _ _ _ _ _ wS.drew
        refine wpAnyIn_inv (fun listed a w2 => ∃ b0 b1 b2 b3 b4 b5 u32 u33 u34 u35 u36, listed = #[b0, b1, b2, b3, b4, b5] ∧
          a = { tmps := #[.func (.yield l) #[] #[], .pointer (some ⟨Bn, 0, none⟩), .pointer (some ⟨h, 0, none⟩), .pointer (some ⟨h + 1, 0, none⟩), .pointer (some ⟨h + 1 + 1, 0, none⟩), .pointer (some ⟨h + 1 + 1 + 1, 0, none⟩), undef, .int .i32 x.2, .string s, .func (.func 107) #[] #[.pointer (some ⟨h + 1 + 1 + 1 + 1, 0, none⟩)], .int .i64 x.1, .int .i32 x.2, .bool false, .int .i32 x.2, .bool false, .bool false, .int .i32 x.2, .bool false, undef, undef, undef, .slice A 0 c, .int .i64 0, .bool false, .bool false, undef, undef, undef, undef, undef, undef, .bool false, u32, u33, u34, u35, u36, undef, undef, undef, undef, undef, undef, undef, undef, undef, undef, undef, undef, undef], defers := [] } ∧
          R9 h fS XS l s A 0 c (eb q.2) (sumC q.1) (wc q.2) x.2 b0 b1 b2 b3 b4 b5 u32 u33 u34 u35 u36 w2) ?_ ?_ _ _ _ _ (by decide) ?_
        · rintro listed a w2 hr ⟨b0, b1, b2, b3, b4, b5, u32, u33, u34, u35, u36, rfl, rfl, hI9⟩
          obtain rfl : b0 = true := listed_of hr (j := 0) rfl (by simp)
          obtain rfl : b1 = true := listed_of hr (j := 1) rfl (by simp [Region.binds])
          obtain rfl : b2 = true := listed_of hr (j := 2) rfl (by simp)
          obtain rfl : b3 = true := listed_of hr (j := 3) rfl (by simp [Region.binds])
          obtain rfl : b4 = true := listed_of hr (j := 4) rfl (by simp [Region.binds])
          obtain rfl : b5 = true := listed_of hr (j := 5) rfl (by simp [Region.binds])
          obtain ⟨A9, n9, c9, k9, v9, hC9, _, w4y, _, w5y⟩ := hI9.ws
          obtain ⟨rfl, rfl⟩ := w4y rfl
          obtain rfl := w5y rfl
          have HC9 := Lib.hid hC9
          clear hC9 w4y w5y hI9 hr
          gi_wp2
          refine wpIn_region_any hmx ?_
          change wpAnyIn _ _ _ _ _ _ _ _ _ w2.drew
          refine wpAnyIn_inv (fun listed a w3 => ∃ b0 b1 b2 b3 b4 b5 b6 u37 u38 u39 u40 u41, listed = #[b0, b1, b2, b3, b4, b5, b6] ∧
            a = { tmps := #[.func (.yield l) #[] #[], .pointer (some ⟨Bn, 0, none⟩), .pointer (some ⟨h, 0, none⟩), .pointer (some ⟨h + 1, 0, none⟩), .pointer (some ⟨h + 1 + 1, 0, none⟩), .pointer (some ⟨h + 1 + 1 + 1, 0, none⟩), undef, .int .i32 x.2, .string s, .func (.func 107) #[] #[.pointer (some ⟨h + 1 + 1 + 1 + 1, 0, none⟩)], .int .i64 x.1, .int .i32 x.2, .bool false, .int .i32 x.2, .bool false, .bool false, .int .i32 x.2, .bool false, undef, undef, undef, .slice A 0 c, .int .i64 0, .bool false, .bool false, undef, undef, undef, undef, undef, undef, .bool false, u32, u33, u34, u35, .slice A9 n9 c9, u37, u38, u39, u40, u41, undef, undef, undef, undef, undef, undef, undef, undef], defers := [] } ∧
            R10 h fS XS l s A9 n9 c9 (e4 x.2) (.slice A9 n9 c9) (sumC q.1) (wc q.2) x.2 b0 b1 b2 b3 b4 b5 b6 u37 u38 u39 u40 u41 w3) ?_ ?_ _ _ _ _ (by decide) ?_
          · rintro listed a w3 hr ⟨b0, b1, b2, b3, b4, b5, b6, u37, u38, u39, u40, u41, rfl, rfl, hI10⟩
            obtain rfl : b0 = true := listed_of hr (j := 0) rfl (by simp)
            obtain rfl : b1 = true := listed_of hr (j := 1) rfl (by simp)
            obtain rfl : b2 = true := listed_of hr (j := 2) rfl (by simp [Region.binds])
            obtain rfl : b3 = true := listed_of hr (j := 3) rfl (by simp)
            obtain rfl : b4 = true := listed_of hr (j := 4) rfl (by simp [Region.binds])
            obtain rfl : b5 = true := listed_of hr (j := 5) rfl (by simp [Region.binds])
            obtain rfl : b6 = true := listed_of hr (j := 6) rfl (by simp [Region.binds])
            obtain ⟨p2, p3, hC10, _, w5y, _, w6y⟩ := hI10.ws
            obtain rfl := w5y rfl
            obtain rfl := w6y rfl
            refine ⟨HKF.out.trans (hC10.keeps.from _), ⟨HB0.out.trans hC10.turn.below0, fun _ => hC10.b4.cell⟩, ?_⟩
            show InI h f0 J l s (run (rr (pre ++ [x]))) _
            rw [HR.out, st2_base HB.out]
            have hn9 : n9 = (eb [x.2]).length := by rw [hC10.row.len]; simp [eb]
            refine inI_next (q := (fin q, [x.2])) (A := A9) (n := n9) (c := c9) HJ.out ?_ HJS.out HFS1.out HFS2.out
            have e1 : sumC (fin q) = sumC q.1 + wc q.2 := sumC_fin q
            have e2 : eb [x.2] = e4 x.2 := by simp [eb]
            show ClIn h fS XS l s A9 n9 c9 (eb [x.2]) (.slice A9 n9 c9) (sumC (fin q)) (ofI x.2) w3
            rw [e1, e2]
            exact hC10
          · rintro i listed a w3 ⟨b0, b1, b2, b3, b4, b5, b6, u37, u38, u39, u40, u41, rfl, rfl, hI10⟩ hi
            obtain ⟨hf, o, ho, hdep⟩ := mem_ready.1 hi
            have hi7 : i < 7 := (Array.getElem?_eq_some_iff.1 ho).1
            have hic : i = 0 ∨ i = 1 ∨ i = 2 ∨ i = 3 ∨ i = 4 ∨ i = 5 ∨ i = 6 := by omega
            rcases hic with rfl | rfl | rfl | rfl | rfl | rfl | rfl
            all_goals
              simp at ho
              subst ho
              simp [Region.binds] at hdep
              simp at hf
            all_goals try subst hf
            all_goals try simp only [forall_const] at hdep
            · -- 0: ahead
              have e2 := nb (fun e => (hI10.q2 e).1) rfl
              have e5 := nb (fun e => (hI10.q5 e).1) e2
              obtain ⟨p2, p3, hC10, w5n, w5y, w6n, w6y⟩ := hI10.ws
              obtain rfl := w5n e5
              have hcl := hC10.b2.cell
              have HI := Lib.hid hI10
              have E2 := Lib.hid e2
              clear hI10 e2 e5 hC10 w5n w5y w6n w6y
              refine wpOpIn_step rfl (fun K' hK => ?_)
              go_simp
              refine hK _ _ ?_
              exact ⟨true, b1, b2, b3, b4, b5, b6, _, u38, u39, u40, u41, rfl, rfl, ⟨fun _ => rfl, HI.out.s1, HI.out.s2, HI.out.s3, HI.out.s4, (fun e => by rw [E2.out] at e; cases e), HI.out.q4, HI.out.q5, HI.out.q6, HI.out.ws⟩⟩
            · -- 1: columns
              have e2 := nb (fun e => (hI10.q2 e).2) rfl
              have e5 := nb (fun e => (hI10.q5 e).1) e2
              have e6 := nb hI10.q6 e5
              obtain ⟨p2, p3, hC10, w5n, w5y, w6n, w6y⟩ := hI10.ws
              obtain rfl := w6n e6
              have hcl := hC10.b3.cell
              have HI := Lib.hid hI10
              have E2 := Lib.hid e2
              clear hI10 e2 e5 e6 hC10 w5n w5y w6n w6y
              refine wpOpIn_step rfl (fun K' hK => ?_)
              go_simp
              refine hK _ _ ?_
              exact ⟨b0, true, b2, b3, b4, b5, b6, u37, _, u39, u40, u41, rfl, rfl, ⟨HI.out.s0, fun _ => rfl, HI.out.s2, HI.out.s3, HI.out.s4, (fun e => by rw [E2.out] at e; cases e), HI.out.q4, HI.out.q5, HI.out.q6, HI.out.ws⟩⟩
            · -- 2: the sum
              obtain ⟨rfl, rfl⟩ := hdep
              have e5 := nb (fun e => (hI10.q5 e).1) rfl
              obtain rfl := hI10.s0 rfl
              obtain rfl := hI10.s1 rfl
              have HI := Lib.hid hI10
              have E5 := Lib.hid e5
              clear hI10 e5
              have hws : IntKind.i64.wrap (sumC q.1 + wc q.2) = sumC q.1 + wc q.2 := IntWalk.i64_in _ (by omega)
              refine wpOpIn_step rfl (fun K' hK => ?_)
              go_simp
              refine hK _ _ ?_
              exact ⟨true, true, true, b3, b4, b5, b6, _, _, _, u40, u41, rfl, rfl, ⟨fun _ => rfl, fun _ => rfl, fun _ => by first | rfl | rw [hws] | go_num, HI.out.s3, HI.out.s4, (fun _ => ⟨rfl, rfl⟩), HI.out.q4, (fun e => by rw [E5.out] at e; cases e), HI.out.q6, HI.out.ws⟩⟩
            · -- 3: the rune
              have e4' := nb hI10.q4 rfl
              have HI := Lib.hid hI10
              have E4 := Lib.hid e4'
              clear hI10 e4'
              refine wpOpIn_step rfl (fun K' hK => ?_)
              go_simp
              refine hK _ _ ?_
              exact ⟨b0, b1, b2, true, b4, b5, b6, u37, u38, u39, _, u41, rfl, rfl, ⟨HI.out.s0, HI.out.s1, HI.out.s2, fun _ => rfl, HI.out.s4, HI.out.q2, fun _ => rfl, HI.out.q5, HI.out.q6, HI.out.ws⟩⟩
            · -- 4: the call
              obtain rfl := hdep
              have e5 := nb (fun e => (hI10.q5 e).2) rfl
              obtain rfl := hI10.s3 rfl
              obtain ⟨p2, p3, hC10, w5n, w5y, w6n, w6y⟩ := hI10.ws
              have HI := Lib.hid hI10
              have HCX := Lib.hid hC10
              have HW := Lib.hid (And.intro w5n (And.intro w5y (And.intro w6n w6y)))
              have E5 := Lib.hid e5
              clear hI10 e5 hC10 w5n w5y w6n w6y
              refine wpOpIn_step rfl (fun K' hK => ?_)
              go_simp
              refine ⟨trivial, (CallsIn.inRound lo (callsIn_wide.2 (of_any _ _ HCX.out.tabs))).mono ?_⟩
              rintro e w4 ⟨rfl, hb4⟩
              refine hK _ _ ?_
              exact ⟨b0, b1, b2, true, true, b5, b6, u37, u38, u39, _, _, rfl, rfl, ⟨HI.out.s0, HI.out.s1, HI.out.s2, fun _ => rfl, fun _ => rfl, HI.out.q2, fun _ => rfl, (fun e => by rw [E5.out] at e; cases e), HI.out.q6, ⟨p2, p3, HCX.out.below hb4, HW.out.1, HW.out.2.1, HW.out.2.2.1, HW.out.2.2.2⟩⟩⟩
            · -- 5: the first store
              have hb2 : b2 = true := by simp_all
              have hb4' : b4 = true := by simp_all
              subst hb2
              subst hb4'
              have e6 := nb hI10.q6 rfl
              obtain rfl := hI10.s2 rfl
              obtain ⟨p2, p3, hC10, w5n, w5y, w6n, w6y⟩ := hI10.ws
              have hcl := hC10.b2.cell
              have hfl := hC10.b2.frozen
              have HI := Lib.hid hI10
              have HCX := Lib.hid hC10
              have H6 := Lib.hid (w6n e6)
              have E6 := Lib.hid e6
              clear hI10 e6 hC10 w5n w5y w6n w6y hdep
              refine wpOpIn_step rfl (fun K' hK => ?_)
              go_simp
              refine hK _ _ ?_
              exact ⟨b0, b1, true, b3, true, true, b6, u37, u38, _, u40, u41, rfl, rfl, ⟨HI.out.s0, HI.out.s1, fun _ => rfl, HI.out.s3, HI.out.s4, HI.out.q2, HI.out.q4, (fun _ => ⟨rfl, rfl⟩), fun _ => rfl, ⟨_, p3, HCX.out.set2 _, (fun e => by cases e), (fun _ => rfl), (fun _ => H6.out), (fun e => by rw [E6.out] at e; cases e)⟩⟩⟩
            · -- 6: the second store
              have hb5 : b5 = true := by simp_all
              have hb4' : b4 = true := by simp_all
              subst hb5
              subst hb4'
              obtain rfl := hI10.s4 rfl
              obtain ⟨p2, p3, hC10, w5n, w5y, w6n, w6y⟩ := hI10.ws
              have hcl := hC10.b3.cell
              have hfl := hC10.b3.frozen
              have HI := Lib.hid hI10
              have HCX := Lib.hid hC10
              have H5 := Lib.hid (w5y rfl)
              clear hI10 hC10 w5n w5y w6n w6y hdep
              refine wpOpIn_step rfl (fun K' hK => ?_)
              go_simp
              refine hK _ _ ?_
              exact ⟨b0, b1, b2, b3, true, true, true, u37, u38, u39, u40, _, rfl, rfl, ⟨HI.out.s0, HI.out.s1, HI.out.s2, HI.out.s3, fun _ => rfl, HI.out.q2, HI.out.q4, HI.out.q5, fun _ => rfl, ⟨p2, _, HCX.out.set3 _, (fun e => by cases e), (fun _ => H5.out), (fun e => by cases e), (fun _ => rfl)⟩⟩⟩
          · exact ⟨false, false, false, false, false, false, false, _, _, _, _, _, rfl, rfl, ⟨(fun e => by cases e), (fun e => by cases e), (fun e => by cases e), (fun e => by cases e), (fun e => by cases e), (fun e => by cases e), (fun e => by cases e), (fun e => by cases e), (fun e => by cases e), ⟨_, _, HC9.out.drew, (fun _ => rfl), (fun e => by cases e), (fun _ => rfl), (fun e => by cases e)⟩⟩⟩
        · rintro i listed a w2 ⟨b0, b1, b2, b3, b4, b5, u32, u33, u34, u35, u36, rfl, rfl, hI9⟩ hi
          obtain ⟨hf, o, ho, hdep⟩ := mem_ready.1 hi
          have hi6 : i < 6 := (Array.getElem?_eq_some_iff.1 ho).1
          have hic : i = 0 ∨ i = 1 ∨ i = 2 ∨ i = 3 ∨ i = 4 ∨ i = 5 := by omega
          rcases hic with rfl | rfl | rfl | rfl | rfl | rfl
          all_goals
            simp at ho
            subst ho
            simp [Region.binds] at hdep
            simp at hf
          all_goals try subst hf
          all_goals try simp only [forall_const] at hdep
          · -- 0: open
            have e1 := nb hI9.q1 rfl
            have e4' := nb (fun e => (hI9.q4 e).1) e1
            have e5 := nb hI9.q5 e4'
            obtain ⟨A9, n9, c9, k9, v9, hC9, w4n, w4y, w5n, w5y⟩ := hI9.ws
            have hcl : w2.cell? ⟨h + 1, 0, none⟩ = some (.slice A 0 c) := by rw [← w5n e5]; exact hC9.b1.cell
            have HI := Lib.hid hI9
            have E1 := Lib.hid e1
            clear hI9 e1 e4' e5 hC9 w4n w4y w5n w5y
            refine wpOpIn_step rfl (fun K' hK => ?_)
            go_simp
            refine hK _ _ ?_
            exact ⟨true, b1, b2, b3, b4, b5, _, u33, u34, u35, u36, rfl, rfl, ⟨fun _ => rfl, HI.out.s1, HI.out.s2, HI.out.s3, (fun e => absurd (e.symm.trans E1.out) (by decide)), HI.out.q3, HI.out.q4, HI.out.q5, HI.out.ws⟩⟩
          · -- 1: open[:0]
            obtain rfl := hdep
            have e4' := nb (fun e => (hI9.q4 e).1) rfl
            obtain rfl := hI9.s0 rfl
            have HI := Lib.hid hI9
            have E4 := Lib.hid e4'
            clear hI9 e4'
            refine wpOpIn_step rfl (fun K' hK => ?_)
            go_simp
            refine hK _ _ ?_
            exact ⟨true, true, b2, b3, b4, b5, _, _, u34, u35, u36, rfl, rfl, ⟨fun _ => rfl, fun _ => rfl, HI.out.s2, HI.out.s3, fun _ => rfl, HI.out.q3, (fun e => by rw [E4.out] at e; cases e), HI.out.q5, HI.out.ws⟩⟩
          · -- 2: the rune
            have e3 := nb hI9.q3 rfl
            have HI := Lib.hid hI9
            have E3 := Lib.hid e3
            clear hI9 e3
            refine wpOpIn_step rfl (fun K' hK => ?_)
            go_simp
            refine hK _ _ ?_
            exact ⟨b0, b1, true, b3, b4, b5, u32, u33, _, u35, u36, rfl, rfl, ⟨HI.out.s0, HI.out.s1, fun _ => rfl, HI.out.s3, HI.out.q1, fun _ => rfl, HI.out.q4, HI.out.q5, HI.out.ws⟩⟩
          · -- 3: its bytes
            obtain rfl := hdep
            have e4' := nb (fun e => (hI9.q4 e).2) rfl
            obtain rfl := hI9.s2 rfl
            obtain ⟨A9, n9, c9, k9, v9, hC9, w4n, w4y, w5n, w5y⟩ := hI9.ws
            have HI := Lib.hid hI9
            have E4 := Lib.hid e4'
            have HCX := Lib.hid hC9
            have HW := Lib.hid (And.intro w4n (And.intro w4y (And.intro w5n w5y)))
            clear hI9 e4' hC9 w4n w4y w5n w5y
            refine wpOpIn_step rfl (fun K' hK => ?_)
            go_simp
            refine ⟨trivial, (CallsIn.inRound lo (callsIn_wide.2 (bytes_any _ _))).mono ?_⟩
            rintro e w4 ⟨rfl, rfl⟩
            refine hK _ _ ?_
            exact ⟨b0, b1, true, true, b4, b5, u32, u33, _, _, u36, rfl, rfl, ⟨HI.out.s0, HI.out.s1, fun _ => rfl, (fun _ _ => ⟨_, rfl, by have := Sl.new w2 (bv (e4 x.2)).toArray 5; rw [World.size_alloc]; exact this⟩), HI.out.q1, fun _ => rfl, (fun e => by rw [E4.out] at e; cases e), HI.out.q5, ⟨A9, n9, c9, k9, v9, HCX.out.alloc _, HW.out.1, HW.out.2.1, HW.out.2.2.1, HW.out.2.2.2⟩⟩⟩
          · -- 4: the append
            obtain ⟨rfl, rfl⟩ := hdep
            have e5 := nb hI9.q5 rfl
            obtain rfl := hI9.s1 rfl
            obtain ⟨g, rfl, hg⟩ := hI9.s3 rfl rfl
            obtain ⟨A9, n9, c9, k9, v9, hC9, w4n, w4y, w5n, w5y⟩ := hI9.ws
            obtain ⟨rfl, rfl, rfl, rfl⟩ := w4n rfl
            have hx4 := e4_le x.2
            obtain ⟨A5, c5, w5, hrun, hO5, hg5, hat5⟩ := run_app_u8 w2 83 (h + 5) A9 0 c9 [] hC9.row.cut0 (some ⟨g, 0, none⟩) (e4 x.2).length (e4 x.2).length (e4 x.2) _ hg rfl (fun e => by cases e) (e4 x.2).length (by omega) (by omega) hC9.sz
            have hC5 := hC9.app hg5 hO5 (fun j hj => by
              rcases hat5 with h1 | h1
              · exact .inl (by rw [← h1]; exact hj)
              · rw [h1] at hj; cases hj; exact .inr (Nat.le_refl _))
            have HI := Lib.hid hI9
            have E5 := Lib.hid e5
            have HCX := Lib.hid hC5
            have HV := Lib.hid (w5n e5)
            have HRN := Lib.hid hrun
            clear hI9 e5 hC9 w4n w4y w5n w5y hC5 hrun hO5 hg5 hat5 hg hx4
            refine wpOpIn_step rfl (fun K' hK => ?_)
            refine stepIn_app 83 rfl (.tmp 33) (.tmp 35) rfl _ _ _ _ rfl rfl HRN.out ?_
            refine hK _ _ ?_
            exact ⟨b0, true, b2, true, true, b5, u32, _, u34, _, _, rfl, rfl, ⟨HI.out.s0, fun _ => rfl, HI.out.s2, (fun _ e => by cases e), HI.out.q1, HI.out.q3, (fun _ => ⟨rfl, rfl⟩), fun _ => rfl, ⟨A5, _, c5, _, v9, HCX.out, (fun e => by cases e), (fun _ => ⟨rfl, by simp⟩), (fun _ => HV.out), (fun e => by rw [E5.out] at e; cases e)⟩⟩⟩
          · -- 5: the store
            have hb4' : b4 = true := by simp_all
            subst hb4'
            obtain ⟨A9, n9, c9, k9, v9, hC9, w4n, w4y, w5n, w5y⟩ := hI9.ws
            obtain ⟨rfl, rfl⟩ := w4y rfl
            have hcl := hC9.b1.cell
            have hfl := hC9.b1.frozen
            have HI := Lib.hid hI9
            have HCX := Lib.hid hC9
            clear hI9 hC9 w4n w4y w5n w5y hdep
            refine wpOpIn_step rfl (fun K' hK => ?_)
            go_simp
            refine hK _ _ ?_
            exact ⟨b0, b1, b2, b3, true, true, u32, u33, u34, u35, _, rfl, rfl, ⟨HI.out.s0, HI.out.s1, HI.out.s2, (fun _ e => by cases e), HI.out.q1, HI.out.q3, HI.out.q4, fun _ => rfl, ⟨A9, n9, c9, _, _, HCX.out.set1 _, (fun e => by cases e), (fun _ => ⟨rfl, rfl⟩), (fun e => by cases e), (fun _ => rfl)⟩⟩⟩
        · exact ⟨false, false, false, false, false, false, _, _, _, _, _, rfl, rfl, ⟨(fun e => by cases e), (fun e => by cases e), (fun e => by cases e), (fun e => by cases e), (fun e => by cases e), (fun e => by cases e), (fun e => by cases e), (fun e => by cases e), ⟨_, _, _, _, _, HCS.out.drew, (fun _ => ⟨rfl, rfl, rfl, rfl⟩), (fun e => by cases e), (fun _ => rfl), (fun e => by cases e)⟩⟩⟩
      · have hm0 : 0 < (m : Int) := by rw [HC.out.row.len]; have := eb_pos ho; omega
        have hm1 : 0 < m := by omega
        have HO := Lib.hid ho
        have hpl : (prs 0 q.1).length < s.size := HPL.out.resolve_right ho
        have HP2 := Lib.hid hpl
        have hel : elC (sumC q.1, eb q.2) := ⟨by show (eb q.2).length ≤ 64; rw [← HC.out.row.len]; exact hm64, (sumC_bd q.1).1, by
          have h1 := HQ.out
          have h2 : (rr pre).length = pre.length := by simp [rr]
          have h3 : (q.1).length ≤ (fin q).length := by unfold fin; split <;> simp
          have h4 := (sumC_bd q.1).2
          show sumC q.1 ≤ 12000000
          omega⟩
        have HEL := Lib.hid hel
        clear hel
        clear ho hpl
        gi_wp2_with (first
          | (refine ⟨trivial, ?_⟩; gi_at_call 94; refine (CallsIn.inRound lo (callsIn_wide.2 (ctl_any _ _))).mono ?_; rintro e w' ⟨rfl, rfl⟩; rw [HK0.out])
          | (refine ⟨trivial, ?_⟩; gi_at_call 95; refine (CallsIn.inRound lo (callsIn_wide.2 (mark_any _ _ HC.out.tabs))).mono ?_; rintro e w1 ⟨rfl, hb1⟩; rw [HK1.out]; have hC1 := Lib.hid (HC.out.below hb1); have hc1 := hC1.out.b1.cell; have hc0 := hC1.out.b0.cell; have hc2 := hC1.out.b2.cell;
             have hcv := run_str_sl w1 w1.heap.size A m c (eb q.2) hC1.out.row.sl hC1.out.row.len;
             obtain ⟨fn, tmps, assign, body, hy, hR⟩ := HY.out 5 (prs 0 q.1) (sumC q.1, eb q.2) (fun k => f k ∨ (X.heap.size ≤ k ∧ k < w1.heap.size)) w1 (HJ.out _ f _ X w1 HJ1.out hC1.out.turn (fun k hk => hk)) HP2.out HEL.out; simp only [encC] at hy))
        refine (RoundIn.inR lo hR).mono ?_
        rintro e W3 (⟨rfl, hJ3, hk3⟩ | ⟨rfl, hx3, hk3⟩)
        · clear hR hy hcv hc0 hc1 hc2
          gi_wp2
          obtain ⟨wS, hwS⟩ : ∃ wS, wS = W3 := ⟨_, rfl⟩
          rw [← hwS]
          obtain ⟨fS, hfS⟩ : ∃ fS : Nat → Prop, fS = fun k => f k ∨ (X.heap.size ≤ k ∧ k < w1.heap.size) := ⟨_, rfl⟩
          obtain ⟨XS, hXS⟩ : ∃ XS, XS = W3 := ⟨_, rfl⟩
          have HFS1 : Hid (∀ k, f0 k → fS k) := by rw [hfS]; exact fun k hk => .inl (HF1.out k hk)
          have HFS2 : Hid (∀ j, h ≤ j → j < h + 5 → fS j) := by rw [hfS]; exact fun j a b => .inl (HF2.out j a b)
          rw [← hfS] at hJ3 hk3
          have hmine : ∀ g, blk A = some g → fS g := by
            rw [hfS]
            intro g hg
            exact (hC1.out.mine g hg).imp id (fun hl => ⟨hl, (hC1.out.row.blk_lt g hg).2⟩)
          have hCS : ClIn h fS XS l s A m c (eb q.2) (.slice A m c) (sumC q.1) (wc q.2) wS := by
            rw [hwS, hXS]
            refine hC1.out.again hk3.below.size (fun j hj => hk3.mine j ?_) ⟨HFS2.out _ (by omega) (by omega), HFS2.out _ (by omega) (by omega), HFS2.out _ (by omega) (by omega)⟩ hmine
            rcases hj with hj | hj | hj | hj
            · exact HFS2.out j hj.1 hj.2
            · exact hmine j hj
            · subst hj; exact HFS1.out _ h0m
            · subst hj; exact HFS1.out _ h0w
          have HCS := Lib.hid hCS
          have HKF : Hid (KeepsFrom W0.heap.size X XS) := by
            rw [hXS]
            have hHH := HH.out
            exact (hC1.out.keeps.from _).trans ⟨hk3.keeps.size, fun k o hk ho hc => hk3.keeps.same k o (by omega) ho hc⟩
          have HB0 : Hid (Below 0 X XS) := by rw [hXS]; exact hC1.out.turn.below0.trans hk3.below
          have HJS : Hid (J (prs 0 (fin q)) fS XS) := by
            have e : fin q = q.1 ++ [q.2] := by unfold fin; rw [if_neg HO.out]
            rw [e, prs_snoc, hXS, Int.zero_add]; exact hJ3
          have ha0 := sumC_bd q.1
          have ha1 := wc_01 q.2
          obtain ⟨hsA, hsB⟩ := ha0
          obtain ⟨hwA, hwB⟩ := ha1
          have ha2 : sumC q.1 ≤ 12000000 := by
            have h1 := HQ.out
            have h2 : (rr pre).length = pre.length := by simp [rr]
            have h3 : (q.1).length ≤ (fin q).length := by unfold fin; split <;> simp
            omega
          clear hCS hwS hfS hXS hC1 hb1 HC HJ1 HF1 HF2 HF3 hm64 hI0 HPL HO hcs hJ3 hk3 hmine HP2
          have hmx : Tryd.prog.follows .mixedOrders = true := by kernel_rfl
          refine wpIn_region_any hmx ?_
          change wpAnyIn _ _ _ _ _ _ _ _ _ wS.drew
          refine wpAnyIn_inv (fun listed a w2 => ∃ b0 b1 b2 b3 b4 b5 u32 u33 u34 u35 u36, listed = #[b0, b1, b2, b3, b4, b5] ∧
            a = { tmps := #[.func (.yield l) #[] #[], .pointer (some ⟨Bn, 0, none⟩), .pointer (some ⟨h, 0, none⟩), .pointer (some ⟨h + 1, 0, none⟩), .pointer (some ⟨h + 1 + 1, 0, none⟩), .pointer (some ⟨h + 1 + 1 + 1, 0, none⟩), undef, .int .i32 x.2, .string s, .func (.func 107) #[] #[.pointer (some ⟨h + 1 + 1 + 1 + 1, 0, none⟩)], .int .i64 x.1, .int .i32 x.2, .bool false, .int .i32 x.2, .bool false, .bool false, .int .i32 x.2, .bool false, undef, undef, undef, .slice A m c, .int .i64 m, .bool true, .bool true, .func (.yield l) #[] #[], .int .i64 (sumC q.1), .slice A m c, .string ⟨(eb q.2).toArray⟩, .bool true, .bool false, .bool false, u32, u33, u34, u35, u36, undef, undef, undef, undef, undef, undef, undef, undef, undef, undef, undef, undef, undef], defers := [] } ∧
            R9 h fS XS l s A m c (eb q.2) (sumC q.1) (wc q.2) x.2 b0 b1 b2 b3 b4 b5 u32 u33 u34 u35 u36 w2) ?_ ?_ _ _ _ _ (by decide) ?_
          · rintro listed a w2 hr ⟨b0, b1, b2, b3, b4, b5, u32, u33, u34, u35, u36, rfl, rfl, hI9⟩
            obtain rfl : b0 = true := listed_of hr (j := 0) rfl (by simp)
            obtain rfl : b1 = true := listed_of hr (j := 1) rfl (by simp [Region.binds])
            obtain rfl : b2 = true := listed_of hr (j := 2) rfl (by simp)
            obtain rfl : b3 = true := listed_of hr (j := 3) rfl (by simp [Region.binds])
            obtain rfl : b4 = true := listed_of hr (j := 4) rfl (by simp [Region.binds])
            obtain rfl : b5 = true := listed_of hr (j := 5) rfl (by simp [Region.binds])
            obtain ⟨A9, n9, c9, k9, v9, hC9, _, w4y, _, w5y⟩ := hI9.ws
            obtain ⟨rfl, rfl⟩ := w4y rfl
            obtain rfl := w5y rfl
            have HC9 := Lib.hid hC9
            clear hC9 w4y w5y hI9 hr
            gi_wp2
            refine wpIn_region_any hmx ?_
            change wpAnyIn _ _ _ _ _ _ _ _ _ w2.drew
            refine wpAnyIn_inv (fun listed a w3 => ∃ b0 b1 b2 b3 b4 b5 b6 u37 u38 u39 u40 u41, listed = #[b0, b1, b2, b3, b4, b5, b6] ∧
              a = { tmps := #[.func (.yield l) #[] #[], .pointer (some ⟨Bn, 0, none⟩), .pointer (some ⟨h, 0, none⟩), .pointer (some ⟨h + 1, 0, none⟩), .pointer (some ⟨h + 1 + 1, 0, none⟩), .pointer (some ⟨h + 1 + 1 + 1, 0, none⟩), undef, .int .i32 x.2, .string s, .func (.func 107) #[] #[.pointer (some ⟨h + 1 + 1 + 1 + 1, 0, none⟩)], .int .i64 x.1, .int .i32 x.2, .bool false, .int .i32 x.2, .bool false, .bool false, .int .i32 x.2, .bool false, undef, undef, undef, .slice A m c, .int .i64 m, .bool true, .bool true, .func (.yield l) #[] #[], .int .i64 (sumC q.1), .slice A m c, .string ⟨(eb q.2).toArray⟩, .bool true, .bool false, .bool false, u32, u33, u34, u35, .slice A9 n9 c9, u37, u38, u39, u40, u41, undef, undef, undef, undef, undef, undef, undef, undef], defers := [] } ∧
              R10 h fS XS l s A9 n9 c9 (e4 x.2) (.slice A9 n9 c9) (sumC q.1) (wc q.2) x.2 b0 b1 b2 b3 b4 b5 b6 u37 u38 u39 u40 u41 w3) ?_ ?_ _ _ _ _ (by decide) ?_
            · rintro listed a w3 hr ⟨b0, b1, b2, b3, b4, b5, b6, u37, u38, u39, u40, u41, rfl, rfl, hI10⟩
              obtain rfl : b0 = true := listed_of hr (j := 0) rfl (by simp)
              obtain rfl : b1 = true := listed_of hr (j := 1) rfl (by simp)
              obtain rfl : b2 = true := listed_of hr (j := 2) rfl (by simp [Region.binds])
              obtain rfl : b3 = true := listed_of hr (j := 3) rfl (by simp)
              obtain rfl : b4 = true := listed_of hr (j := 4) rfl (by simp [Region.binds])
              obtain rfl : b5 = true := listed_of hr (j := 5) rfl (by simp [Region.binds])
              obtain rfl : b6 = true := listed_of hr (j := 6) rfl (by simp [Region.binds])
              obtain ⟨p2, p3, hC10, _, w5y, _, w6y⟩ := hI10.ws
              obtain rfl := w5y rfl
              obtain rfl := w6y rfl
              refine ⟨HKF.out.trans (hC10.keeps.from _), ⟨HB0.out.trans hC10.turn.below0, fun _ => hC10.b4.cell⟩, ?_⟩
              show InI h f0 J l s (run (rr (pre ++ [x]))) _
              rw [HR.out, st2_base HB.out]
              have hn9 : n9 = (eb [x.2]).length := by rw [hC10.row.len]; simp [eb]
              refine inI_next (q := (fin q, [x.2])) (A := A9) (n := n9) (c := c9) HJ.out ?_ HJS.out HFS1.out HFS2.out
              have e1 : sumC (fin q) = sumC q.1 + wc q.2 := sumC_fin q
              have e2 : eb [x.2] = e4 x.2 := by simp [eb]
              show ClIn h fS XS l s A9 n9 c9 (eb [x.2]) (.slice A9 n9 c9) (sumC (fin q)) (ofI x.2) w3
              rw [e1, e2]
              exact hC10
            · rintro i listed a w3 ⟨b0, b1, b2, b3, b4, b5, b6, u37, u38, u39, u40, u41, rfl, rfl, hI10⟩ hi
              obtain ⟨hf, o, ho, hdep⟩ := mem_ready.1 hi
              have hi7 : i < 7 := (Array.getElem?_eq_some_iff.1 ho).1
              have hic : i = 0 ∨ i = 1 ∨ i = 2 ∨ i = 3 ∨ i = 4 ∨ i = 5 ∨ i = 6 := by omega
              rcases hic with rfl | rfl | rfl | rfl | rfl | rfl | rfl
              all_goals
                simp at ho
                subst ho
                simp [Region.binds] at hdep
                simp at hf
              all_goals try subst hf
              all_goals try simp only [forall_const] at hdep
              · -- 0: ahead
                have e2 := nb (fun e => (hI10.q2 e).1) rfl
                have e5 := nb (fun e => (hI10.q5 e).1) e2
                obtain ⟨p2, p3, hC10, w5n, w5y, w6n, w6y⟩ := hI10.ws
                obtain rfl := w5n e5
                have hcl := hC10.b2.cell
                have HI := Lib.hid hI10
                have E2 := Lib.hid e2
                clear hI10 e2 e5 hC10 w5n w5y w6n w6y
                refine wpOpIn_step rfl (fun K' hK => ?_)
                go_simp
                refine hK _ _ ?_
                exact ⟨true, b1, b2, b3, b4, b5, b6, _, u38, u39, u40, u41, rfl, rfl, ⟨fun _ => rfl, HI.out.s1, HI.out.s2, HI.out.s3, HI.out.s4, (fun e => by rw [E2.out] at e; cases e), HI.out.q4, HI.out.q5, HI.out.q6, HI.out.ws⟩⟩
              · -- 1: columns
                have e2 := nb (fun e => (hI10.q2 e).2) rfl
                have e5 := nb (fun e => (hI10.q5 e).1) e2
                have e6 := nb hI10.q6 e5
                obtain ⟨p2, p3, hC10, w5n, w5y, w6n, w6y⟩ := hI10.ws
                obtain rfl := w6n e6
                have hcl := hC10.b3.cell
                have HI := Lib.hid hI10
                have E2 := Lib.hid e2
                clear hI10 e2 e5 e6 hC10 w5n w5y w6n w6y
                refine wpOpIn_step rfl (fun K' hK => ?_)
                go_simp
                refine hK _ _ ?_
                exact ⟨b0, true, b2, b3, b4, b5, b6, u37, _, u39, u40, u41, rfl, rfl, ⟨HI.out.s0, fun _ => rfl, HI.out.s2, HI.out.s3, HI.out.s4, (fun e => by rw [E2.out] at e; cases e), HI.out.q4, HI.out.q5, HI.out.q6, HI.out.ws⟩⟩
              · -- 2: the sum
                obtain ⟨rfl, rfl⟩ := hdep
                have e5 := nb (fun e => (hI10.q5 e).1) rfl
                obtain rfl := hI10.s0 rfl
                obtain rfl := hI10.s1 rfl
                have HI := Lib.hid hI10
                have E5 := Lib.hid e5
                clear hI10 e5
                have hws : IntKind.i64.wrap (sumC q.1 + wc q.2) = sumC q.1 + wc q.2 := IntWalk.i64_in _ (by omega)
                refine wpOpIn_step rfl (fun K' hK => ?_)
                go_simp
                refine hK _ _ ?_
                exact ⟨true, true, true, b3, b4, b5, b6, _, _, _, u40, u41, rfl, rfl, ⟨fun _ => rfl, fun _ => rfl, fun _ => by first | rfl | rw [hws] | go_num, HI.out.s3, HI.out.s4, (fun _ => ⟨rfl, rfl⟩), HI.out.q4, (fun e => by rw [E5.out] at e; cases e), HI.out.q6, HI.out.ws⟩⟩
              · -- 3: the rune
                have e4' := nb hI10.q4 rfl
                have HI := Lib.hid hI10
                have E4 := Lib.hid e4'
                clear hI10 e4'
                refine wpOpIn_step rfl (fun K' hK => ?_)
                go_simp
                refine hK _ _ ?_
                exact ⟨b0, b1, b2, true, b4, b5, b6, u37, u38, u39, _, u41, rfl, rfl, ⟨HI.out.s0, HI.out.s1, HI.out.s2, fun _ => rfl, HI.out.s4, HI.out.q2, fun _ => rfl, HI.out.q5, HI.out.q6, HI.out.ws⟩⟩
              · -- 4: the call
                obtain rfl := hdep
                have e5 := nb (fun e => (hI10.q5 e).2) rfl
                obtain rfl := hI10.s3 rfl
                obtain ⟨p2, p3, hC10, w5n, w5y, w6n, w6y⟩ := hI10.ws
                have HI := Lib.hid hI10
                have HCX := Lib.hid hC10
                have HW := Lib.hid (And.intro w5n (And.intro w5y (And.intro w6n w6y)))
                have E5 := Lib.hid e5
                clear hI10 e5 hC10 w5n w5y w6n w6y
                refine wpOpIn_step rfl (fun K' hK => ?_)
                go_simp
                refine ⟨trivial, (CallsIn.inRound lo (callsIn_wide.2 (of_any _ _ HCX.out.tabs))).mono ?_⟩
                rintro e w4 ⟨rfl, hb4⟩
                refine hK _ _ ?_
                exact ⟨b0, b1, b2, true, true, b5, b6, u37, u38, u39, _, _, rfl, rfl, ⟨HI.out.s0, HI.out.s1, HI.out.s2, fun _ => rfl, fun _ => rfl, HI.out.q2, fun _ => rfl, (fun e => by rw [E5.out] at e; cases e), HI.out.q6, ⟨p2, p3, HCX.out.below hb4, HW.out.1, HW.out.2.1, HW.out.2.2.1, HW.out.2.2.2⟩⟩⟩
              · -- 5: the first store
                have hb2 : b2 = true := by simp_all
                have hb4' : b4 = true := by simp_all
                subst hb2
                subst hb4'
                have e6 := nb hI10.q6 rfl
                obtain rfl := hI10.s2 rfl
                obtain ⟨p2, p3, hC10, w5n, w5y, w6n, w6y⟩ := hI10.ws
                have hcl := hC10.b2.cell
                have hfl := hC10.b2.frozen
                have HI := Lib.hid hI10
                have HCX := Lib.hid hC10
                have H6 := Lib.hid (w6n e6)
                have E6 := Lib.hid e6
                clear hI10 e6 hC10 w5n w5y w6n w6y hdep
                refine wpOpIn_step rfl (fun K' hK => ?_)
                go_simp
                refine hK _ _ ?_
                exact ⟨b0, b1, true, b3, true, true, b6, u37, u38, _, u40, u41, rfl, rfl, ⟨HI.out.s0, HI.out.s1, fun _ => rfl, HI.out.s3, HI.out.s4, HI.out.q2, HI.out.q4, (fun _ => ⟨rfl, rfl⟩), fun _ => rfl, ⟨_, p3, HCX.out.set2 _, (fun e => by cases e), (fun _ => rfl), (fun _ => H6.out), (fun e => by rw [E6.out] at e; cases e)⟩⟩⟩
              · -- 6: the second store
                have hb5 : b5 = true := by simp_all
                have hb4' : b4 = true := by simp_all
                subst hb5
                subst hb4'
                obtain rfl := hI10.s4 rfl
                obtain ⟨p2, p3, hC10, w5n, w5y, w6n, w6y⟩ := hI10.ws
                have hcl := hC10.b3.cell
                have hfl := hC10.b3.frozen
                have HI := Lib.hid hI10
                have HCX := Lib.hid hC10
                have H5 := Lib.hid (w5y rfl)
                clear hI10 hC10 w5n w5y w6n w6y hdep
                refine wpOpIn_step rfl (fun K' hK => ?_)
                go_simp
                refine hK _ _ ?_
                exact ⟨b0, b1, b2, b3, true, true, true, u37, u38, u39, u40, _, rfl, rfl, ⟨HI.out.s0, HI.out.s1, HI.out.s2, HI.out.s3, fun _ => rfl, HI.out.q2, HI.out.q4, HI.out.q5, fun _ => rfl, ⟨p2, _, HCX.out.set3 _, (fun e => by cases e), (fun _ => H5.out), (fun e => by cases e), (fun _ => rfl)⟩⟩⟩
            · exact ⟨false, false, false, false, false, false, false, _, _, _, _, _, rfl, rfl, ⟨(fun e => by cases e), (fun e => by cases e), (fun e => by cases e), (fun e => by cases e), (fun e => by cases e), (fun e => by cases e), (fun e => by cases e), (fun e => by cases e), (fun e => by cases e), ⟨_, _, HC9.out.drew, (fun _ => rfl), (fun e => by cases e), (fun _ => rfl), (fun e => by cases e)⟩⟩⟩
          · rintro i listed a w2 ⟨b0, b1, b2, b3, b4, b5, u32, u33, u34, u35, u36, rfl, rfl, hI9⟩ hi
            obtain ⟨hf, o, ho, hdep⟩ := mem_ready.1 hi
            have hi6 : i < 6 := (Array.getElem?_eq_some_iff.1 ho).1
            have hic : i = 0 ∨ i = 1 ∨ i = 2 ∨ i = 3 ∨ i = 4 ∨ i = 5 := by omega
            rcases hic with rfl | rfl | rfl | rfl | rfl | rfl
            all_goals
              simp at ho
              subst ho
              simp [Region.binds] at hdep
              simp at hf
            all_goals try subst hf
            all_goals try simp only [forall_const] at hdep
            · -- 0: open
              have e1 := nb hI9.q1 rfl
              have e4' := nb (fun e => (hI9.q4 e).1) e1
              have e5 := nb hI9.q5 e4'
              obtain ⟨A9, n9, c9, k9, v9, hC9, w4n, w4y, w5n, w5y⟩ := hI9.ws
              have hcl : w2.cell? ⟨h + 1, 0, none⟩ = some (.slice A m c) := by rw [← w5n e5]; exact hC9.b1.cell
              have HI := Lib.hid hI9
              have E1 := Lib.hid e1
              clear hI9 e1 e4' e5 hC9 w4n w4y w5n w5y
              refine wpOpIn_step rfl (fun K' hK => ?_)
              go_simp
              refine hK _ _ ?_
              exact ⟨true, b1, b2, b3, b4, b5, _, u33, u34, u35, u36, rfl, rfl, ⟨fun _ => rfl, HI.out.s1, HI.out.s2, HI.out.s3, (fun e => absurd (e.symm.trans E1.out) (by decide)), HI.out.q3, HI.out.q4, HI.out.q5, HI.out.ws⟩⟩
            · -- 1: open[:0]
              obtain rfl := hdep
              have e4' := nb (fun e => (hI9.q4 e).1) rfl
              obtain rfl := hI9.s0 rfl
              have HI := Lib.hid hI9
              have E4 := Lib.hid e4'
              clear hI9 e4'
              refine wpOpIn_step rfl (fun K' hK => ?_)
              go_simp
              refine hK _ _ ?_
              exact ⟨true, true, b2, b3, b4, b5, _, _, u34, u35, u36, rfl, rfl, ⟨fun _ => rfl, fun _ => rfl, HI.out.s2, HI.out.s3, fun _ => rfl, HI.out.q3, (fun e => by rw [E4.out] at e; cases e), HI.out.q5, HI.out.ws⟩⟩
            · -- 2: the rune
              have e3 := nb hI9.q3 rfl
              have HI := Lib.hid hI9
              have E3 := Lib.hid e3
              clear hI9 e3
              refine wpOpIn_step rfl (fun K' hK => ?_)
              go_simp
              refine hK _ _ ?_
              exact ⟨b0, b1, true, b3, b4, b5, u32, u33, _, u35, u36, rfl, rfl, ⟨HI.out.s0, HI.out.s1, fun _ => rfl, HI.out.s3, HI.out.q1, fun _ => rfl, HI.out.q4, HI.out.q5, HI.out.ws⟩⟩
            · -- 3: its bytes
              obtain rfl := hdep
              have e4' := nb (fun e => (hI9.q4 e).2) rfl
              obtain rfl := hI9.s2 rfl
              obtain ⟨A9, n9, c9, k9, v9, hC9, w4n, w4y, w5n, w5y⟩ := hI9.ws
              have HI := Lib.hid hI9
              have E4 := Lib.hid e4'
              have HCX := Lib.hid hC9
              have HW := Lib.hid (And.intro w4n (And.intro w4y (And.intro w5n w5y)))
              clear hI9 e4' hC9 w4n w4y w5n w5y
              refine wpOpIn_step rfl (fun K' hK => ?_)
              go_simp
              refine ⟨trivial, (CallsIn.inRound lo (callsIn_wide.2 (bytes_any _ _))).mono ?_⟩
              rintro e w4 ⟨rfl, rfl⟩
              refine hK _ _ ?_
              exact ⟨b0, b1, true, true, b4, b5, u32, u33, _, _, u36, rfl, rfl, ⟨HI.out.s0, HI.out.s1, fun _ => rfl, (fun _ _ => ⟨_, rfl, by have := Sl.new w2 (bv (e4 x.2)).toArray 5; rw [World.size_alloc]; exact this⟩), HI.out.q1, fun _ => rfl, (fun e => by rw [E4.out] at e; cases e), HI.out.q5, ⟨A9, n9, c9, k9, v9, HCX.out.alloc _, HW.out.1, HW.out.2.1, HW.out.2.2.1, HW.out.2.2.2⟩⟩⟩
            · -- 4: the append
              obtain ⟨rfl, rfl⟩ := hdep
              have e5 := nb hI9.q5 rfl
              obtain rfl := hI9.s1 rfl
              obtain ⟨g, rfl, hg⟩ := hI9.s3 rfl rfl
              obtain ⟨A9, n9, c9, k9, v9, hC9, w4n, w4y, w5n, w5y⟩ := hI9.ws
              obtain ⟨rfl, rfl, rfl, rfl⟩ := w4n rfl
              have hx4 := e4_le x.2
              obtain ⟨A5, c5, w5, hrun, hO5, hg5, hat5⟩ := run_app_u8 w2 83 (h + 5) A9 0 c9 [] hC9.row.cut0 (some ⟨g, 0, none⟩) (e4 x.2).length (e4 x.2).length (e4 x.2) _ hg rfl (fun e => by cases e) (e4 x.2).length (by omega) (by omega) hC9.sz
              have hC5 := hC9.app hg5 hO5 (fun j hj => by
                rcases hat5 with h1 | h1
                · exact .inl (by rw [← h1]; exact hj)
                · rw [h1] at hj; cases hj; exact .inr (Nat.le_refl _))
              have HI := Lib.hid hI9
              have E5 := Lib.hid e5
              have HCX := Lib.hid hC5
              have HV := Lib.hid (w5n e5)
              have HRN := Lib.hid hrun
              clear hI9 e5 hC9 w4n w4y w5n w5y hC5 hrun hO5 hg5 hat5 hg hx4
              refine wpOpIn_step rfl (fun K' hK => ?_)
              refine stepIn_app 83 rfl (.tmp 33) (.tmp 35) rfl _ _ _ _ rfl rfl HRN.out ?_
              refine hK _ _ ?_
              exact ⟨b0, true, b2, true, true, b5, u32, _, u34, _, _, rfl, rfl, ⟨HI.out.s0, fun _ => rfl, HI.out.s2, (fun _ e => by cases e), HI.out.q1, HI.out.q3, (fun _ => ⟨rfl, rfl⟩), fun _ => rfl, ⟨A5, _, c5, _, v9, HCX.out, (fun e => by cases e), (fun _ => ⟨rfl, by simp⟩), (fun _ => HV.out), (fun e => by rw [E5.out] at e; cases e)⟩⟩⟩
            · -- 5: the store
              have hb4' : b4 = true := by simp_all
              subst hb4'
              obtain ⟨A9, n9, c9, k9, v9, hC9, w4n, w4y, w5n, w5y⟩ := hI9.ws
              obtain ⟨rfl, rfl⟩ := w4y rfl
              have hcl := hC9.b1.cell
              have hfl := hC9.b1.frozen
              have HI := Lib.hid hI9
              have HCX := Lib.hid hC9
              clear hI9 hC9 w4n w4y w5n w5y hdep
              refine wpOpIn_step rfl (fun K' hK => ?_)
              go_simp
              refine hK _ _ ?_
              exact ⟨b0, b1, b2, b3, true, true, u32, u33, u34, u35, _, rfl, rfl, ⟨HI.out.s0, HI.out.s1, HI.out.s2, (fun _ e => by cases e), HI.out.q1, HI.out.q3, HI.out.q4, fun _ => rfl, ⟨A9, n9, c9, _, _, HCX.out.set1 _, (fun e => by cases e), (fun _ => ⟨rfl, rfl⟩), (fun e => by cases e), (fun _ => rfl)⟩⟩⟩
          · exact ⟨false, false, false, false, false, false, _, _, _, _, _, rfl, rfl, ⟨(fun e => by cases e), (fun e => by cases e), (fun e => by cases e), (fun e => by cases e), (fun e => by cases e), (fun e => by cases e), (fun e => by cases e), (fun e => by cases e), ⟨_, _, _, _, _, HCS.out.drew, (fun _ => ⟨rfl, rfl, rfl, rfl⟩), (fun e => by cases e), (fun _ => rfl), (fun e => by cases e)⟩⟩⟩
        · clear hR hy hcv hc0 hc1 hc2
          gi_wp2
          have hHH := HH.out
          have hkf : KeepsFrom W0.heap.size X W3 := (hC1.out.keeps.from _).trans ⟨hk3.size, fun k o hk ho hc => hk3.same k o (by omega) ho hc⟩
          refine ⟨hkf, rfl, (fun k => f k ∨ (X.heap.size ≤ k ∧ k < w1.heap.size)), ?_⟩
          rw [HR.out, st2_base HB.out]
          have e : fin q = q.1 ++ [q.2] := by unfold fin; rw [if_neg HO.out]
          show Jx (prs 0 (fin q)) _ W3
          rw [e, prs_snoc, Int.zero_add]
          exact hx3
  case done =>
    rintro D ys X hD rfl hI hK
    have hcount := run_count (rr (rnsOf s.data.toList))
    have hrl : (rr (rnsOf s.data.toList)).length ≤ s.size := by
      have h1 : (rr (rnsOf s.data.toList)).length = (rnsOf s.data.toList).length := by simp [rr]
      have h2 := rnsOf_le s.data.toList
      have h3 : s.data.toList.length = s.size := rfl
      omega
    have hcl : cls (rs s.data.toList) = fin (run (rr (rnsOf s.data.toList))) := rfl
    generalize HQE : run (rr (rnsOf s.data.toList)) = q at hI hcount hcl
    have HCL := Lib.hid hcl
    obtain ⟨f, A, m, c, hC, hj, h1, h2, h3⟩ := hI
    have h64 := run_len (rr (rnsOf s.data.toList))
    have hm64 : m ≤ 64 := by rw [hC.row.len, ← HQE]; exact h64
    clear HQE h64
    have hDl := (Array.getElem?_eq_some_iff.1 hK).1
    have hD5 : h ≤ D := by omega
    have hc1 := hC.b1.cell
    have HC := Lib.hid hC
    have HJ1 := Lib.hid hj
    have HQ := Lib.hid hcount
    have HRL := Lib.hid hrl
    clear hC hj hcl hcount hrl h1 h2 h3 hI0 hcs
    by_cases ho : q.2 = []
    · have hm0 : m = 0 := by rw [HC.out.row.len, ho]; rfl
      subst hm0
      have e : fin q = q.1 := by unfold fin; rw [if_pos ho]
      have E := Lib.hid e
      clear ho e
      gi_wp2
      refine (wpIn_wide (n := 8)).1 ?_
      gi_wp2
      refine ⟨by simp, .inl ⟨_, _, rfl, run_takeDeferred hK, ?_⟩⟩
      refine ⟨_, results_none rfl _ _ _, ⟨_, rfl⟩, .inl ⟨prs 0 (fin q), f, by rw [HCL.out], ?_⟩⟩
      rw [E.out]
      exact HJ.out.put _ HJ1.out hD5 hK rfl
    · have hm0 : 0 < (m : Int) := by rw [HC.out.row.len]; have := eb_pos ho; omega
      have hm1 : 0 < m := by omega
      have e : fin q = q.1 ++ [q.2] := by unfold fin; rw [if_neg ho]
      have hpl : (prs 0 q.1).length < s.size := by
        have h1 := HQ.out
        have h2 := HRL.out
        rw [e, List.length_append] at h1
        rw [prs_length]
        simp at h1
        omega
      have E := Lib.hid e
      have hc0 := HC.out.b0.cell
      have hc2 := HC.out.b2.cell
      have hcv := run_str_sl X X.heap.size A m c (eb q.2) HC.out.row.sl HC.out.row.len
      have hel : elC (sumC q.1, eb q.2) := ⟨by show (eb q.2).length ≤ 64; rw [← HC.out.row.len]; exact hm64, (sumC_bd q.1).1, by
        have h1 := HQ.out
        have h2 := HRL.out
        have h3 : (q.1).length ≤ (fin q).length := by unfold fin; split <;> simp
        have h4 := (sumC_bd q.1).2
        show sumC q.1 ≤ 12000000
        omega⟩
      obtain ⟨fn, tmps, assign, body, hy, hR⟩ := HY.out 7 (prs 0 q.1) (sumC q.1, eb q.2) f X HJ1.out hpl hel
      simp only [encC] at hy
      clear ho e hpl hel
      gi_wp2
      refine (wpIn_wide (n := 8)).1 ?_
      gi_wp2
      refine hR.mono ?_
      rintro e W3 (⟨rfl, hJ3, hk3⟩ | ⟨rfl, hx3, hk3⟩)
      · have hHH := HH.out
        have hK3 := hk3.keeps.same D _ (by omega) hK rfl
        clear hR hy hcv hc0 hc1 hc2 hHH
        gi_wp2
        refine ⟨by simp, .inl ⟨_, _, rfl, run_takeDeferred hK3, ?_⟩⟩
        refine ⟨_, results_none rfl _ _ _, ⟨_, rfl⟩, .inl ⟨prs 0 (fin q), f, by rw [HCL.out], ?_⟩⟩
        rw [E.out, prs_snoc, Int.zero_add]
        exact HJ.out.put _ hJ3 hD5 hK3 rfl
      · have hHH := HH.out
        have hK3 := hk3.same D _ (by omega) hK rfl
        clear hR hy hcv hc0 hc1 hc2 hHH
        gi_wp2
        refine ⟨by simp, .inl ⟨_, _, rfl, run_takeDeferred hK3, ?_⟩⟩
        refine ⟨_, results_none rfl _ _ _, ⟨_, rfl⟩, .inr ⟨prs 0 (fin q), f, by rw [HCL.out]; exact List.prefix_refl _, ?_⟩⟩
        rw [E.out, prs_snoc, Int.zero_add]
        exact HJx.out.put _ hx3 hD5 hK3 rfl
  case stop =>
    rintro D c pre X hD hpre ⟨rfl, f, hj⟩ hK
    have hpp : prs 0 (run (rr pre)).1 <+: prs 0 (cls (rs s.data.toList)) := by
      refine prs_prefix (told_pre ?_)
      obtain ⟨t, ht⟩ := hpre
      exact ⟨rr t, by unfold rs; rw [← ht]; simp [rr]⟩
    have HP := Lib.hid hpp
    have HJ1 := Lib.hid hj
    clear hpp hpre hj hI0 hcs
    gi_wp2
    refine ⟨by simp, .inl ⟨_, _, rfl, run_takeDeferred hK, ?_⟩⟩
    refine ⟨_, results_none rfl _ _ _, ⟨_, rfl⟩, .inr ⟨_, f, HP.out, ?_⟩⟩
    exact HJx.out.put _ HJ1.out (by omega) hK rfl
end Go.Proofs.YtfjiogockpmogaaDoor

