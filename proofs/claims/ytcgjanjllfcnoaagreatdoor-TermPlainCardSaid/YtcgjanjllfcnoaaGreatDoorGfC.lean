/-
  A region that draws its order, by an invariant that each operation keeps.
  Plain mathematics of clusters: lists of runes. No program is named here.
  Walks: cluster.All, cluster.join.
  Walks: cluster.All's iterator.
  Walks: cluster.All's iterator has its contract.
-/
import Derived.Test.YtcgjanjllfcnoaaGreatDoorGfR
import Derived.Test.YtcgjanjllfcnoaaGreatDoorGfA
import Derived.Test.YtcgjanjllfcnoaaGreatDoorGfW
import Derived.WalkSmall
import Derived.Outline
import Derived.IntWalk
namespace Go.Proofs.YtcgjanjllfcnoaaGreatDoor
open Go.RowKit Go.Shelf
set_option linter.unusedVariables false

/-- how many are not listed yet -/
def openN (l : Array Bool) : Nat := (l.toList.filter fun b => !b).length
theorem openN_set {l : Array Bool} {i : Nat} (h : l.getD i true = false) : openN (l.setIfInBounds i true) + 1 = openN l := by
  obtain ⟨l⟩ := l
  unfold openN
  have hi : i < l.length := by
    rcases Nat.lt_or_ge i l.length with h' | h'
    · exact h'
    · simp [h'] at h
  have hv : l[i] = false := by simpa [hi] using h
  simp only [List.setIfInBounds_toArray]
  clear h
  induction l generalizing i with
  | nil => simp at hi
  | cons b l ih =>
    cases i with
    | zero => simp at hv; subst hv; simp
    | succ i =>
      simp at hv hi
      have := ih (by simpa using hi) hv
      cases b <;> simp_all
theorem openN_zero {l : Array Bool} (h : openN l = 0) (i : Nat) : l.getD i true = true := by
  obtain ⟨l⟩ := l
  unfold openN at h
  rw [List.length_eq_zero_iff, List.filter_eq_nil_iff] at h
  rcases Nat.lt_or_ge i l.length with h' | h'
  · have := h _ (List.getElem_mem h')
    simpa [h'] using this
  · simp [h']

theorem wpAnyIn_inv {F : Fence} {n : Nat} {P : Program} {md : Region.Mode} {ops : Array Oper} {Q : Exit → Act → World → Prop} (Inv : Array Bool → Act → World → Prop)
    (hdone : ∀ listed a w, Region.ready md ops listed = [] → Inv listed a w → Q .normal a w)
    (hstep : ∀ i listed a w, Inv listed a w → i ∈ Region.ready md ops listed → wpOpIn F n P ops Q i (fun a' w' => Inv (listed.setIfInBounds i true) a' w') a w) :
    ∀ fuel listed a w, openN listed ≤ fuel → Inv listed a w → wpAnyIn F n P md ops Q fuel listed a w := by
  intro fuel
  induction fuel with
  | zero =>
    intro listed a w hle h
    have hr : Region.ready md ops listed = [] := by
      rw [List.eq_nil_iff_forall_not_mem]
      intro j hj
      have := (mem_ready.1 hj).1
      rw [openN_zero (by omega)] at this
      cases this
    exact ⟨hr, hdone _ _ _ hr h⟩
  | succ fuel ih =>
    intro listed a w hle h
    refine ⟨fun hr => hdone _ _ _ hr h, fun i hi => ?_⟩
    refine wpOpIn_mono (fun a' w' h' => ih _ _ _ ?_ h') (hstep i listed a w h hi)
    have := openN_set (mem_ready.1 hi).1
    omega

theorem OR.isCells {w : World} {base n c : Nat} {e : TypeId} {A : Option Addr} {xs : List Value} (h : OR w base e A n c xs) : ∀ (j : Nat) (o : Obj), blk A = some j → w.heap[j]? = some o → o.isCells = true := by
  intro j o hj ho
  obtain ⟨hl, ⟨hv, hn⟩ | ⟨g, cap, cur, hv, h1, h2, h3⟩⟩ := h.1
  · injection hv with hA; subst hA; cases hj
  · injection hv with hA; subst hA
    have : g = j := by simpa [blk] using hj
    subst this
    rw [h2] at ho
    cases ho
    rfl

/-- What lies in memory while two slices are appended to: the four boxes and the two rows. -/
structure WS (h : Nat) (W w : World) (most : Int) (s : ByteArray) (A1 : Option Addr) (n1 c1 : Nat) (xs : List Value) (A2 : Option Addr) (n2 c2 : Nat) (ys : List Value) (vl va : Value) : Prop where
  below : Below h W w
  keeps : KeepsOthers W w
  bm : Boxed w h 3 (.int .i64 most)
  bl : Boxed w (h + 1) 93 vl
  ba : Boxed w (h + 1 + 1) 94 va
  bs : Boxed w (h + 1 + 1 + 1) 9 (.string s)
  r1 : OR w (h + 4) 21 A1 n1 c1 xs
  r2 : OR w (h + 4) 3 A2 n2 c2 ys
  sz : h + 4 ≤ w.heap.size
namespace WS
variable {h : Nat} {W w w' : World} {most : Int} {s : ByteArray} {A1 A2 A' : Option Addr} {n1 c1 n2 c2 n' c' : Nat} {xs ys xs' : List Value} {vl va : Value}
theorem alloc (k : WS h W w most s A1 n1 c1 xs A2 n2 c2 ys vl va) (o : Obj) : WS h W (w.alloc o) most s A1 n1 c1 xs A2 n2 c2 ys vl va :=
  ⟨k.below.alloc (by have := k.sz; omega) o, k.keeps.trans (KeepsOthers.alloc _ _), k.bm.alloc o, k.bl.alloc o, k.ba.alloc o, k.bs.alloc o, k.r1.alloc o, k.r2.alloc o, by have := k.sz; simp; omega⟩
theorem ne_row {B : Nat} {e : TypeId} (r : OR w (h + 4) e A' n' c' xs') (hB : B < h + 4) : some B ≠ blk A' := by
  intro e'
  have := (r.blk_lt B e'.symm).1
  omega
theorem app1 (k : WS h W w most s A1 n1 c1 xs A2 n2 c2 ys vl va) (hg : w.grownBy w' (blk A1)) (r : OR w' (h + 4) 21 A' n' c' xs') : WS h W w' most s A' n' c' xs' A2 n2 c2 ys vl va :=
  ⟨k.below.grown hg (by have := k.sz; omega) (fun j hj => by have := (k.r1.blk_lt j hj).1; omega), k.keeps.trans (KeepsOthers.of_grownBy hg k.r1.isCells),
   k.bm.kept hg (ne_row k.r1 (by omega)), k.bl.kept hg (ne_row k.r1 (by omega)), k.ba.kept hg (ne_row k.r1 (by omega)), k.bs.kept hg (ne_row k.r1 (by omega)), r, k.r2.kept hg (k.r2.apart k.r1 (by decide)), by have := k.sz; have := hg.size; omega⟩
theorem app2 (k : WS h W w most s A1 n1 c1 xs A2 n2 c2 ys vl va) (hg : w.grownBy w' (blk A2)) (r : OR w' (h + 4) 3 A' n' c' xs') : WS h W w' most s A1 n1 c1 xs A' n' c' xs' vl va :=
  ⟨k.below.grown hg (by have := k.sz; omega) (fun j hj => by have := (k.r2.blk_lt j hj).1; omega), k.keeps.trans (KeepsOthers.of_grownBy hg k.r2.isCells),
   k.bm.kept hg (ne_row k.r2 (by omega)), k.bl.kept hg (ne_row k.r2 (by omega)), k.ba.kept hg (ne_row k.r2 (by omega)), k.bs.kept hg (ne_row k.r2 (by omega)), k.r1.kept hg (k.r1.apart k.r2 (by decide)), r, by have := k.sz; have := hg.size; omega⟩
theorem row_ne {B : Nat} {e : TypeId} (r : OR w (h + 4) e A' n' c' xs') (hB : B < h + 4) : blk A' = none ∨ blk A' ≠ some B := .inr fun e' => by
  have := (r.blk_lt B e').1
  omega
theorem set1 (k : WS h W w most s A1 n1 c1 xs A2 n2 c2 ys vl va) (v : Value) : WS h W (w.setCell ⟨h + 1, 0, none⟩ v) most s A1 n1 c1 xs A2 n2 c2 ys v va :=
  ⟨k.below.setCell (p := ⟨h + 1, 0, none⟩) (by show h ≤ h + 1; omega) v, k.keeps.trans (KeepsOthers.setCell _ _ _), k.bm.other (by omega) v, k.bl.set v, k.ba.other (by omega) v, k.bs.other (by omega) v,
   k.r1.kept (grownBy_setCell' _ _ _) (row_ne k.r1 (by omega)), k.r2.kept (grownBy_setCell' _ _ _) (row_ne k.r2 (by omega)), by have := k.sz; have := (grownBy_setCell' w (h + 1) v).size; omega⟩
theorem set2 (k : WS h W w most s A1 n1 c1 xs A2 n2 c2 ys vl va) (v : Value) : WS h W (w.setCell ⟨h + 1 + 1, 0, none⟩ v) most s A1 n1 c1 xs A2 n2 c2 ys vl v :=
  ⟨k.below.setCell (p := ⟨h + 1 + 1, 0, none⟩) (by show h ≤ h + 1 + 1; omega) v, k.keeps.trans (KeepsOthers.setCell _ _ _), k.bm.other (by omega) v, k.bl.other (by omega) v, k.ba.set v, k.bs.other (by omega) v,
   k.r1.kept (grownBy_setCell' _ _ _) (row_ne k.r1 (by omega)), k.r2.kept (grownBy_setCell' _ _ _) (row_ne k.r2 (by omega)), by have := k.sz; have := (grownBy_setCell' w (h + 1 + 1) v).size; omega⟩
end WS

theorem listed_of {md : Region.Mode} {ops : Array Oper} {listed : Array Bool} (hr : Region.ready md ops listed = []) {j : Nat} {o : Oper} (ho : ops[j]? = some o)
    (hd : ∀ e ∈ o.after, Region.binds md e = true → listed.getD e.on false = true) : listed.getD j true = true := by
  cases hj : listed.getD j true with
  | true => rfl
  | false =>
    have := mem_ready.2 ⟨hj, o, ho, hd⟩
    rw [hr] at this
    cases this
theorem nb {a b : Bool} (h : a = true → b = true) (hb : b = false) : a = false := by
  cases a
  · rfl
  · have := h rfl
    rw [hb] at this
    cases this
/-- An append inside a region that draws its order, inside a round. -/
theorem stepIn_app {F : Fence} {N : Nat} {ops : Array Oper} {o : Oper} {a : Act} {w : World} {K : Act → World → Prop} {Q : Exit → Act → World → Prop} {E : Prop} (T : TypeId) (hgd : o.guard = none) (s x : Operand)
    (ho : o.op = .call { callee := .builtin .append, args := #[s, x], argTypes := #[T, T] }) (vs vx v' : Value) (w' : World) (hs : a.eval s = vs) (hx : a.eval x = vx)
    (hrun : (Builtin.append_ #[T, T] o.type #[vs, vx]).run Tryz.prog w = .ok v' w') (h : K (a.put o.dst v') w') :
    if Region.wanted o (yielded ops a.tmps) = true then Oper.wpIn F N Tryz.prog o a w K Q else E := by
  have hw : Region.wanted o (yielded ops a.tmps) = true := by simp [Region.wanted, hgd]
  rw [if_pos hw]
  unfold Oper.wpIn
  refine ⟨?_, ?_⟩
  · simp [Oper.about, ho, resolve, Target.leads, Sem.run_pure]
  · rw [Oper.semAt_plain F _ _ (by rw [ho]; intro c hc'; cases hc')]
    simp [execOp, ho, resolve, invoke, builtin, hs, hx, hrun, Result.andThen]
    exact h
theorem Boxed.sl1 {w : World} {g : Nat} {t : TypeId} {v : Value} (h : Boxed w g t v) : Sl w w.heap.size (some ⟨g, 0, none⟩) [v] := by
  refine .inr ⟨g, 0, rfl, h.lt, fun j u hu => ?_⟩
  cases j with
  | zero => simp at hu; subst hu; exact h.cell
  | succ j => simp at hu

/-- The ten operations of 'l, at = append(l, r), append(at, i)', as far as they have come up (b0 .. b9). -/
structure InvB (h : Nat) (W : World) (most : Int) (s : ByteArray) (A1 : Option Addr) (n1 c1 : Nat) (xs : List Value) (A2 : Option Addr) (n2 c2 : Nat) (ys : List Value) (x y : Int)
    (b0 b1 b2 b3 b4 b5 b6 b7 b8 b9 : Bool) (u22 u23 u24 u25 u26 u27 u28 u29 : Value) (w : World) : Prop where
  s0 : b0 = true → u22 = .slice A1 n1 c1
  s1 : b1 = true → u23 = .int .i32 x
  s2 : b2 = true → b3 = false → ∃ g, u24 = .slice (some ⟨g, 0, none⟩) 1 1 ∧ Boxed w g 21 (.int .i32 x)
  s4 : b4 = true → u26 = .slice A2 n2 c2
  s5 : b5 = true → u27 = .int .i64 y
  s6 : b6 = true → b7 = false → ∃ g, u28 = .slice (some ⟨g, 0, none⟩) 1 1 ∧ Boxed w g 3 (.int .i64 y)
  q2 : b2 = true → b1 = true
  q6 : b6 = true → b5 = true
  q3 : b3 = true → b0 = true ∧ b2 = true
  q7 : b7 = true → b3 = true ∧ b4 = true ∧ b6 = true
  q8 : b8 = true → b7 = true
  q9 : b9 = true → b8 = true
  ws : ∃ A3 n3 c3 xs3 A4 n4 c4 ys4 vl va, WS h W w most s A3 n3 c3 xs3 A4 n4 c4 ys4 vl va ∧
    (b3 = false → A3 = A1 ∧ n3 = n1 ∧ c3 = c1 ∧ xs3 = xs) ∧ (b3 = true → u25 = .slice A3 n3 c3 ∧ n3 = n1 + 1 ∧ xs3 = xs ++ [.int .i32 x]) ∧
    (b7 = false → A4 = A2 ∧ n4 = n2 ∧ c4 = c2 ∧ ys4 = ys) ∧ (b7 = true → u29 = .slice A4 n4 c4 ∧ n4 = n2 + 1 ∧ ys4 = ys ++ [.int .i64 y]) ∧
    (b8 = false → vl = .slice A1 n1 c1) ∧ (b8 = true → vl = u25) ∧ (b9 = false → va = .slice A2 n2 c2) ∧ (b9 = true → va = u29)
end Go.Proofs.YtcgjanjllfcnoaaGreatDoor

namespace Go.Proofs.YtcgjanjllfcnoaaGreatDoor
set_option linter.unusedVariables false

/-! ### Runes of a text -/
def rs (l : List UInt8) : List Int := (rnsOf l).map (·.2)
def e4 (r : Int) : List UInt8 := enc (rfix r)
def eb (c : List Int) : List UInt8 := c.flatMap e4
theorem eb_nil : eb [] = [] := rfl
theorem eb_cons (r : Int) (c : List Int) : eb (r :: c) = e4 r ++ eb c := by simp [eb]
theorem eb_append (c d : List Int) : eb (c ++ d) = eb c ++ eb d := by simp [eb]
theorem eb_snoc (c : List Int) (r : Int) : eb (c ++ [r]) = eb c ++ e4 r := by simp [eb]
theorem eb_flatten (cs : List (List Int)) : eb cs.flatten = (cs.map eb).flatten := by
  induction cs with
  | nil => rfl
  | cons c cs ih => simp [eb_append, ih]
theorem e4_le (r : Int) : (e4 r).length ≤ 4 ∧ 1 ≤ (e4 r).length := enc_le _
theorem eb_pos {c : List Int} (h : c ≠ []) : 0 < (eb c).length := by
  cases c with
  | nil => exact absurd rfl h
  | cons r c => rw [eb_cons, List.length_append]; have := e4_le r; omega

theorem isR_65533 : isR 65533 := by decide
theorem num_isR {c : UInt8} {t : List UInt8} (h : beg (c :: t) = true) (hl : hsz c.toNat = (t.length : Int) + 1) : isR (num (c :: t)) := by
  unfold beg at h
  simp only at h
  rw [hl] at h
  have e : ((t.length : Int) + 1 - ((t.length : Int) + 1)).toNat = 0 := by omega
  rw [e] at h
  simp only [List.replicate_zero, List.append_nil] at h
  simp at h
  have hf : 0 ≤ fromOf ((t.length : Int) + 1) := by unfold fromOf; (repeat' split) <;> omega
  unfold isR
  omega
theorem take_cons2 (c : UInt8) (t : List UInt8) (s : Nat) (h : 0 < s) : (c :: t).take s = c :: t.take (s - 1) := by
  obtain ⟨s, rfl⟩ : ∃ m, s = m + 1 := ⟨s - 1, by omega⟩
  rfl
theorem rnx_isR (l : List UInt8) (h : (rnx l).2.2 = false) : isR (rnx l).1 := by
  rcases l with _ | ⟨c, t⟩
  · simp [rnx] at h
  · rcases hsz_cases c.toNat with ⟨hs, hc⟩ | ⟨hs, hc⟩ | ⟨hs, hc⟩ | ⟨hs, hc⟩ | ⟨hs, hc⟩
    · simp [rnx, hs]; exact isR_65533
    all_goals
      by_cases hl : hsz c.toNat ≤ (t.length : Int) + 1
      · rw [rnx_full (by omega) hl] at h ⊢
        split
        · next hb =>
          simp only
          rw [take_cons2 _ _ _ (by omega)] at hb ⊢
          refine num_isR hb ?_
          rw [List.length_take]
          omega
        · exact isR_65533
      · rw [rnx_part (by omega) (by omega)] at h ⊢
        split
        · next hb => rw [if_pos hb] at h; simp at h
        · exact isR_65533
theorem nx_isR (l : List UInt8) (h : (nx l).2.2 = false) : isR (nx l).1 := by
  rw [same_nx] at h ⊢
  exact rnx_isR l h
theorem stp_isR (l : List UInt8) : isR (stp l).1 := by
  unfold stp
  split
  · exact isR_65533
  · next h => exact nx_isR l (by simpa using h)
theorem rns_isR : ∀ (f a : Nat) (l : List UInt8), ∀ x ∈ rns f a l, isR x.2 := by
  intro f
  induction f with
  | zero => intro a l x hx; simp [rns] at hx
  | succ f ih =>
    intro a l x hx
    rw [rns] at hx
    split at hx
    · simp at hx
    · rcases List.mem_cons.1 hx with rfl | hx
      · exact stp_isR l
      · exact ih _ _ _ hx
theorem rs_isR (l : List UInt8) : ∀ r ∈ rs l, isR r := by
  intro r hr
  obtain ⟨x, hx, rfl⟩ := List.mem_map.1 hr
  exact rns_isR _ _ _ x hx
theorem rfix_of {r : Int} (h : isR r) : rfix r = r := if_pos h
theorem stp_e4 {r : Int} (h : isR r) (l : List UInt8) : stp (e4 r ++ l) = (r, (e4 r).length) := by
  unfold stp e4
  rw [rfix_of h, nx_enc _ h]
  simp
theorem rns_eb (xs : List Int) : ∀ f a, (∀ r ∈ xs, isR r) → (eb xs).length ≤ f → (rns f a (eb xs)).map (·.2) = xs := by
  induction xs with
  | nil => intro f a _ _; rw [eb_nil, rns_nil]; rfl
  | cons x xs ih =>
    intro f a hx h
    have he := e4_le x
    rw [eb_cons] at h ⊢
    rw [List.length_append] at h
    obtain ⟨f, rfl⟩ : ∃ m, f = m + 1 := ⟨f - 1, by omega⟩
    rw [rns, if_neg (by intro e; have h1 := (List.append_eq_nil_iff.1 e).1; rw [h1] at he; simp at he), stp_e4 (hx x (by simp)), List.map_cons, List.drop_left]
    simp only
    rw [ih f _ (fun r hr => hx r (by simp [hr])) (by omega)]
/-- What is encoded decodes. -/
theorem rs_eb {xs : List Int} (h : ∀ r ∈ xs, isR r) : rs (eb xs) = xs := rns_eb xs _ _ h (Nat.le_refl _)

/-! ### Kinds of runes -/
def isB (r : Int) : Prop := ctB r = false ∧ mkB r = false
def isM (r : Int) : Prop := ctB r = false ∧ mkB r = true
theorem rnB_of {r : Int} (h : isR r) : rnB r = true := by
  unfold rnB; unfold isR at h; simp; omega
theorem isR_of_rnB {r : Int} (h : rnB r = true) : isR r := by
  unfold rnB at h; unfold isR; simp at h; omega
theorem ofI_ct {r : Int} (h : ctB r = true) : ofI r = 0 := by unfold ofI; rw [if_pos (by simp [h])]
theorem ofI_mk {r : Int} (h : mkB r = true) : ofI r = 0 := by unfold ofI; rw [if_pos (by simp [h])]
theorem ofI_base {r : Int} (hr : isR r) (h : isB r) : 1 ≤ ofI r ∧ ofI r ≤ 2 := by
  unfold ofI
  rw [if_neg (by simp [rnB_of hr, h.1, h.2])]
  split <;> omega
theorem ofI_pos {r : Int} (h : 0 < ofI r) : isR r ∧ isB r := by
  unfold ofI at h
  split at h
  · omega
  · next hn =>
    simp at hn
    exact ⟨isR_of_rnB hn.1.1, hn.1.2, hn.2⟩
theorem mk_bounds : ∀ x ∈ mkT, 159 < x.1 ∧ x.2 ≤ 1114111 ∧ (x.2 < 55296 ∨ 57343 < x.1) := by decide +kernel
theorem mk_isR {r : Int} (h : mkB r = true) : isR r ∧ isM r := by
  have h' := h
  unfold mkB inT at h
  rw [List.any_eq_true] at h
  obtain ⟨x, hx, hr⟩ := h
  have := mk_bounds x hx
  simp at hr
  refine ⟨by unfold isR; omega, ?_, h'⟩
  unfold ctB
  simp
  omega

/-! ### Clusters -/
def jn (o : List Int) (r : Int) : List Int := if o = [] ∨ 64 < (eb o).length + (e4 r).length then o else o ++ [r]
def st2 (q : List (List Int) × List Int) (r : Int) : List (List Int) × List Int :=
  if ctB r = true then q else if mkB r = true then (q.1, jn q.2 r) else (if q.2 = [] then q.1 else q.1 ++ [q.2], [r])
def fin (q : List (List Int) × List Int) : List (List Int) := if q.2 = [] then q.1 else q.1 ++ [q.2]
def run (xs : List Int) : List (List Int) × List Int := xs.foldl st2 ([], [])
def cls (xs : List Int) : List (List Int) := fin (run xs)
theorem run_snoc (xs : List Int) (r : Int) : run (xs ++ [r]) = st2 (run xs) r := by simp [run]
theorem st2_ct {q : List (List Int) × List Int} {r : Int} (h : ctB r = true) : st2 q r = q := by unfold st2; rw [if_pos h]
theorem st2_mk {q : List (List Int) × List Int} {r : Int} (h0 : ctB r = false) (h : mkB r = true) : st2 q r = (q.1, jn q.2 r) := by
  unfold st2; rw [if_neg (by simp [h0]), if_pos h]
theorem st2_base {q : List (List Int) × List Int} {r : Int} (h : isB r) : st2 q r = (fin q, [r]) := by
  unfold st2 fin; rw [if_neg (by simp [h.1]), if_neg (by simp [h.2])]
theorem kinds (r : Int) : ctB r = true ∨ isM r ∨ isB r := by
  unfold isM isB
  cases ctB r <;> cases mkB r <;> simp

def wc (c : List Int) : Int := ofI (c.headD 0)
def sumC (cs : List (List Int)) : Int := (cs.map wc).sum
theorem wc_nil : wc [] = 0 := by decide +kernel
theorem wc_jn (o : List Int) (r : Int) : wc (jn o r) = wc o := by
  unfold jn
  split
  · rfl
  · next h =>
    cases o with
    | nil => simp at h
    | cons x o => rfl
theorem wc_01 (c : List Int) : 0 ≤ wc c ∧ wc c ≤ 2 := ofI_01 _
theorem sumC_snoc (cs : List (List Int)) (c : List Int) : sumC (cs ++ [c]) = sumC cs + wc c := by simp [sumC]
theorem sumC_cons (c : List Int) (cs : List (List Int)) : sumC (c :: cs) = wc c + sumC cs := by simp [sumC]
theorem sumC_bd (cs : List (List Int)) : 0 ≤ sumC cs ∧ sumC cs ≤ 2 * cs.length := by
  induction cs with
  | nil => simp [sumC]
  | cons c cs ih =>
    have := wc_01 c
    rw [sumC_cons]
    simp only [List.length_cons]
    omega
theorem sumC_fin (q : List (List Int) × List Int) : sumC (fin q) = sumC q.1 + wc q.2 := by
  unfold fin
  split
  · next h => rw [h, wc_nil]; omega
  · rw [sumC_snoc]

/-- what holds on the way: the runes are those that came, no cluster is empty, a cluster is done only if one is open -/
structure Ok (q : List (List Int) × List Int) : Prop where
  opn : q.2 = [] → q.1 = []
  wf : ∀ c ∈ fin q, ∃ b ms, c = b :: ms ∧ isB b ∧ (∀ m ∈ ms, isM m) ∧ (eb c).length ≤ 64 ∧ ∀ r ∈ c, isR r
def wf (c : List Int) : Prop := ∃ b ms, c = b :: ms ∧ isB b ∧ (∀ m ∈ ms, isM m) ∧ (eb c).length ≤ 64 ∧ ∀ r ∈ c, isR r
theorem jn_nil (r : Int) : jn [] r = [] := by simp [jn]
theorem jn_ne {o : List Int} (h : o ≠ []) (r : Int) : jn o r ≠ [] := by
  unfold jn
  split
  · exact h
  · simp
theorem wf_jn {o : List Int} {r : Int} (h : wf o) (hr : isR r) (hm : isM r) : wf (jn o r) := by
  obtain ⟨b, ms, rfl, hb, hms, hl, hR⟩ := h
  unfold jn
  split
  · exact ⟨b, ms, rfl, hb, hms, hl, hR⟩
  · next hn =>
    refine ⟨b, ms ++ [r], rfl, hb, ?_, ?_, ?_⟩
    · intro m hm'
      rcases List.mem_append.1 hm' with h | h
      · exact hms m h
      · simp at h; subst h; exact hm
    · rw [eb_snoc, List.length_append]; simp at hn; omega
    · intro x hx
      rcases List.mem_append.1 hx with h | h
      · exact hR x h
      · simp at h; subst h; exact hr
theorem wf_one {r : Int} (hr : isR r) (hb : isB r) : wf [r] :=
  ⟨r, [], rfl, hb, by simp, by have := e4_le r; simp [eb]; omega, by intro x hx; simp at hx; subst hx; exact hr⟩
theorem wf_ne {c : List Int} (h : wf c) : c ≠ [] := by obtain ⟨b, ms, rfl, _⟩ := h; simp
theorem ok_nil : Ok ([], []) := ⟨fun _ => rfl, by simp [fin]⟩
theorem ok_step {q : List (List Int) × List Int} {r : Int} (h : Ok q) (hr : isR r) : Ok (st2 q r) := by
  rcases kinds r with hc | hm | hb
  · rw [st2_ct hc]; exact h
  · rw [st2_mk hm.1 hm.2]
    by_cases ho : q.2 = []
    · have e : (q.1, jn q.2 r) = q := by rw [ho, jn_nil]; rw [← ho]
      rw [e]; exact h
    · have hw : wf q.2 := h.wf _ (by unfold fin; rw [if_neg ho]; simp)
      have hj := jn_ne ho r
      refine ⟨fun e => absurd e hj, fun c hc => ?_⟩
      unfold fin at hc
      rw [if_neg hj] at hc
      rcases List.mem_append.1 hc with h1 | h1
      · exact h.wf c (by unfold fin; rw [if_neg ho]; simp [h1])
      · simp at h1; subst h1; exact wf_jn hw hr hm
  · rw [st2_base hb]
    refine ⟨fun e => by simp at e, fun c hc => ?_⟩
    unfold fin at hc
    rw [if_neg (by simp)] at hc
    rcases List.mem_append.1 hc with h1 | h1
    · exact h.wf c h1
    · simp at h1; subst h1; exact wf_one hr hb
theorem ok_fold (xs : List Int) : ∀ q, Ok q → (∀ r ∈ xs, isR r) → Ok (xs.foldl st2 q) := by
  induction xs with
  | nil => intro q h _; exact h
  | cons x xs ih => intro q h hx; exact ih _ (ok_step h (hx x (by simp))) (fun r hr => hx r (by simp [hr]))
theorem ok_run {xs : List Int} (h : ∀ r ∈ xs, isR r) : Ok (run xs) := ok_fold xs _ ok_nil h
theorem cls_wf {xs : List Int} (h : ∀ r ∈ xs, isR r) : ∀ c ∈ cls xs, wf c := (ok_run h).wf

theorem fold_marks (ms : List Int) : ∀ (y : List (List Int)) (o : List Int), o ≠ [] → (∀ m ∈ ms, isM m) → (eb (o ++ ms)).length ≤ 64 → ms.foldl st2 (y, o) = (y, o ++ ms) := by
  induction ms with
  | nil => intro y o _ _ _; simp
  | cons m ms ih =>
    intro y o ho hm hl
    have h1 := hm m (by simp)
    have h2 : (eb o).length + (e4 m).length ≤ 64 := by
      rw [eb_append, eb_cons] at hl
      simp at hl
      omega
    have e : st2 (y, o) m = (y, o ++ [m]) := by
      rw [st2_mk h1.1 h1.2]
      unfold jn
      rw [if_neg (by simp [ho]; omega)]
    rw [List.foldl_cons, e, ih y (o ++ [m]) (by simp) (fun x hx => hm x (by simp [hx])) (by simpa using hl)]
    simp
theorem fold_wf {c : List Int} (h : wf c) (q : List (List Int) × List Int) : c.foldl st2 q = (fin q, c) := by
  obtain ⟨b, ms, rfl, hb, hms, hl, _⟩ := h
  rw [List.foldl_cons, st2_base hb, fold_marks ms _ _ (by simp) hms (by simpa using hl)]
  rfl
theorem fin_wf {c : List Int} (h : wf c) (y : List (List Int)) : fin (y, c) = y ++ [c] := by unfold fin; rw [if_neg (wf_ne h)]
theorem fold_flat (cs : List (List Int)) : ∀ q, (∀ c ∈ cs, wf c) → fin (cs.flatten.foldl st2 q) = fin q ++ cs := by
  induction cs with
  | nil => intro q _; simp
  | cons c cs ih =>
    intro q h
    have hc := h c (by simp)
    rw [List.flatten_cons, List.foldl_append, fold_wf hc, ih _ (fun d hd => h d (by simp [hd])), fin_wf hc]
    simp
/-- What consists of clusters has just these. -/
theorem cls_flat {cs : List (List Int)} (h : ∀ c ∈ cs, wf c) : cls cs.flatten = cs := by
  have := fold_flat cs ([], []) h
  have e : fin (([], []) : List (List Int) × List Int) = [] := rfl
  rw [e, List.nil_append] at this
  exact this
theorem cls_one {c : List Int} (h : wf c) : cls c = [c] := by
  have := cls_flat (cs := [c]) (by intro d hd; simp at hd; subst hd; exact h)
  simpa using this
theorem flat_isR {cs : List (List Int)} (h : ∀ c ∈ cs, wf c) : ∀ r ∈ cs.flatten, isR r := by
  intro r hr
  obtain ⟨c, hc, hrc⟩ := List.mem_flatten.1 hr
  obtain ⟨b, ms, _, _, _, _, hR⟩ := h c hc
  exact hR r hrc
theorem rs_wf {c : List Int} (h : wf c) : rs (eb c) = c := by
  obtain ⟨b, ms, _, _, _, _, hR⟩ := h
  exact rs_eb hR

/-! ### Columns -/
theorem cols_step (q : List (List Int) × List Int) (r : Int) : sumC (st2 q r).1 + wc (st2 q r).2 = sumC q.1 + wc q.2 + ofI r := by
  rcases kinds r with hc | hm | hb
  · rw [st2_ct hc, ofI_ct hc]; omega
  · rw [st2_mk hm.1 hm.2, ofI_mk hm.2]
    show sumC q.1 + wc (jn q.2 r) = _
    rw [wc_jn]; omega
  · rw [st2_base hb]
    show sumC (fin q) + wc [r] = _
    rw [sumC_fin]; rfl
theorem cols_fold (xs : List Int) : ∀ q, sumC (xs.foldl st2 q).1 + wc (xs.foldl st2 q).2 = sumC q.1 + wc q.2 + (xs.map ofI).sum := by
  induction xs with
  | nil => intro q; simp
  | cons x xs ih =>
    intro q
    rw [List.foldl_cons, ih, cols_step]
    simp only [List.map_cons, List.sum_cons]
    omega
/-- The columns of all clusters are those of all runes. -/
theorem cols_all (xs : List Int) : sumC (cls xs) = (xs.map ofI).sum := by
  unfold cls
  rw [sumC_fin]
  have := cols_fold xs ([], [])
  unfold run
  rw [this]
  simp [sumC, wc_nil]

/-- the columns of the first rune that has some -/
def fw : List Int → Int
  | [] => 0
  | r :: xs => if 0 < ofI r then ofI r else fw xs
theorem fw_append (xs ys : List Int) (h : ∀ r ∈ xs, ¬ 0 < ofI r) : fw (xs ++ ys) = fw ys := by
  induction xs with
  | nil => rfl
  | cons x xs ih => simp only [List.cons_append, fw]; rw [if_neg (h x (by simp)), ih (fun r hr => h r (by simp [hr]))]
theorem fw_none (xs : List Int) (h : ∀ r ∈ xs, ¬ 0 < ofI r) : fw xs = 0 := by
  have := fw_append xs [] h
  simpa [fw] using this
theorem fw_wf {c : List Int} (h : wf c) : fw c = wc c := by
  obtain ⟨b, ms, rfl, hb, _, _, hR⟩ := h
  have := ofI_base (hR b (by simp)) hb
  simp only [fw, wc, List.headD_cons]
  rw [if_pos (by omega)]
def hd (q : List (List Int) × List Int) : Int := wc ((fin q).headD [])
theorem hd_step {q : List (List Int) × List Int} {r : Int} (ho : q.2 ≠ []) : (st2 q r).2 ≠ [] ∧ hd (st2 q r) = hd q := by
  rcases kinds r with hc | hm | hb
  · rw [st2_ct hc]; exact ⟨ho, rfl⟩
  · rw [st2_mk hm.1 hm.2]
    have hj := jn_ne ho r
    refine ⟨hj, ?_⟩
    unfold hd fin
    rw [if_neg hj, if_neg ho]
    cases h1 : q.1 with
    | nil => simp only [List.nil_append, List.headD_cons]; exact wc_jn _ _
    | cons a l => simp
  · rw [st2_base hb]
    refine ⟨by simp, ?_⟩
    unfold hd
    have e : fin (fin q, [r]) = fin q ++ [[r]] := by simp [fin]
    rw [e]
    have hne : fin q ≠ [] := by unfold fin; rw [if_neg ho]; simp
    cases h1 : fin q with
    | nil => exact absurd h1 hne
    | cons a l => simp
theorem hd_fold (xs : List Int) : ∀ q, q.2 ≠ [] → hd (xs.foldl st2 q) = hd q := by
  induction xs with
  | nil => intro q _; rfl
  | cons x xs ih => intro q ho; have := hd_step (r := x) ho; rw [List.foldl_cons, ih _ this.1, this.2]
theorem fw_fold (xs : List Int) (hR : ∀ r ∈ xs, isR r) : hd (xs.foldl st2 ([], [])) = fw xs := by
  induction xs with
  | nil => simp [hd, fin, fw]; exact wc_nil
  | cons x xs ih =>
    rw [List.foldl_cons]
    simp only [fw]
    rcases kinds x with hc | hm | hb
    · rw [st2_ct hc, if_neg (by rw [ofI_ct hc]; omega)]; exact ih fun r hr => hR r (by simp [hr])
    · rw [st2_mk hm.1 hm.2, if_neg (by rw [ofI_mk hm.2]; omega), jn_nil]; exact ih fun r hr => hR r (by simp [hr])
    · have := ofI_base (hR x (by simp)) hb
      rw [st2_base hb, if_pos (by omega), hd_fold _ _ (by simp)]
      simp [hd, fin, wc]
/-- The first rune with columns tells the columns of the first cluster. -/
theorem fw_cls {xs : List Int} (h : ∀ r ∈ xs, isR r) : wc ((cls xs).headD []) = fw xs := fw_fold xs h

theorem st2_len {q : List (List Int) × List Int} (r : Int) (h : (eb q.2).length ≤ 64) : (eb (st2 q r).2).length ≤ 64 := by
  rcases kinds r with hc | hm | hb
  · rw [st2_ct hc]; exact h
  · rw [st2_mk hm.1 hm.2]
    show (eb (jn q.2 r)).length ≤ 64
    unfold jn
    split
    · exact h
    · next hn => rw [eb_snoc, List.length_append]; simp at hn; omega
  · rw [st2_base hb]
    have := e4_le r
    simp [eb]; omega
theorem run_len (xs : List Int) : (eb (run xs).2).length ≤ 64 := by
  suffices h : ∀ (xs : List Int) (q : List (List Int) × List Int), (eb q.2).length ≤ 64 → (eb (xs.foldl st2 q).2).length ≤ 64 from h xs ([], []) (by simp [eb])
  intro xs
  induction xs with
  | nil => intro q h; exact h
  | cons x xs ih => intro q h; exact ih _ (st2_len x h)

/-! ### What an iterator tells -/
def prs : Int → List (List Int) → List (Int × List UInt8)
  | _, [] => []
  | a, c :: cs => (a, eb c) :: prs (a + wc c) cs
theorem prs_snoc (cs : List (List Int)) (c : List Int) : ∀ a, prs a (cs ++ [c]) = prs a cs ++ [(a + sumC cs, eb c)] := by
  induction cs with
  | nil => intro a; simp [prs, sumC]
  | cons d cs ih =>
    intro a
    simp only [List.cons_append, prs]
    rw [ih, sumC_cons]
    simp only [Int.add_assoc]
theorem prs_append (cs ds : List (List Int)) : ∀ a, prs a (cs ++ ds) = prs a cs ++ prs (a + sumC cs) ds := by
  induction cs with
  | nil => intro a; simp [prs, sumC]
  | cons d cs ih =>
    intro a
    simp only [List.cons_append, prs]
    rw [ih, sumC_cons, Int.add_assoc]
theorem prs_length (cs : List (List Int)) : ∀ a, (prs a cs).length = cs.length := by
  induction cs with
  | nil => intro a; rfl
  | cons d cs ih => intro a; simp [prs, ih]
theorem prs_take (cs : List (List Int)) (k : Nat) : ∀ a, (prs a cs).take k = prs a (cs.take k) := by
  induction cs generalizing k with
  | nil => intro a; simp [prs]
  | cons d cs ih =>
    intro a
    cases k with
    | zero => simp [prs]
    | succ k => simp [prs, ih]
theorem prs_map (cs : List (List Int)) : ∀ a, (prs a cs).map (·.2) = cs.map eb := by
  induction cs with
  | nil => intro a; rfl
  | cons d cs ih => intro a; simp [prs, ih]
theorem fold_ext (xs : List Int) : ∀ (y : List (List Int)) (o : List Int), ∃ z, (xs.foldl st2 (y, o)).1 = y ++ z := by
  induction xs with
  | nil => intro y o; exact ⟨[], by simp⟩
  | cons x xs ih =>
    intro y o
    rw [List.foldl_cons]
    have : ∃ z, (st2 (y, o) x).1 = y ++ z := by
      unfold st2
      split
      · exact ⟨[], by simp⟩
      · split
        · exact ⟨[], by simp⟩
        · simp only
          split
          · exact ⟨[], by simp⟩
          · exact ⟨[o], rfl⟩
    obtain ⟨z, hz⟩ := this
    obtain ⟨z2, hz2⟩ := ih (st2 (y, o) x).1 (st2 (y, o) x).2
    exact ⟨z ++ z2, by rw [hz2, hz, List.append_assoc]⟩
/-- What is told on the way is the beginning of what is told in all. -/
theorem told_pre {xs ys : List Int} (h : ys <+: xs) : (run ys).1 <+: cls xs := by
  obtain ⟨t, rfl⟩ := h
  have e : run (ys ++ t) = t.foldl st2 ((run ys).1, (run ys).2) := by unfold run; rw [List.foldl_append]
  obtain ⟨z, hz⟩ := fold_ext t (run ys).1 (run ys).2
  unfold cls fin
  rw [e]
  split
  · rw [hz]; exact List.prefix_append _ _
  · rw [hz, List.append_assoc]; exact List.prefix_append _ _
theorem run_count (xs : List Int) : (fin (run xs)).length ≤ xs.length := by
  suffices h : ∀ (xs : List Int) (q), (fin (xs.foldl st2 q)).length ≤ (fin q).length + xs.length by
    have h0 := h xs ([], [])
    have e : fin (([], []) : List (List Int) × List Int) = [] := rfl
    rw [e, List.length_nil, Nat.zero_add] at h0
    exact h0
  intro xs
  induction xs with
  | nil => intro q; simp
  | cons x xs ih =>
    intro q
    have h1 := ih (st2 q x)
    have h2 : (fin (st2 q x)).length ≤ (fin q).length + 1 := by
      rcases kinds x with hc | hm | hb
      · rw [st2_ct hc]; omega
      · rw [st2_mk hm.1 hm.2]
        by_cases ho : q.2 = []
        · have e : fin (q.1, jn q.2 x) = fin q := by unfold fin; rw [ho, jn_nil]; try simp
          rw [e]; omega
        · unfold fin; rw [if_neg (jn_ne ho x), if_neg ho]; simp
      · rw [st2_base hb]
        have e : fin (fin q, [x]) = fin q ++ [[x]] := by simp [fin]
        rw [e]; simp
    rw [List.foldl_cons, List.length_cons]
    omega
end Go.Proofs.YtcgjanjllfcnoaaGreatDoor

namespace Go.Proofs.YtcgjanjllfcnoaaGreatDoor
open Go.RowKit
set_option linter.unusedVariables false

theorem bv_eb_arr (l : List UInt8) : (bv l).toArray.toList = bv l := rfl

/-- What the boxed row does while a mark joins. -/
def JoinD (w : World) (base : Nat) (A : Option Addr) (k : List UInt8) (e : Ending) (w' : World) : Prop :=
  ∃ A' n' c', e = .returned (.slice A' n' c') ∧ OB w' base A' n' c' k ∧ w.grownBy w' (blk A) ∧ (∀ g, blk A' = some g → blk A = some g ∨ w.heap.size ≤ g)

theorem grown_alloc {w w' : World} {o : Obj} {row : Option Nat} (hg : (w.alloc o).grownBy w' row) : w.grownBy w' row :=
  ⟨hg.os, hg.tape, hg.output, by have := hg.size; simp at this; omega, fun k hk hr => (hg.block k (by simp; omega) hr).trans (Below.heap_alloc _ _ _ hk)⟩

end Go.Proofs.YtcgjanjllfcnoaaGreatDoor

namespace Go.Proofs.YtcgjanjllfcnoaaGreatDoor
open Go.RowKit Go.Shelf
attribute [local go_sem] Oper.semAt_some
set_option linter.unusedVariables false

def encC (x : Int × List UInt8) : Array Value := #[.int .i64 x.1, .string ⟨x.2.toArray⟩]

theorem YieldAt.deep {m : Nat} (m' : Nat) {P : Program} {l : Nat} {args : Array Value} {W : World} {R : Ending → World → Prop} (h : YieldAt Fence.wide m P l args W R) : YieldAt Fence.wide m' P l args W R := by
  obtain ⟨fn, tmps, assign, body, hy, hR⟩ := h
  exact ⟨fn, tmps, assign, body, hy, hR.1, fun c cs _ => hR.2 c cs (fun d h => by cases h)⟩
theorem RoundIn.inR {F : Fence} {m : Nat} {P : Program} {l : Nat} {f : FuncId} {tmps : Array Value} {assign body : Code} {w : World} {R : Ending → World → Prop} (l' : Nat) (h : RoundIn F m P l f tmps assign body w R) : RoundIn (F.inRound l') m P l f tmps assign body w R := h

/-- A row that is cut to nothing is still the call's own. -/
theorem OB.cut0 {w : World} {base n c : Nat} {A : Option Addr} {l : List UInt8} (h : OB w base A n c l) : OB w base A 0 c [] := by
  obtain ⟨⟨hl, hv⟩, hn⟩ := h
  refine ⟨⟨rfl, ?_⟩, hn⟩
  rcases hv with ⟨hv, h0⟩ | ⟨g, cap, cur, hv, h1, h2, h3, h4, h5, h6⟩
  · injection hv with hA hn' hc
    subst hA hc
    exact .inl ⟨rfl, rfl⟩
  · injection hv with hA hn' hc
    subst hA hc
    exact .inr ⟨g, c, cur, rfl, h1, h2, Nat.zero_le _, h4, h5, by simp [bv]⟩

/-- The tables, in a world in which their blocks lie as they lay. -/
theorem Tabs.same {w w' : World} (h : Tabs w) (hm : w'.heap[2]? = w.heap[2]?) (hw : w'.heap[1]? = w.heap[1]?) (hs : w.heap.size ≤ w'.heap.size) : Tabs w' :=
  ⟨fun k x hx => ⟨(World.cell?_of_block (w := w) (a := ⟨2, 2 * k, none⟩) hm).trans (h.mt k x hx).1, (World.cell?_of_block (w := w) (a := ⟨2, 2 * k + 1, none⟩) hm).trans (h.mt k x hx).2⟩,
   fun k x hx => ⟨(World.cell?_of_block (w := w) (a := ⟨1, 2 * k, none⟩) hw).trans (h.wt k x hx).1, (World.cell?_of_block (w := w) (a := ⟨1, 2 * k + 1, none⟩) hw).trans (h.wt k x hx).2⟩,
   Nat.lt_of_lt_of_le h.mg hs, Nat.lt_of_lt_of_le h.wg hs⟩

namespace ClIn
variable {h : Nat} {f : Nat → Prop} {W w w' : World} {l : Nat} {s : ByteArray} {A A' : Option Addr} {n c n' c' : Nat} {k k' : List UInt8} {v1 : Value} {a2 a3 : Int}
end ClIn

end Go.Proofs.YtcgjanjllfcnoaaGreatDoor

namespace Go.Proofs.YtcgjanjllfcnoaaGreatDoor
open Go.RowKit Go.Shelf
attribute [local go_sem] Oper.semAt_some
set_option linter.unusedVariables false

def rr (pre : List (Nat × Int)) : List Int := pre.map (·.2)
theorem rr_snoc (pre : List (Nat × Int)) (x : Nat × Int) : run (rr (pre ++ [x])) = st2 (run (rr pre)) x.2 := by
  unfold rr; rw [List.map_append]; exact run_snoc _ _
/-- what holds of each cluster that is told -/
def elC (x : Int × List UInt8) : Prop := x.2.length ≤ 64 ∧ 0 ≤ x.1 ∧ x.1 ≤ 3000000
theorem keepsFrom_of {W X : World} (h : KeepsOthers W X) (B : Nat) : KeepsFrom B W X := h.from B
theorem prs_prefix {a b : List (List Int)} (h : a <+: b) : prs 0 a <+: prs 0 b := by
  obtain ⟨t, rfl⟩ := h
  rw [prs_append]
  exact List.prefix_append _ _
theorem Turn.below0 {b : Nat} {f : Nat → Prop} {A B : World} (h : Turn b f A B) : Below 0 A B := ⟨h.os, h.tape, h.output, h.size, fun k hk => by omega⟩

end Go.Proofs.YtcgjanjllfcnoaaGreatDoor

