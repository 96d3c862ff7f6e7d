/-
  Plain mathematics of laying parts out: parts, slots, what is needed, dropped and grown. No program is named here.
-/
import Derived.Laws.CopyOwn
import Derived.Lib.Hide
namespace Go.Proofs.Ytdodogehlnchlaa
open Go.RowKit
set_option linter.unusedVariables false
set_option linter.unusedSimpArgs false

/-! rows of elements of one size -/
def flB (f : Nat → List Value) (n : Nat) : List Value := (List.range n).flatMap f
theorem flB_zero (f : Nat → List Value) : flB f 0 = [] := rfl
theorem flB_succ (f : Nat → List Value) (n : Nat) : flB f (n + 1) = flB f n ++ f n := by simp [flB, List.range_succ]
theorem flB_len {f : Nat → List Value} {m : Nat} (hf : ∀ i, (f i).length = m) (n : Nat) : (flB f n).length = n * m := by
  induction n with
  | zero => simp [flB]
  | succ n ih => rw [flB_succ, List.length_append, ih, hf, Nat.succ_mul]
theorem flB_get {f : Nat → List Value} {m : Nat} (hf : ∀ i, (f i).length = m) {n i j : Nat} (hi : i < n) (hj : j < m) : (flB f n)[i * m + j]? = (f i)[j]? := by
  induction n with
  | zero => omega
  | succ n ih =>
    rw [flB_succ]
    by_cases h : i < n
    · have h1 : (i + 1) * m ≤ n * m := Nat.mul_le_mul_right m h
      rw [Nat.succ_mul] at h1
      rw [List.getElem?_append_left (by rw [flB_len hf]; omega)]
      exact ih h
    · have h1 : i = n := by omega
      subst h1
      rw [List.getElem?_append_right (by rw [flB_len hf]; omega), flB_len hf, Nat.add_sub_cancel_left]
theorem flB_congr {f g : Nat → List Value} {n : Nat} (h : ∀ i, i < n → f i = g i) : flB f n = flB g n := by
  induction n with
  | zero => rfl
  | succ n ih => rw [flB_succ, flB_succ, ih (fun i hi => h i (by omega)), h n (by omega)]
theorem flB_take {f : Nat → List Value} {m : Nat} (hf : ∀ i, (f i).length = m) {k n : Nat} (h : k ≤ n) : (flB f n).take (k * m) = flB f k := by
  induction n with
  | zero => have : k = 0 := by omega
            subst this; simp [flB]
  | succ n ih =>
    by_cases h1 : k ≤ n
    · have h2 : k * m ≤ n * m := Nat.mul_le_mul_right m h1
      rw [flB_succ, List.take_append_of_le_length (by rw [flB_len hf]; exact h2)]
      exact ih h1
    · have : k = n + 1 := by omega
      subst this
      rw [List.take_of_length_le (by rw [flB_len hf]; exact Nat.le_refl _)]
/-- an element's cell is set -/
theorem flB_set {f : Nat → List Value} {m : Nat} (hf : ∀ i, (f i).length = m) {n i j : Nat} (hi : i < n) (hj : j < m) (v : Value) :
    (flB f n).set (i * m + j) v = flB (fun k => if k = i then (f k).set j v else f k) n := by
  induction n with
  | zero => omega
  | succ n ih =>
    rw [flB_succ, flB_succ]
    by_cases h : i < n
    · have h1 : (i + 1) * m ≤ n * m := Nat.mul_le_mul_right m h
      rw [Nat.succ_mul] at h1
      rw [List.set_append_left _ _ (by rw [flB_len hf]; omega), ih h, if_neg (by omega)]
    · have h1 : i = n := by omega
      subst h1
      rw [List.set_append_right _ _ (by rw [flB_len hf]; omega), flB_len hf, Nat.add_sub_cancel_left, if_pos rfl]
      exact congrArg (· ++ _) (flB_congr fun k hk => by rw [if_neg (by omega)])
/-- an element is stored whole -/
theorem flB_splice {f : Nat → List Value} {m : Nat} (hf : ∀ i, (f i).length = m) {n i : Nat} (hi : i < n) (ds : List Value) (hd : ds.length = m) :
    splice (flB f n) (i * m) ds = flB (fun k => if k = i then ds else f k) n := by
  induction n with
  | zero => omega
  | succ n ih =>
    rw [flB_succ, flB_succ]
    have hl := flB_len hf n
    by_cases h : i < n
    · have h1 : (i + 1) * m ≤ n * m := Nat.mul_le_mul_right m h
      rw [Nat.succ_mul] at h1
      rw [← ih h, if_neg (by omega : ¬ n = i)]
      unfold splice
      rw [List.take_append_of_le_length (by omega), List.drop_append_of_le_length (by omega)]
      simp [List.append_assoc]
    · have h1 : i = n := by omega
      subst h1
      rw [if_pos rfl]
      unfold splice
      rw [List.take_append_of_le_length (by omega), List.take_of_length_le (by omega), List.drop_of_length_le (by rw [List.length_append, hf, hl, hd]; omega), List.append_nil]
      exact congrArg (· ++ _) (flB_congr fun k hk => by rw [if_neg (by omega)])

/-! parts and slots -/
structure Pt where
  mn : Int
  mx : Int
  wt : Int
  kp : Int
structure Pt.Ok (p : Pt) : Prop where
  a : 0 ≤ p.mn
  b : p.mn ≤ p.mx
  c : p.mx ≤ 500
  d : 0 ≤ p.wt
  e : p.wt ≤ 100
  f : 0 ≤ p.kp
  g : p.kp ≤ 9
def ptC (p : Pt) : List Value := [.int .i64 p.mn, .int .i64 p.mx, .int .i64 p.wt, .int .i64 p.kp]
theorem ptC_len (p : Pt) : (ptC p).length = 4 := rfl
structure Slt where
  p : Pt
  kp : Bool
  a : Int
  sz : Int
def slZ : Slt := ⟨⟨0, 0, 0, 0⟩, false, 0, 0⟩
def slC (s : Slt) : List Value := [.int .i64 s.p.mn, .int .i64 s.p.mx, .int .i64 s.p.wt, .int .i64 s.p.kp, .bool s.kp, .int .i64 s.a, .int .i64 s.sz]
theorem slC_len (s : Slt) : (slC s).length = 7 := rfl
def ptB (P : Nat → Pt) (n : Nat) : List Value := flB (fun i => ptC (P i)) n
abbrev Sts := Nat → Slt
def slB (σ : Sts) (n : Nat) : List Value := flB (fun i => slC (σ i)) n
theorem ptB_len (P : Nat → Pt) (n : Nat) : (ptB P n).length = n * 4 := flB_len (fun i => ptC_len _) n
theorem slB_len (σ : Sts) (n : Nat) : (slB σ n).length = n * 7 := flB_len (fun i => slC_len _) n
theorem ptB_get {P : Nat → Pt} {n i j : Nat} (hi : i < n) (hj : j < 4) : (ptB P n)[i * 4 + j]? = (ptC (P i))[j]? := flB_get (fun i => ptC_len _) hi hj
theorem slB_get {σ : Sts} {n i j : Nat} (hi : i < n) (hj : j < 7) : (slB σ n)[i * 7 + j]? = (slC (σ i))[j]? := flB_get (fun i => slC_len _) hi hj
theorem slB_congr {σ τ : Sts} {n : Nat} (h : ∀ i, i < n → σ i = τ i) : slB σ n = slB τ n := flB_congr fun i hi => by rw [h i hi]
def upd (σ : Sts) (j : Nat) (s : Slt) : Sts := fun i => if i = j then s else σ i
theorem upd_same (σ : Sts) (j : Nat) (s : Slt) : upd σ j s j = s := by simp [upd]
theorem upd_other (σ : Sts) {i j : Nat} (s : Slt) (h : i ≠ j) : upd σ j s i = σ i := by simp [upd, h]
theorem slB_splice {σ : Sts} {n i : Nat} (hi : i < n) (s : Slt) : splice (slB σ n) (i * 7) (slC s) = slB (upd σ i s) n := by
  unfold slB
  rw [flB_splice (fun i => slC_len _) hi (slC s) (slC_len s)]
  exact flB_congr fun k _ => by
    by_cases h : k = i
    · subst h; simp [upd]
    · simp [upd, h]
def atS (s : Slt) (v : Int) : Slt := { s with a := v }
def szS (s : Slt) (v : Int) : Slt := { s with sz := v }
theorem slB_setA {σ : Sts} {n i : Nat} (hi : i < n) (v : Int) : (slB σ n).set (i * 7 + 5) (.int .i64 v) = slB (upd σ i (atS (σ i) v)) n := by
  unfold slB
  rw [flB_set (fun i => slC_len _) hi (by omega)]
  exact flB_congr fun k _ => by
    by_cases h : k = i
    · subst h; simp [upd, slC, atS]
    · simp [upd, h]
theorem slB_setS {σ : Sts} {n i : Nat} (hi : i < n) (v : Int) : (slB σ n).set (i * 7 + 6) (.int .i64 v) = slB (upd σ i (szS (σ i) v)) n := by
  unfold slB
  rw [flB_set (fun i => slC_len _) hi (by omega)]
  exact flB_congr fun k _ => by
    by_cases h : k = i
    · subst h; simp [upd, slC, szS]
    · simp [upd, h]

/-! the kept ones -/
def ki (b : Nat → Bool) (k : Nat) : List Nat := (List.range k).filter b
theorem ki_zero (b : Nat → Bool) : ki b 0 = [] := rfl
theorem ki_succ (b : Nat → Bool) (k : Nat) : ki b (k + 1) = ki b k ++ (if b k then [k] else []) := by
  unfold ki
  rw [List.range_succ, List.filter_append]
  cases h : b k <;> simp [h]
theorem ki_yes {b : Nat → Bool} {k : Nat} (h : b k = true) : ki b (k + 1) = ki b k ++ [k] := by rw [ki_succ, if_pos h]
theorem ki_no {b : Nat → Bool} {k : Nat} (h : b k = false) : ki b (k + 1) = ki b k := by rw [ki_succ, if_neg (by simp [h]), List.append_nil]
theorem mem_ki {b : Nat → Bool} {i k : Nat} : i ∈ ki b k ↔ i < k ∧ b i = true := by simp [ki]
theorem ki_len (b : Nat → Bool) (k : Nat) : (ki b k).length ≤ k := by
  have := List.length_filter_le b (List.range k)
  simpa [ki] using this
theorem ki_congr {b c : Nat → Bool} {n : Nat} (h : ∀ i, i < n → b i = c i) : ki b n = ki c n := by
  unfold ki
  apply List.filter_congr
  intro i hi
  exact h i (by simpa using hi)
def kpO (σ : Sts) : Nat → Bool := fun i => (σ i).kp
theorem kpO_at (σ : Sts) (v : Slt → Int) (i : Nat) : kpO (upd σ i (atS (σ i) (v (σ i)))) = kpO σ := by
  funext k
  by_cases h : k = i
  · subst h; simp [kpO, upd, atS]
  · simp [kpO, upd, h]

/-! sums -/
def sumL (f : Nat → Int) : List Nat → Int
  | [] => 0
  | i :: l => f i + sumL f l
theorem sumL_append (f : Nat → Int) (l m : List Nat) : sumL f (l ++ m) = sumL f l + sumL f m := by
  induction l with
  | nil => simp [sumL]
  | cons a l ih => simp only [List.cons_append, sumL, ih]; omega
theorem sumL_snoc (f : Nat → Int) (l : List Nat) (i : Nat) : sumL f (l ++ [i]) = sumL f l + f i := by rw [sumL_append]; simp [sumL]
theorem sumL_bd {f : Nat → Int} {l : List Nat} {B : Int} (h : ∀ i ∈ l, 0 ≤ f i ∧ f i ≤ B) : 0 ≤ sumL f l ∧ sumL f l ≤ B * l.length := by
  induction l with
  | nil => simp [sumL]
  | cons a l ih =>
    have h1 := h a (by simp)
    have h2 := ih (fun i hi => h i (by simp [hi]))
    simp only [sumL, List.length_cons]
    rw [show (((l.length + 1 : Nat)) : Int) = (l.length : Int) + 1 by omega, Int.mul_add]
    omega
theorem sumL_congr {f g : Nat → Int} {l : List Nat} (h : ∀ i ∈ l, f i = g i) : sumL f l = sumL g l := by
  induction l with
  | nil => rfl
  | cons a l ih => simp only [sumL]; rw [h a (by simp), ih (fun i hi => h i (by simp [hi]))]

/-! what is needed -/
def ndP (gap : Int) (f : Nat → Int) (l : List Nat) : Int × Int := l.foldl (fun a i => (a.1 + (a.2 + f i), gap)) (0, 0)
theorem ndP_nil (gap : Int) (f : Nat → Int) : ndP gap f [] = (0, 0) := rfl
theorem ndP_snoc (gap : Int) (f : Nat → Int) (l : List Nat) (i : Nat) : ndP gap f (l ++ [i]) = ((ndP gap f l).1 + ((ndP gap f l).2 + f i), gap) := by simp [ndP]
def need (gap : Int) (f : Nat → Int) (l : List Nat) : Int := (ndP gap f l).1
theorem ndP_go (gap : Int) (f : Nat → Int) (l : List Nat) (x : Int) : l.foldl (fun (a : Int × Int) i => (a.1 + (a.2 + f i), gap)) (x, gap) = (x + sumL f l + gap * l.length, gap) := by
  induction l generalizing x with
  | nil => simp [sumL]
  | cons a l ih =>
    simp only [List.foldl_cons, ih, sumL, List.length_cons]
    rw [show (((l.length + 1 : Nat)) : Int) = (l.length : Int) + 1 by omega, Int.mul_add]
    congr 1
    omega
theorem need_nil (gap : Int) (f : Nat → Int) : need gap f [] = 0 := rfl
theorem need_val (gap : Int) (f : Nat → Int) {l : List Nat} (h : l ≠ []) : need gap f l = sumL f l + gap * ((l.length : Int) - 1) ∧ (ndP gap f l).2 = gap := by
  cases l with
  | nil => exact absurd rfl h
  | cons a l =>
    have e : ndP gap f (a :: l) = (0 + (0 + f a) + sumL f l + gap * l.length, gap) := ndP_go gap f l (0 + (0 + f a))
    unfold need
    rw [e]
    simp only [sumL, List.length_cons]
    rw [show (((l.length + 1 : Nat)) : Int) - 1 = (l.length : Int) by omega]
    refine ⟨by omega, trivial⟩
theorem mul_bd {g x : Int} {n : Nat} (h0 : 0 ≤ g) (h1 : g ≤ x) : 0 ≤ g * (n : Int) ∧ g * (n : Int) ≤ x * n :=
  ⟨Int.mul_nonneg h0 (by omega), Int.mul_le_mul_of_nonneg_right h1 (by omega)⟩
theorem need_bd {gap : Int} {f : Nat → Int} {l : List Nat} (h0 : 0 ≤ gap) (h1 : gap ≤ 9) (h : ∀ i ∈ l, 0 ≤ f i ∧ f i ≤ 500) :
    0 ≤ need gap f l ∧ need gap f l ≤ 509 * l.length ∧ 0 ≤ (ndP gap f l).2 ∧ (ndP gap f l).2 ≤ 9 := by
  by_cases hl : l = []
  · subst hl
    exact ⟨by rw [need_nil]; omega, by rw [need_nil]; simp, by rw [ndP_nil]; simp, by rw [ndP_nil]; simp⟩
  · obtain ⟨e1, e2⟩ := need_val gap f hl
    have hb := sumL_bd h
    have hp : 0 < l.length := List.length_pos_iff.2 hl
    obtain ⟨k, hk⟩ : ∃ k, l.length = k + 1 := ⟨l.length - 1, by omega⟩
    have hm := mul_bd (n := k) h0 h1
    rw [e1, e2]
    rw [hk] at hb ⊢
    rw [show (((k + 1 : Nat)) : Int) - 1 = (k : Int) by omega]
    omega
end Go.Proofs.Ytdodogehlnchlaa
