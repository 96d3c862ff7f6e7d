/-
  Plain mathematics of laying parts out: which one is dropped, which one grows, where each stands. No program is named here.
-/
import Derived.Test.YtdodogehlnchlaaLyMath
namespace Go.Proofs.Ytdodogehlnchlaa
open Go.RowKit
set_option linter.unusedVariables false
set_option linter.unusedSimpArgs false

theorem foldl_inv {β : Type} (f : β → Nat → β) (Q : List Nat → β → Prop) {z : β} (h0 : Q [] z) (hs : ∀ p x a, Q p a → Q (p ++ [x]) (f a x)) (l : List Nat) : Q l (l.foldl f z) := by
  have key : ∀ (l p : List Nat) (a : β), Q p a → Q (p ++ l) (l.foldl f a) := by
    intro l
    induction l with
    | nil => intro p a h; simpa using h
    | cons x l ih =>
      intro p a h
      have := ih (p ++ [x]) (f a x) (hs p x a h)
      simpa using this
  have := key l [] z h0
  simpa using this

/-! the one that is dropped -/
def lsF (K : Nat → Int) (o : Option Nat) (i : Nat) : Option Nat := match o with
  | none => some i
  | some j => if K i ≤ K j then some i else some j
def lstL (K : Nat → Int) (l : List Nat) : Option Nat := l.foldl (lsF K) none
theorem lstL_snoc (K : Nat → Int) (l : List Nat) (i : Nat) : lstL K (l ++ [i]) = lsF K (lstL K l) i := by simp [lstL]
theorem lstL_mem (K : Nat → Int) (l : List Nat) : (∀ j, lstL K l = some j → j ∈ l) ∧ (lstL K l = none → l = []) := by
  unfold lstL
  refine foldl_inv (lsF K) (fun p o => (∀ j, o = some j → j ∈ p) ∧ (o = none → p = [])) ⟨by simp, by simp⟩ ?_ l
  rintro p x o ⟨h1, h2⟩
  cases o with
  | none => exact ⟨by intro j hj; simp [lsF] at hj; simp [hj], by intro h; simp [lsF] at h⟩
  | some j =>
    refine ⟨?_, ?_⟩
    · intro i hi
      unfold lsF at hi
      dsimp only at hi
      split at hi
      · injection hi with hi; subst hi; simp
      · injection hi with hi; subst hi; have := h1 j rfl; simp [this]
    · intro h
      unfold lsF at h
      dsimp only at h
      split at h <;> cases h
theorem lstL_congr {K K' : Nat → Int} {l : List Nat} (h : ∀ i ∈ l, K i = K' i) : lstL K l = lstL K' l := by
  have key : ∀ (l : List Nat) (o : Option Nat), (∀ i ∈ l, K i = K' i) → (∀ j, o = some j → K j = K' j) → l.foldl (lsF K) o = l.foldl (lsF K') o := by
    intro l
    induction l with
    | nil => intro o _ _; rfl
    | cons x l ih =>
      intro o h1 h2
      have hx := h1 x (by simp)
      have e : lsF K o x = lsF K' o x := by
        cases o with
        | none => rfl
        | some j => simp [lsF, hx, h2 j rfl]
      simp only [List.foldl_cons, e]
      refine ih _ (fun i hi => h1 i (by simp [hi])) ?_
      intro j hj
      cases o with
      | none => simp [lsF] at hj; subst hj; exact hx
      | some k =>
        unfold lsF at hj
        dsimp only at hj
        split at hj
        · injection hj with hj; subst hj; exact hx
        · injection hj with hj; subst hj; exact h2 k rfl
  exact key l none h (by simp)

def szO (σ : Sts) : Nat → Int := fun i => (σ i).sz
def keO (σ : Sts) : Nat → Int := fun i => (σ i).p.kp
def nd (gap : Int) (σ : Sts) (n : Nat) : Int := need gap (szO σ) (ki (kpO σ) n)
def lst (σ : Sts) (n : Nat) : Option Nat := lstL (keO σ) (ki (kpO σ) n)
def cnt (σ : Sts) (n : Nat) : Nat := (ki (kpO σ) n).length
def drp (σ : Sts) (j : Nat) : Sts := upd σ j slZ
theorem ki_drop {b c : Nat → Bool} {j : Nat} (hc : ∀ i, c i = if i = j then false else b i) (hb : b j = true) : ∀ n, (j < n → (ki c n).length + 1 = (ki b n).length) ∧ (n ≤ j → ki c n = ki b n) := by
  intro n
  induction n with
  | zero => exact ⟨fun h => by omega, fun _ => rfl⟩
  | succ n ih =>
    refine ⟨fun h => ?_, fun h => ?_⟩
    · rw [ki_succ, ki_succ]
      by_cases hn : n = j
      · subst hn
        rw [hc n, if_pos rfl, hb, ih.2 (Nat.le_refl _)]
        simp
      · have h1 := ih.1 (by omega)
        rw [hc n, if_neg hn, List.length_append, List.length_append]
        omega
    · have e : c n = b n := by rw [hc n, if_neg (by omega)]
      rw [ki_succ, ki_succ, ih.2 (by omega), e]
theorem kpO_drp (σ : Sts) (j : Nat) : ∀ i, kpO (drp σ j) i = if i = j then false else kpO σ i := fun i => by
  by_cases h : i = j
  · subst h; simp [kpO, drp, upd, slZ]
  · simp [kpO, drp, upd, h]
theorem cnt_drp {σ : Sts} {n j : Nat} (h : j ∈ ki (kpO σ) n) : cnt (drp σ j) n + 1 = cnt σ n :=
  (ki_drop (kpO_drp σ j) (mem_ki.1 h).2 n).1 (mem_ki.1 h).1
def dropN (gap room : Int) (n : Nat) : Nat → Sts → Sts
  | 0, σ => σ
  | m + 1, σ => if nd gap σ n ≤ room then σ else match lst σ n with
    | none => σ
    | some j => dropN gap room n m (drp σ j)
theorem nd_pos {gap room : Int} {σ : Sts} {n : Nat} (h0 : 0 ≤ room) (h : ¬ nd gap σ n ≤ room) : ∃ j, lst σ n = some j ∧ j ∈ ki (kpO σ) n := by
  have hm := lstL_mem (keO σ) (ki (kpO σ) n)
  cases hq : lst σ n with
  | none =>
    have := hm.2 hq
    exfalso
    apply h
    unfold nd
    rw [this, need_nil]
    exact h0
  | some j => exact ⟨j, rfl, hm.1 j hq⟩
theorem dropN_le {gap room : Int} {n m : Nat} {σ : Sts} (h : nd gap σ n ≤ room) : dropN gap room n m σ = σ := by
  cases m with
  | zero => rfl
  | succ m => simp [dropN, h]
theorem dropN_step {gap room : Int} {n m : Nat} {σ : Sts} {j : Nat} (h : ¬ nd gap σ n ≤ room) (hj : lst σ n = some j) : dropN gap room n (m + 1) σ = dropN gap room n m (drp σ j) := by simp [dropN, h, hj]
theorem dropN_need {gap room : Int} {n : Nat} (h0 : 0 ≤ room) : ∀ (m : Nat) (σ : Sts), cnt σ n ≤ m → nd gap (dropN gap room n m σ) n ≤ room := by
  intro m
  induction m with
  | zero =>
    intro σ h
    have : ki (kpO σ) n = [] := List.eq_nil_of_length_eq_zero (by unfold cnt at h; omega)
    simp only [dropN]
    unfold nd
    rw [this, need_nil]
    exact h0
  | succ m ih =>
    intro σ h
    by_cases hq : nd gap σ n ≤ room
    · rw [dropN_le hq]; exact hq
    · obtain ⟨j, hj, hm⟩ := nd_pos h0 hq
      rw [dropN_step hq hj]
      have := cnt_drp hm
      exact ih _ (by omega)
theorem dropN_sub {gap room : Int} {n : Nat} (i : Nat) : ∀ (m : Nat) (σ : Sts), kpO (dropN gap room n m σ) i = true → kpO σ i = true := by
  intro m
  induction m with
  | zero => intro σ h; exact h
  | succ m ih =>
    intro σ h
    unfold dropN at h
    split at h
    · exact h
    · split at h
      · exact h
      · rename_i j _
        have := ih _ h
        rw [kpO_drp] at this
        split at this
        · cases this
        · exact this
theorem dropN_more {gap room : Int} {n : Nat} (h0 : 0 ≤ room) (i : Nat) : ∀ (m : Nat) (σ : Sts), kpO (dropN gap room n m σ) i = true → kpO (dropN gap (room + 1) n m σ) i = true := by
  intro m
  induction m with
  | zero => intro σ h; exact h
  | succ m ih =>
    intro σ h
    by_cases h1 : nd gap σ n ≤ room + 1
    · rw [dropN_le h1]
      exact dropN_sub i _ _ h
    · obtain ⟨j, hj, hm⟩ := nd_pos (by omega) h1
      rw [dropN_step h1 hj]
      rw [dropN_step (by omega) hj] at h
      exact ih _ h
def beg (P : Nat → Pt) : Sts := fun i => ⟨P i, true, 0, (P i).mn⟩
def Inv0 (P : Nat → Pt) (n : Nat) (σ : Sts) : Prop := ∀ i, σ i = beg P i ∨ (i < n ∧ σ i = slZ)
theorem Inv0.beg (P : Nat → Pt) (n : Nat) : Inv0 P n (beg P) := fun i => .inl rfl
theorem Inv0.drp {P : Nat → Pt} {n : Nat} {σ : Sts} (h : Inv0 P n σ) {j : Nat} (hj : j ∈ ki (kpO σ) n) : Inv0 P n (drp σ j) := fun i => by
  by_cases hi : i = j
  · subst hi; exact .inr ⟨(mem_ki.1 hj).1, by simp [Go.Proofs.Ytdodogehlnchlaa.drp, upd]⟩
  · have : Go.Proofs.Ytdodogehlnchlaa.drp σ j i = σ i := by simp [Go.Proofs.Ytdodogehlnchlaa.drp, upd, hi]
    rw [this]; exact h i
theorem Inv0.dropN {P : Nat → Pt} {gap room : Int} {n : Nat} (h0 : 0 ≤ room) : ∀ (m : Nat) (σ : Sts), Inv0 P n σ → Inv0 P n (dropN gap room n m σ) := by
  intro m
  induction m with
  | zero => intro σ h; exact h
  | succ m ih =>
    intro σ h
    by_cases hq : nd gap σ n ≤ room
    · rw [dropN_le hq]; exact h
    · obtain ⟨j, hj, hm⟩ := nd_pos h0 hq
      rw [dropN_step hq hj]
      exact ih _ (h.drp hm)
theorem Inv0.same {P : Nat → Pt} {n : Nat} {σ τ : Sts} (h : Inv0 P n σ) (k : Inv0 P n τ) (hs : ∀ i, i < n → kpO σ i = kpO τ i) : σ = τ := by
  funext i
  rcases h i with h1 | ⟨h1, h2⟩ <;> rcases k i with k1 | ⟨k1, k2⟩
  · rw [h1, k1]
  · have := hs i k1; simp [kpO, h1, k2, Go.Proofs.Ytdodogehlnchlaa.beg, slZ] at this
  · have := hs i h1; simp [kpO, h2, k1, Go.Proofs.Ytdodogehlnchlaa.beg, slZ] at this
  · rw [h2, k2]

/-! growing -/
def elg (s : Slt) : Bool := decide (s.sz < s.p.mx) && decide (0 < s.p.wt)
def bef (s o : Slt) : Bool := decide ((s.sz - s.p.mn + 1) * o.p.wt < (o.sz - o.p.mn + 1) * s.p.wt)
def nxF (σ : Sts) (o : Option Nat) (i : Nat) : Option Nat := if elg (σ i) && (match o with | none => true | some j => bef (σ i) (σ j)) then some i else o
def nxL (σ : Sts) (l : List Nat) : Option Nat := l.foldl (nxF σ) none
theorem nxL_snoc (σ : Sts) (l : List Nat) (i : Nat) : nxL σ (l ++ [i]) = nxF σ (nxL σ l) i := by simp [nxL]
def nxt (σ : Sts) (n : Nat) : Option Nat := nxL σ (ki (kpO σ) n)
def leqS (s o : Slt) : Prop := (s.sz - s.p.mn + 1) * o.p.wt ≤ (o.sz - o.p.mn + 1) * s.p.wt
theorem elg_iff (s : Slt) : elg s = true ↔ s.sz < s.p.mx ∧ 0 < s.p.wt := by simp [elg]
theorem lt_leq {a b c u v x : Int} (hu : 0 < u) (hv : 0 < v) (hx : 0 < x) (h1 : a * v < b * u) (h2 : b * x ≤ c * v) : a * x ≤ c * u := by
  have e1 : a * v * x ≤ b * u * x := Int.mul_le_mul_of_nonneg_right (Int.le_of_lt h1) (Int.le_of_lt hx)
  have e2 : b * x * u ≤ c * v * u := Int.mul_le_mul_of_nonneg_right h2 (Int.le_of_lt hu)
  have e3 : a * x * v ≤ c * u * v := by
    have p1 : a * x * v = a * v * x := Int.mul_right_comm a x v
    have p2 : b * u * x = b * x * u := Int.mul_right_comm b u x
    have p3 : c * v * u = c * u * v := Int.mul_right_comm c v u
    omega
  exact Int.le_of_mul_le_mul_right e3 hv
theorem nxL_some (σ : Sts) (l : List Nat) : (∀ j, nxL σ l = some j → j ∈ l ∧ elg (σ j) = true ∧ ∀ i ∈ l, elg (σ i) = true → leqS (σ j) (σ i)) ∧ (nxL σ l = none → ∀ i ∈ l, elg (σ i) = false) := by
  unfold nxL
  refine foldl_inv (nxF σ) (fun p o => (∀ j, o = some j → j ∈ p ∧ elg (σ j) = true ∧ ∀ i ∈ p, elg (σ i) = true → leqS (σ j) (σ i)) ∧ (o = none → ∀ i ∈ p, elg (σ i) = false)) ⟨by simp, by simp⟩ ?_ l
  rintro p x o ⟨h1, h2⟩
  cases hx : elg (σ x) with
  | false =>
    have e : nxF σ o x = o := by simp [nxF, hx]
    rw [e]
    refine ⟨fun j hj => ?_, fun ho i hi => ?_⟩
    · obtain ⟨q1, q2, q3⟩ := h1 j hj
      refine ⟨by simp [q1], q2, fun i hi he => ?_⟩
      rcases List.mem_append.1 hi with hi | hi
      · exact q3 i hi he
      · simp at hi; subst hi; rw [hx] at he; cases he
    · rcases List.mem_append.1 hi with hi | hi
      · exact h2 ho i hi
      · simp at hi; subst hi; exact hx
  | true =>
    cases o with
    | none =>
      have e : nxF σ none x = some x := by simp [nxF, hx]
      rw [e]
      refine ⟨fun j hj => ?_, by simp⟩
      injection hj with hj; subst hj
      refine ⟨by simp, hx, fun i hi he => ?_⟩
      rcases List.mem_append.1 hi with hi | hi
      · have := h2 rfl i hi; rw [this] at he; cases he
      · simp at hi; subst hi; exact Int.le_refl _
    | some k =>
      obtain ⟨q1, q2, q3⟩ := h1 k rfl
      cases hb : bef (σ x) (σ k) with
      | true =>
        have e : nxF σ (some k) x = some x := by simp [nxF, hx, hb]
        rw [e]
        refine ⟨fun j hj => ?_, by simp⟩
        injection hj with hj; subst hj
        refine ⟨by simp, hx, fun i hi he => ?_⟩
        rcases List.mem_append.1 hi with hi | hi
        · have hlt : _ < _ := of_decide_eq_true hb
          exact lt_leq ((elg_iff _).1 hx).2 ((elg_iff _).1 q2).2 ((elg_iff _).1 he).2 hlt (q3 i hi he)
        · simp at hi; subst hi; exact Int.le_refl _
      | false =>
        have e : nxF σ (some k) x = some k := by simp [nxF, hx, hb]
        rw [e]
        refine ⟨fun j hj => ?_, by simp⟩
        injection hj with hj; subst hj
        refine ⟨by simp [q1], q2, fun i hi he => ?_⟩
        rcases List.mem_append.1 hi with hi | hi
        · exact q3 i hi he
        · simp at hi; subst hi
          have : ¬ _ < _ := of_decide_eq_false hb
          exact Int.not_lt.1 this
def inc (σ : Sts) (j : Nat) : Sts := upd σ j (szS (σ j) ((σ j).sz + 1))
theorem inc_same (σ : Sts) (j : Nat) : inc σ j j = szS (σ j) ((σ j).sz + 1) := by simp [inc, upd]
theorem inc_other (σ : Sts) {i j : Nat} (h : i ≠ j) : inc σ j i = σ i := by simp [inc, upd, h]
theorem kpO_inc (σ : Sts) (j : Nat) : kpO (inc σ j) = kpO σ := by
  funext k
  by_cases h : k = j
  · subst h; simp [kpO, inc_same, szS]
  · simp [kpO, inc_other σ h]
def growS (n : Nat) : Nat → Sts → Sts × Nat
  | 0, σ => (σ, 0)
  | r + 1, σ => match nxt σ n with
    | none => (σ, r + 1)
    | some j => growS n r (inc σ j)
theorem growS_none {n r : Nat} {σ : Sts} (h : nxt σ n = none) : growS n r σ = (σ, r) := by
  cases r with
  | zero => rfl
  | succ r => simp [growS, h]
theorem growS_some {n r j : Nat} {σ : Sts} (h : nxt σ n = some j) : growS n (r + 1) σ = growS n r (inc σ j) := by simp [growS, h]
theorem growS_kp (n : Nat) : ∀ (r : Nat) (σ : Sts), kpO (growS n r σ).1 = kpO σ := by
  intro r
  induction r with
  | zero => intro σ; rfl
  | succ r ih =>
    intro σ
    cases h : nxt σ n with
    | none => rw [growS_none h]
    | some j => rw [growS_some h, ih, kpO_inc]
theorem growS_over (n : Nat) : ∀ (r : Nat) (σ : Sts), 0 < (growS n r σ).2 → nxt (growS n r σ).1 n = none := by
  intro r
  induction r with
  | zero => intro σ h; simp [growS] at h
  | succ r ih =>
    intro σ h
    cases hq : nxt σ n with
    | none => rw [growS_none hq]; exact hq
    | some j => rw [growS_some hq] at h ⊢; exact ih _ h
theorem growS_last (n : Nat) : ∀ (r : Nat) (σ : Sts), growS n (r + 1) σ = if (growS n r σ).2 = 0 then (match nxt (growS n r σ).1 n with | none => ((growS n r σ).1, 1) | some j => (inc (growS n r σ).1 j, 0)) else ((growS n r σ).1, (growS n r σ).2 + 1) := by
  intro r
  induction r with
  | zero =>
    intro σ
    cases h : nxt σ n with
    | none => rw [growS_none h]; simp [growS, h]
    | some j => rw [growS_some h]; simp [growS, h]
  | succ r ih =>
    intro σ
    cases h : nxt σ n with
    | none => rw [growS_none h, growS_none h]; simp
    | some j => rw [growS_some h, growS_some h]; exact ih _
theorem nxt_mem {σ : Sts} {n j : Nat} (h : nxt σ n = some j) : j < n ∧ kpO σ j = true ∧ elg (σ j) = true :=
  ⟨(mem_ki.1 ((nxL_some σ _).1 j h).1).1, (mem_ki.1 ((nxL_some σ _).1 j h).1).2, ((nxL_some σ _).1 j h).2.1⟩
structure Inv1 (P : Nat → Pt) (n : Nat) (σ : Sts) : Prop where
  y : ∀ i, i < n → (σ i).kp = true → (σ i).p = P i ∧ (P i).mn ≤ (σ i).sz ∧ (σ i).sz ≤ (P i).mx ∧ (σ i).a = 0
  z : ∀ i, i < n → (σ i).kp = false → σ i = slZ
theorem Inv1.of0 {P : Nat → Pt} {n : Nat} {σ : Sts} (h : Inv0 P n σ) (hP : ∀ i, i < n → (P i).Ok) : Inv1 P n σ := by
  refine ⟨fun i hi hk => ?_, fun i hi hk => ?_⟩
  · rcases h i with h1 | ⟨_, h1⟩
    · rw [h1]; exact ⟨rfl, Int.le_refl _, (hP i hi).b, rfl⟩
    · rw [h1] at hk; cases hk
  · rcases h i with h1 | ⟨_, h1⟩
    · rw [h1] at hk; cases hk
    · exact h1
theorem Inv1.inc {P : Nat → Pt} {n : Nat} {σ : Sts} (h : Inv1 P n σ) {j : Nat} (hj : nxt σ n = some j) : Inv1 P n (inc σ j) := by
  obtain ⟨h1, h2, h3⟩ := nxt_mem hj
  refine ⟨fun i hi hk => ?_, fun i hi hk => ?_⟩
  · by_cases he : i = j
    · subst he
      rw [inc_same] at hk ⊢
      obtain ⟨q1, q2, q3, q4⟩ := h.y i hi hk
      have := ((elg_iff _).1 h3).1
      rw [q1] at this
      exact ⟨q1, by simp only [szS]; omega, by simp only [szS]; omega, q4⟩
    · rw [inc_other σ he] at hk ⊢
      exact h.y i hi hk
  · by_cases he : i = j
    · subst he
      rw [inc_same] at hk
      have h2' : (σ i).kp = true := h2
      have hk' : (σ i).kp = false := hk
      rw [h2'] at hk'; cases hk'
    · rw [inc_other σ he] at hk ⊢
      exact h.z i hi hk
theorem Inv1.grow {P : Nat → Pt} {n : Nat} : ∀ (r : Nat) (σ : Sts), Inv1 P n σ → Inv1 P n (growS n r σ).1 := by
  intro r
  induction r with
  | zero => intro σ h; exact h
  | succ r ih =>
    intro σ h
    cases hq : nxt σ n with
    | none => rw [growS_none hq]; exact h
    | some j => rw [growS_some hq]; exact ih _ (h.inc hq)
theorem sumL_inc {f g : Nat → Int} {b : Nat → Bool} {j : Nat} (hg : ∀ i, g i = if i = j then f i + 1 else f i) (hb : b j = true) : ∀ n, sumL g (ki b n) = sumL f (ki b n) + if j < n then 1 else 0 := by
  intro n
  induction n with
  | zero => simp [ki_zero, sumL]
  | succ n ih =>
    cases hn : b n with
    | true =>
      rw [ki_yes hn, sumL_snoc, sumL_snoc, ih, hg n]
      by_cases h : n = j
      · subst h; rw [if_pos rfl, if_neg (by omega), if_pos (by omega)]; omega
      · rw [if_neg h]
        by_cases h2 : j < n
        · rw [if_pos h2, if_pos (by omega)]; omega
        · rw [if_neg h2, if_neg (by omega)]; omega
    | false =>
      rw [ki_no hn, ih]
      have h : n ≠ j := fun e => by subst e; rw [hb] at hn; cases hn
      by_cases h2 : j < n
      · rw [if_pos h2, if_pos (by omega)]
      · rw [if_neg h2, if_neg (by omega)]
theorem szO_inc (σ : Sts) (j : Nat) : ∀ i, szO (inc σ j) i = if i = j then szO σ i + 1 else szO σ i := fun i => by
  by_cases h : i = j
  · subst h; simp [szO, inc_same, szS]
  · simp [szO, inc_other σ h, h]
theorem growS_sum (n : Nat) : ∀ (r : Nat) (σ : Sts), sumL (szO (growS n r σ).1) (ki (kpO σ) n) + (growS n r σ).2 = sumL (szO σ) (ki (kpO σ) n) + r := by
  intro r
  induction r with
  | zero => intro σ; simp [growS]
  | succ r ih =>
    intro σ
    cases hq : nxt σ n with
    | none => rw [growS_none hq]
    | some j =>
      obtain ⟨h1, h2, h3⟩ := nxt_mem hq
      rw [growS_some hq]
      have e := ih (inc σ j)
      rw [kpO_inc] at e
      rw [e, sumL_inc (szO_inc σ j) h2, if_pos h1]
      omega
def dd (s : Slt) : Int := s.sz - s.p.mn
structure FairI (n : Nat) (σ : Sts) : Prop where
  p : ∀ i k, i < n → k < n → (σ i).kp = true → (σ k).kp = true → (σ i).p.wt = (σ k).p.wt → (σ i).sz < (σ i).p.mx → (σ k).sz < (σ k).p.mx → dd (σ i) ≤ dd (σ k) + 1
  w : ∀ i, i < n → (σ i).kp = true → (σ i).p.wt ≤ 0 → dd (σ i) = 0
theorem FairI.of0 {P : Nat → Pt} {n : Nat} {σ : Sts} (h : Inv0 P n σ) : FairI n σ := by
  have hz : ∀ i, (σ i).kp = true → dd (σ i) = 0 := fun i hk => by
    rcases h i with h1 | ⟨_, h1⟩
    · rw [h1]; simp [dd, beg]
    · rw [h1] at hk; cases hk
  exact ⟨fun i k _ _ h1 h2 _ _ _ => by rw [hz i h1, hz k h2]; omega, fun i _ h1 _ => hz i h1⟩
theorem FairI.inc {n : Nat} {σ : Sts} (h : FairI n σ) {j : Nat} (hj : nxt σ n = some j) : FairI n (inc σ j) := by
  obtain ⟨h1, h2, h3⟩ := nxt_mem hj
  have h2' : (σ j).kp = true := h2
  obtain ⟨e1, e2⟩ := (elg_iff _).1 h3
  have hmin := ((nxL_some σ _).1 j hj).2.2
  have hle : ∀ k, k < n → (σ k).kp = true → (σ k).p.wt = (σ j).p.wt → (σ k).sz < (σ k).p.mx → dd (σ j) ≤ dd (σ k) := by
    intro k hk hkp hw hx
    have := hmin k (mem_ki.2 ⟨hk, hkp⟩) ((elg_iff _).2 ⟨hx, by omega⟩)
    unfold leqS at this
    rw [hw] at this
    have := Int.le_of_mul_le_mul_right this e2
    unfold dd
    omega
  refine ⟨fun i k hi hk k1 k2 hw m1 m2 => ?_, fun i hi k1 hw => ?_⟩
  · by_cases ei : i = j <;> by_cases ek : k = j
    · subst ei; subst ek; omega
    · subst ei
      rw [inc_same] at k1 hw m1 ⊢
      rw [inc_other σ ek] at k2 hw m2 ⊢
      have := hle k hk k2 hw.symm m2
      simp only [dd, szS] at this ⊢
      omega
    · subst ek
      rw [inc_other σ ei] at k1 hw m1 ⊢
      rw [inc_same] at k2 hw m2 ⊢
      have := h.p i k hi hk k1 k2 hw m1 e1
      simp only [dd, szS] at this ⊢
      omega
    · rw [inc_other σ ei] at k1 hw m1 ⊢
      rw [inc_other σ ek] at k2 hw m2 ⊢
      exact h.p i k hi hk k1 k2 hw m1 m2
  · by_cases ei : i = j
    · subst ei
      rw [inc_same] at hw
      simp only [szS] at hw
      omega
    · rw [inc_other σ ei] at k1 hw ⊢
      exact h.w i hi k1 hw
theorem FairI.grow {n : Nat} : ∀ (r : Nat) (σ : Sts), FairI n σ → FairI n (growS n r σ).1 := by
  intro r
  induction r with
  | zero => intro σ h; exact h
  | succ r ih =>
    intro σ h
    cases hq : nxt σ n with
    | none => rw [growS_none hq]; exact h
    | some j => rw [growS_some hq]; exact ih _ (h.inc hq)

/-! where each stands -/
def plF (gap : Int) (s : Sts × Int) (i : Nat) : Sts × Int := (upd s.1 i (atS (s.1 i) s.2), s.2 + ((s.1 i).sz + gap))
def plL (gap : Int) (σ : Sts) (x : Int) (l : List Nat) : Sts × Int := l.foldl (plF gap) (σ, x)
theorem plL_snoc (gap : Int) (σ : Sts) (x : Int) (l : List Nat) (i : Nat) : plL gap σ x (l ++ [i]) = plF gap (plL gap σ x l) i := by simp [plL]
def pos (gap x : Int) (f : Nat → Int) (b : Nat → Bool) (k : Nat) : Int := x + sumL f (ki b k) + gap * (ki b k).length
theorem pos_yes {gap x : Int} {f : Nat → Int} {b : Nat → Bool} {k : Nat} (h : b k = true) : pos gap x f b (k + 1) = pos gap x f b k + f k + gap := by
  unfold pos
  rw [ki_yes h, sumL_snoc, List.length_append, List.length_singleton, show (((ki b k).length + 1 : Nat) : Int) = ((ki b k).length : Int) + 1 by omega, Int.mul_add]
  omega
theorem pos_no {gap x : Int} {f : Nat → Int} {b : Nat → Bool} {k : Nat} (h : b k = false) : pos gap x f b (k + 1) = pos gap x f b k := by
  unfold pos
  rw [ki_no h]
theorem plL_ki (gap : Int) (σ : Sts) (x : Int) (n : Nat) : (∀ i, (plL gap σ x (ki (kpO σ) n)).1 i = if i < n ∧ kpO σ i = true then atS (σ i) (pos gap x (szO σ) (kpO σ) i) else σ i) ∧ (plL gap σ x (ki (kpO σ) n)).2 = pos gap x (szO σ) (kpO σ) n := by
  induction n with
  | zero => exact ⟨fun i => by rw [if_neg (by omega)]; rfl, by simp [plL, ki_zero, pos, sumL]⟩
  | succ n ih =>
    cases hn : kpO σ n with
    | true =>
      rw [ki_yes hn, plL_snoc, pos_yes hn]
      have e := ih.1 n
      rw [if_neg (by omega)] at e
      refine ⟨fun i => ?_, ?_⟩
      · simp only [plF, e, ih.2]
        by_cases h : i = n
        · subst h; rw [upd_same, if_pos ⟨by omega, hn⟩]
        · rw [upd_other _ _ h, ih.1 i]
          by_cases h2 : i < n ∧ kpO σ i = true
          · rw [if_pos h2, if_pos ⟨by omega, h2.2⟩]
          · rw [if_neg h2, if_neg (fun h3 => h2 ⟨by omega, h3.2⟩)]
      · simp only [plF, e, ih.2, szO]
        omega
    | false =>
      rw [ki_no hn, pos_no hn]
      refine ⟨fun i => ?_, ih.2⟩
      rw [ih.1 i]
      by_cases h2 : i < n ∧ kpO σ i = true
      · rw [if_pos h2, if_pos ⟨by omega, h2.2⟩]
      · rw [if_neg h2, if_neg (fun h3 => h2 ⟨by
          have : i ≠ n := fun e => by subst e; rw [hn] at h3; cases h3.2
          omega, h3.2⟩)]
end Go.Proofs.Ytdodogehlnchlaa
