/-
  Cells of a terminal and rows of them, as plain lists: what grids do to them. No program is named here.
-/
import Derived.Test.YtclkclamdnkdgaaDoorMem
namespace Go.Proofs.YtclkclamdnkdgaaDoor
open Go.RowKit
set_option linter.unusedVariables false

structure Sty where
  b : Bool
  u : Bool
  i : Bool
  f : Int
  g : Int
  deriving DecidableEq
structure Cl where
  s : List UInt8
  w : Int
  y : Sty
  deriving DecidableEq
def Sty.zero : Sty := ⟨false, false, false, 0, 0⟩
def Sty.cells (y : Sty) : List Value := [.bool y.b, .bool y.u, .bool y.i, .int .i64 y.f, .int .i64 y.g]
def Cl.cells (c : Cl) : List Value := [.string ⟨c.s.toArray⟩, .int .i64 c.w, .bool c.y.b, .bool c.y.u, .bool c.y.i, .int .i64 c.y.f, .int .i64 c.y.g]
def bl : Cl := ⟨[32], 1, Sty.zero⟩
def tail_ (y : Sty) : Cl := ⟨[], 0, y⟩
def czero : Cl := ⟨[], 0, Sty.zero⟩
/-- cells in memory -/
def rc (l : List Cl) : List Value := l.flatMap Cl.cells
theorem Cl.len (c : Cl) : c.cells.length = 7 := rfl
theorem rc_nil : rc [] = [] := rfl
theorem rc_cons (c : Cl) (l : List Cl) : rc (c :: l) = c.cells ++ rc l := by simp [rc]
theorem rc_append (l m : List Cl) : rc (l ++ m) = rc l ++ rc m := by simp [rc]
theorem rc_length (l : List Cl) : (rc l).length = l.length * 7 := by
  induction l with
  | nil => rfl
  | cons c l ih => rw [rc_cons, List.length_append, ih, Cl.len]; simp; omega
theorem Cl.one (c : Cl) : ∀ v ∈ c.cells, v.oneCell' = true := by
  intro v hv
  simp [Cl.cells] at hv
  rcases hv with rfl | rfl | rfl | rfl | rfl | rfl | rfl <;> rfl
theorem rc_one (l : List Cl) : ∀ v ∈ rc l, v.oneCell' = true := by
  intro v hv
  obtain ⟨c, _, h⟩ := List.mem_flatMap.1 hv
  exact c.one v h
theorem rc_take (l : List Cl) (k : Nat) : (rc l).take (k * 7) = rc (l.take k) := by
  induction l generalizing k with
  | nil => simp [rc]
  | cons c l ih =>
    cases k with
    | zero => simp [rc]
    | succ k =>
      rw [List.take_succ_cons, rc_cons, rc_cons, ← ih k, List.take_append, Cl.len]
      rw [List.take_of_length_le (by rw [Cl.len]; omega)]
      congr 2
      omega
theorem rc_drop (l : List Cl) (k : Nat) : (rc l).drop (k * 7) = rc (l.drop k) := by
  induction l generalizing k with
  | nil => simp [rc]
  | cons c l ih =>
    cases k with
    | zero => simp [rc]
    | succ k =>
      rw [List.drop_succ_cons, rc_cons, ← ih k, List.drop_append, Cl.len, List.drop_eq_nil_of_le (by rw [Cl.len]; omega)]
      rw [List.nil_append]
      congr 1
      omega
theorem rc_get {l : List Cl} {k : Nat} {c : Cl} (h : l[k]? = some c) {j : Nat} {v : Value} (hv : c.cells[j]? = some v) : (rc l)[k * 7 + j]? = some v := by
  have hj : j < 7 := by have := (List.getElem?_eq_some_iff.1 hv).1; rw [Cl.len] at this; exact this
  have e : rc l = (rc l).take (k * 7) ++ (rc l).drop (k * 7) := (List.take_append_drop _ _).symm
  have hk : k < l.length := (List.getElem?_eq_some_iff.1 h).1
  have hd : l.drop k = c :: l.drop (k + 1) := by
    rw [List.drop_eq_getElem_cons hk]
    congr 1
    rw [List.getElem?_eq_getElem hk] at h
    injection h
  have hl : ((rc l).take (k * 7)).length = k * 7 := by rw [List.length_take, rc_length]; omega
  rw [e, List.getElem?_append_right (by rw [hl]; omega), hl, rc_drop, hd, rc_cons, List.getElem?_append_left (by rw [Cl.len]; omega)]
  rw [show k * 7 + j - k * 7 = j by omega]
  exact hv
theorem rc_splice (l : List Cl) (k : Nat) (c : Cl) (h : k < l.length) : splice (rc l) (k * 7) c.cells = rc (l.set k c) := by
  unfold splice
  rw [Cl.len, show k * 7 + 7 = (k + 1) * 7 by omega, rc_take, rc_drop, List.set_eq_take_append_cons_drop, if_pos h, rc_append, rc_cons]
theorem rc_splice_list (l m : List Cl) (k : Nat) : splice (rc l) (k * 7) (rc m) = rc (splice l k m) := by
  unfold splice
  rw [rc_length, show k * 7 + m.length * 7 = (k + m.length) * 7 by omega, rc_take, rc_drop, rc_append, rc_append]
theorem rc_inj {l m : List Cl} (h : rc l = rc m) : l = m := by
  induction l generalizing m with
  | nil =>
    cases m with
    | nil => rfl
    | cons d m => simp [rc, Cl.cells] at h
  | cons c l ih =>
    cases m with
    | nil => simp [rc, Cl.cells] at h
    | cons d m =>
      rw [rc_cons, rc_cons] at h
      obtain ⟨h1, h2⟩ := List.append_inj h (by simp [Cl.len])
      rw [ih h2]
      congr 1
      obtain ⟨s, w, ⟨b, u, i, f, g⟩⟩ := c
      obtain ⟨s', w', ⟨b', u', i', f', g'⟩⟩ := d
      simp [Cl.cells] at h1
      simp_all

/-- A position is blanked. -/
def blankM (l : List Cl) (k : Nat) : List Cl :=
  match l[k]? with
  | none => l
  | some c => ((if c.w = 2 then l.set (k + 1) bl else if c.w = 0 then l.set (k - 1) bl else l)).set k bl
theorem blankM_length (l : List Cl) (k : Nat) : (blankM l k).length = l.length := by
  unfold blankM
  split
  · rfl
  · split
    · simp
    · split <;> simp

/-- What a row of a grid is: each wide one has its tail behind it, each tail its wide one ahead; nothing else. -/
structure Wf (l : List Cl) : Prop where
  w : ∀ (i : Nat) (c : Cl), l[i]? = some c → c.w = 0 ∨ c.w = 1 ∨ c.w = 2
  wide : ∀ (i : Nat) (c : Cl), l[i]? = some c → c.w = 2 → l[i + 1]? = some (tail_ c.y)
  tail : ∀ (i : Nat) (c : Cl), l[i]? = some c → c.w = 0 → ∃ j d, i = j + 1 ∧ l[j]? = some d ∧ d.w = 2
  full : ∀ (i : Nat) (c : Cl), l[i]? = some c → c.w ≠ 0 → c.s ≠ []
  short : ∀ (i : Nat) (c : Cl), l[i]? = some c → c.s.length ≤ 64

/-- The positions of a row that lie between two others are blanked, the first one first. -/
def eraseM (l : List Cl) (k : Nat) : Nat → List Cl
  | 0 => l
  | n + 1 => eraseM (blankM l k) (k + 1) n
theorem eraseM_length (l : List Cl) (k n : Nat) : (eraseM l k n).length = l.length := by
  induction n generalizing l k with
  | zero => rfl
  | succ n ih => rw [eraseM, ih, blankM_length]
theorem eraseM_snoc (l : List Cl) (k n : Nat) : eraseM l k (n + 1) = blankM (eraseM l k n) (k + n) := by
  induction n generalizing l k with
  | zero => rfl
  | succ n ih =>
    show eraseM (blankM l k) (k + 1) (n + 1) = _
    rw [ih]
    rw [show k + 1 + n = k + (n + 1) by omega]
    rfl

/-- Behind the blanking of a position nothing hangs on it: it and what hung together with it are blanks. -/
theorem blankM_get {l : List Cl} (hl : Wf l) {k : Nat} {c : Cl} (hc : l[k]? = some c) (i : Nat) :
    (blankM l k)[i]? = if i = k then some bl else if c.w = 2 ∧ i = k + 1 then some bl else if c.w = 0 ∧ i + 1 = k then some bl else l[i]? := by
  have hk : k < l.length := (List.getElem?_eq_some_iff.1 hc).1
  have hw := hl.w k c hc
  unfold blankM
  rw [hc]
  simp only
  by_cases hik : i = k
  · subst hik
    rw [if_pos rfl, List.getElem?_set_self]
    rcases hw with h | h | h <;> simp [h] <;> omega
  · rw [if_neg hik, List.getElem?_set_ne (by omega)]
    rcases hw with h | h | h
    · obtain ⟨j, d, hj, hd, hdw⟩ := hl.tail k c hc h
      subst hj
      rw [if_neg (by omega), if_pos h, show j + 1 - 1 = j by omega]
      by_cases hij : i = j
      · subst hij; rw [List.getElem?_set_self (by omega)]; simp [h]
      · rw [List.getElem?_set_ne (by omega)]; simp [hij, h]
    · simp [h]
    · have := hl.wide k c hc h
      have hk1 : k + 1 < l.length := (List.getElem?_eq_some_iff.1 this).1
      rw [if_pos h]
      by_cases hij : i = k + 1
      · subst hij; rw [List.getElem?_set_self (by omega)]; simp [h]
      · rw [List.getElem?_set_ne (by omega)]; simp [hij, h]

theorem Wf.blank {l : List Cl} (hl : Wf l) (k : Nat) : Wf (blankM l k) := by
  cases hc : l[k]? with
  | none => unfold blankM; rw [hc]; exact hl
  | some c =>
    have hg := blankM_get hl hc
    have hblw : bl.w = 1 := rfl
    have hw := hl.w k c hc
    refine ⟨?_, ?_, ?_, ?_, ?_⟩
    · intro i d hd
      rw [hg] at hd
      split at hd
      · cases hd; simp [hblw]
      · split at hd
        · cases hd; simp [hblw]
        · split at hd
          · cases hd; simp [hblw]
          · exact hl.w i d hd
    · intro i d hd h2
      rw [hg] at hd
      split at hd
      · cases hd; simp [hblw] at h2
      · split at hd
        · cases hd; simp [hblw] at h2
        · split at hd
          · cases hd; simp [hblw] at h2
          · next h1 h3 h4 =>
            have ht := hl.wide i d hd h2
            rw [hg, if_neg, if_neg, if_neg]
            · exact ht
            · rintro ⟨h5, h6⟩
              obtain ⟨j, e, hj, he, hew⟩ := hl.tail k c hc h5
              have : j = i + 1 := by omega
              subst this
              rw [ht] at he; cases he; simp [tail_] at hew
            · rintro ⟨h5, h6⟩; omega
            · intro h5
              subst h5
              rw [ht] at hc
              cases hc
              exact h4 ⟨rfl, rfl⟩
    · intro i d hd h0
      rw [hg] at hd
      split at hd
      · cases hd; simp [hblw] at h0
      · split at hd
        · cases hd; simp [hblw] at h0
        · split at hd
          · cases hd; simp [hblw] at h0
          · next h1 h3 h4 =>
            obtain ⟨j, e, hj, he, hew⟩ := hl.tail i d hd h0
            refine ⟨j, e, hj, ?_, hew⟩
            rw [hg, if_neg, if_neg, if_neg]
            · exact he
            · rintro ⟨h5, h6⟩; omega
            · rintro ⟨h5, h6⟩
              have := hl.wide k c hc h5
              rw [← h6, he] at this
              cases this
              simp [tail_] at hew
            · intro h5
              subst h5
              rw [he] at hc; cases hc
              exact h3 ⟨hew, hj⟩
    · intro i d hd h0
      rw [hg] at hd
      split at hd
      · cases hd; simp [bl]
      · split at hd
        · cases hd; simp [bl]
        · split at hd
          · cases hd; simp [bl]
          · exact hl.full i d hd h0
    · intro i d hd
      rw [hg] at hd
      split at hd
      · cases hd; simp [bl]
      · split at hd
        · cases hd; simp [bl]
        · split at hd
          · cases hd; simp [bl]
          · exact hl.short i d hd
theorem Wf.erase {l : List Cl} (hl : Wf l) (k n : Nat) : Wf (eraseM l k n) := by
  induction n generalizing l k with
  | zero => exact hl
  | succ n ih => exact ih (hl.blank k) _

/-- Behind the blanking of a position it is a blank, and its neighbours hang on others. -/
theorem blankM_self {l : List Cl} (hl : Wf l) {k : Nat} (hk : k < l.length) : (blankM l k)[k]? = some bl := by
  have hc : l[k]? = some l[k] := List.getElem?_eq_getElem hk
  rw [blankM_get hl hc, if_pos rfl]

/-- A cell of one column takes a blank's place. -/
theorem Wf.set1 {l : List Cl} (hl : Wf l) {k : Nat} {c : Cl} (hb : ∃ d, l[k]? = some d ∧ d.w = 1) (hw : c.w = 1) (hs : c.s ≠ []) (h64 : c.s.length ≤ 64) : Wf (l.set k c) := by
  obtain ⟨b, hb, hbw⟩ := hb
  have hk : k < l.length := (List.getElem?_eq_some_iff.1 hb).1
  have hg : ∀ i : Nat, (l.set k c)[i]? = if i = k then some c else l[i]? := fun i => by
    by_cases h : i = k
    · subst h; simp [hk]
    · rw [if_neg h, List.getElem?_set_ne (by omega)]
  refine ⟨?_, ?_, ?_, ?_, ?_⟩
  · intro i d hd
    rw [hg] at hd
    split at hd
    · cases hd; exact .inr (.inl hw)
    · exact hl.w i d hd
  · intro i d hd h2
    rw [hg] at hd
    split at hd
    · cases hd; omega
    · have := hl.wide i d hd h2
      rw [hg, if_neg]
      · exact this
      · intro h; subst h; rw [this] at hb; cases hb; simp [tail_] at hbw
  · intro i d hd h0
    rw [hg] at hd
    split at hd
    · cases hd; omega
    · obtain ⟨j, e, hj, he, hew⟩ := hl.tail i d hd h0
      refine ⟨j, e, hj, ?_, hew⟩
      rw [hg, if_neg]
      · exact he
      · intro h; subst h; rw [he] at hb; cases hb; omega
  · intro i d hd h0
    rw [hg] at hd
    split at hd
    · cases hd; exact hs
    · exact hl.full i d hd h0
  · intro i d hd
    rw [hg] at hd
    split at hd
    · cases hd; exact h64
    · exact hl.short i d hd

/-- A wide cell and its tail take two blanks' places. -/
theorem Wf.set2 {l : List Cl} (hl : Wf l) {k : Nat} {s : List UInt8} {y : Sty} (hb : ∃ d, l[k]? = some d ∧ d.w = 1) (hb' : ∃ d, l[k + 1]? = some d ∧ d.w = 1) (hs : s ≠ []) (h64 : s.length ≤ 64) :
    Wf ((l.set k ⟨s, 2, y⟩).set (k + 1) (tail_ y)) := by
  obtain ⟨b, hb, hbw⟩ := hb
  obtain ⟨b', hb', hbw'⟩ := hb'
  have hk : k + 1 < l.length := (List.getElem?_eq_some_iff.1 hb').1
  have hg : ∀ i : Nat, ((l.set k ⟨s, 2, y⟩).set (k + 1) (tail_ y))[i]? = if i = k + 1 then some (tail_ y) else if i = k then some ⟨s, 2, y⟩ else l[i]? := fun i => by
    by_cases h : i = k + 1
    · subst h; simp [hk]
    · rw [if_neg h, List.getElem?_set_ne (by omega)]
      by_cases h' : i = k
      · subst h'; rw [if_pos rfl, List.getElem?_set_self (by omega)]
      · rw [if_neg h', List.getElem?_set_ne (by omega)]
  refine ⟨?_, ?_, ?_, ?_, ?_⟩
  · intro i d hd
    rw [hg] at hd
    split at hd
    · cases hd; exact .inl rfl
    · split at hd
      · cases hd; exact .inr (.inr rfl)
      · exact hl.w i d hd
  · intro i d hd h2
    rw [hg] at hd
    split at hd
    · cases hd; simp [tail_] at h2
    · split at hd
      · next h => cases hd; subst h; rw [hg, if_pos rfl]
      · have := hl.wide i d hd h2
        rw [hg, if_neg, if_neg]
        · exact this
        · intro h; subst h; rw [this] at hb; cases hb; simp [tail_] at hbw
        · intro h
          have : i = k := by omega
          contradiction
  · intro i d hd h0
    rw [hg] at hd
    split at hd
    · next h => exact ⟨k, ⟨s, 2, y⟩, h, by rw [hg, if_neg (by omega), if_pos rfl], rfl⟩
    · split at hd
      · cases hd; simp at h0
      · next h h' =>
        obtain ⟨j, e, hj, he, hew⟩ := hl.tail i d hd h0
        refine ⟨j, e, hj, ?_, hew⟩
        rw [hg, if_neg, if_neg]
        · exact he
        · intro h; subst h; rw [he] at hb; cases hb; omega
        · intro h; subst h; rw [he] at hb'; cases hb'; omega
  · intro i d hd h0
    rw [hg] at hd
    split at hd
    · cases hd; simp [tail_] at h0
    · split at hd
      · cases hd; exact hs
      · exact hl.full i d hd h0
  · intro i d hd
    rw [hg] at hd
    split at hd
    · cases hd; simp [tail_]
    · split at hd
      · cases hd; exact h64
      · exact hl.short i d hd

theorem Wf.blanks (n : Nat) : Wf (List.replicate n bl) := by
  have h : ∀ (i : Nat) (c : Cl), (List.replicate n bl)[i]? = some c → c = bl := fun i c hc => by
    rw [List.getElem?_replicate] at hc
    split at hc
    · cases hc; rfl
    · cases hc
  refine ⟨?_, ?_, ?_, ?_, ?_⟩
  · intro i c hc; rw [h i c hc]; exact .inr (.inl rfl)
  · intro i c hc h2; rw [h i c hc] at h2; simp [bl] at h2
  · intro i c hc h2; rw [h i c hc] at h2; simp [bl] at h2
  · intro i c hc h2; rw [h i c hc]; simp [bl]
  · intro i c hc; rw [h i c hc]; simp [bl]
end Go.Proofs.YtclkclamdnkdgaaDoor
