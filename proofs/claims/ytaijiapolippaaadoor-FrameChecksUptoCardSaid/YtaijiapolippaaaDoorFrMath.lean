/-
  Plain mathematics of frames: which rows may be, what a text and a fill make of a grid's rows.
-/
import Derived.Test.YtaijiapolippaaaDoorGfG
import Derived.Test.YtaijiapolippaaaDoorGfF
namespace Go.Proofs.YtaijiapolippaaaDoor
open Go.RowKit
set_option linter.unusedVariables false

def styB (y : Sty) : Bool := decide (0 ≤ y.f ∧ y.f ≤ 8 ∧ 0 ≤ y.g ∧ y.g ≤ 8)
def cellOk (c : Cl) : Bool := styB c.y && (isC c.s && decide (c.w = fw (rs c.s)))
/-- may a row be, from a cell on that is no tail, or is one of a style's? -/
def rowA : Option Sty → List Cl → Bool
  | none, [] => true
  | some _, [] => false
  | none, c :: l => cellOk c && rowA (if c.w = 2 then some c.y else none) l
  | some y, c :: l => decide (c = tail_ y) && rowA none l

theorem fisC_inv {l : List UInt8} (h : isC l = true) : ∃ c, wf c ∧ eb c = l := by
  unfold isC at h
  split at h
  · cases h
  · next c cs hc => exact ⟨c, cls_wf (rs_isR l) c (by rw [hc]; simp), by simpa using h⟩
theorem fisC_wf {c : List Int} (h : wf c) : isC (eb c) = true := by
  unfold isC
  rw [rs_wf h, cls_one h]
  simp
theorem wf_fw {c : List Int} (h : wf c) : 1 ≤ fw (rs (eb c)) ∧ fw (rs (eb c)) ≤ 2 := by
  rw [rs_wf h, fw_wf h]
  obtain ⟨b, ms, rfl, hb, _, _, hR⟩ := h
  exact ofI_base (hR b (by simp)) hb
theorem isC_fw {l : List UInt8} (h : isC l = true) : (1 ≤ fw (rs l) ∧ fw (rs l) ≤ 2) ∧ l ≠ [] ∧ l.length ≤ 64 := by
  obtain ⟨c, hc, rfl⟩ := fisC_inv h
  refine ⟨wf_fw hc, fun e => ?_, ?_⟩
  · have := eb_pos (wf_ne hc); rw [e] at this; simp at this
  · obtain ⟨b, ms, rfl, _, _, hl, _⟩ := hc; exact hl
theorem cellOk_w {c : Cl} (h : cellOk c = true) : c.w = 1 ∨ c.w = 2 := by
  unfold cellOk at h
  simp at h
  have := (isC_fw h.2.1).1
  omega

/-- Each cell of a row that is no tail may be. -/
def OkR (l : List Cl) : Prop := ∀ c ∈ l, c.w ≠ 0 → cellOk c = true
def OkL (L : List (List Cl)) : Prop := ∀ l ∈ L, OkR l
theorem isC_space : isC [32] = true := by decide +kernel
theorem fw_space : fw (rs [32]) = 1 := by decide +kernel
theorem cellOk_bl : cellOk bl = true := by decide +kernel
theorem OkR.set {l : List Cl} (h : OkR l) (k : Nat) {c : Cl} (hc : c.w ≠ 0 → cellOk c = true) : OkR (l.set k c) := fun d hd => by
  rcases List.mem_or_eq_of_mem_set hd with h1 | rfl
  · exact h d h1
  · exact hc
theorem OkR.blank {l : List Cl} (h : OkR l) (k : Nat) : OkR (blankM l k) := by
  unfold blankM
  split
  · exact h
  · refine OkR.set ?_ _ (fun _ => cellOk_bl)
    split
    · exact h.set _ (fun _ => cellOk_bl)
    · split
      · exact h.set _ (fun _ => cellOk_bl)
      · exact h
theorem OkR.erase {l : List Cl} (h : OkR l) (k n : Nat) : OkR (eraseM l k n) := by
  induction n generalizing l k with
  | zero => exact h
  | succ n ih => exact ih (h.blank k) _
theorem OkR.put {l : List Cl} (h : OkR l) (col m : Nat) (s : List UInt8) (y : Sty) (hm : m = 1 ∨ m = 2) (hy : styB y = true) (hs : isC s = true) (hw : (m : Int) = fw (rs s)) : OkR (putR l col s m y) := by
  have hc : ∀ k : Int, k = m → cellOk ⟨s, k, y⟩ = true := fun k e => by subst e; unfold cellOk; simp [hy, hs, hw]
  unfold putR
  split
  · exact ((h.erase _ _).set _ (fun _ => hc 2 (by omega))).set _ (fun h0 => absurd rfl h0)
  · exact (h.erase _ _).set _ (fun _ => hc 1 (by omega))
theorem OkL.set {L : List (List Cl)} (h : OkL L) (k : Nat) {l : List Cl} (hl : OkR l) : OkL (L.set k l) := fun d hd => by
  rcases List.mem_or_eq_of_mem_set hd with h1 | rfl
  · exact h d h1
  · exact hl
theorem OkL.getD {L : List (List Cl)} (h : OkL L) (k : Nat) : OkR (L.getD k []) := by
  by_cases hk : k < L.length
  · rw [show L.getD k [] = L[k] by simp [List.getD, hk]]
    exact h _ (List.getElem_mem hk)
  · rw [show L.getD k [] = [] by simp [List.getD, Nat.le_of_not_lt hk]]
    intro c hc
    cases hc
theorem OkL.put {L : List (List Cl)} (h : OkL L) (W : Nat) (row col : Int) (s : List UInt8) (m : Int) (y : Sty) (hy : styB y = true) (hs : isC s = true) (hw : m = fw (rs s)) : OkL (putM W L row col s m y).1 := by
  have h1 := (isC_fw hs).1
  unfold putM
  split
  · exact h
  · split
    · exact h
    · exact h.set _ ((h.getD _).put _ _ _ _ (by omega) hy hs (by omega))
theorem OkL.erase {L : List (List Cl)} (h : OkL L) (W : Nat) (row a z : Int) : OkL (eraseG W L row a z).1 := by
  unfold eraseG
  split
  · exact h
  · exact h.set _ ((h.getD _).erase _ _)
theorem OkL.blanks (W H : Nat) : OkL (blankG W H) := fun l hl => by
  rw [List.eq_of_mem_replicate hl]
  intro c hc _
  rw [List.eq_of_mem_replicate hc]
  exact cellOk_bl

/-- A row of a grid whose cells may be may be. -/
theorem rowA_drop {l : List Cl} (hf : Wf l) (ho : OkR l) : ∀ (n k : Nat), l.length - k = n → ((∀ c, l[k]? = some c → c.w ≠ 0) → rowA none (l.drop k) = true) ∧ (∀ c, 0 < k → l[k - 1]? = some c → c.w = 2 → rowA (some c.y) (l.drop k) = true) := by
  intro n
  induction n using Nat.strongRecOn with
  | ind n ih =>
    intro k hn
    have next : ∀ c, l[k]? = some c → rowA (if c.w = 2 then some c.y else none) (l.drop (k + 1)) = true ∨ c.w = 0 := by
      intro c hc
      have hk : k < l.length := (List.getElem?_eq_some_iff.1 hc).1
      rcases hf.w k c hc with h | h | h
      · exact .inr h
      · left
        rw [if_neg (by omega)]
        refine (ih (l.length - (k + 1)) (by omega) (k + 1) rfl).1 fun d hd h0 => ?_
        obtain ⟨j, e, hj, he, hew⟩ := hf.tail (k + 1) d hd h0
        have : j = k := by omega
        subst this
        rw [hc] at he; cases he; omega
      · left
        rw [if_pos h]
        exact (ih (l.length - (k + 1)) (by omega) (k + 1) rfl).2 c (by omega) (by simpa using hc) h
    refine ⟨fun h0 => ?_, fun c hk0 hc h2 => ?_⟩
    · by_cases hk : k < l.length
      · have hc : l[k]? = some l[k] := List.getElem?_eq_getElem hk
        rw [List.drop_eq_getElem_cons hk]
        simp only [rowA, Bool.and_eq_true]
        refine ⟨ho _ (List.getElem_mem hk) (h0 _ hc), ?_⟩
        rcases next _ hc with h | h
        · exact h
        · exact absurd h (h0 _ hc)
      · rw [List.drop_eq_nil_of_le (by omega)]
        rfl
    · have ht := hf.wide (k - 1) c hc h2
      rw [show k - 1 + 1 = k by omega] at ht
      have hk : k < l.length := (List.getElem?_eq_some_iff.1 ht).1
      have e : l[k] = tail_ c.y := by rw [List.getElem?_eq_getElem hk] at ht; injection ht
      rw [List.drop_eq_getElem_cons hk]
      simp only [rowA, Bool.and_eq_true]
      refine ⟨by simp [e], (ih (l.length - (k + 1)) (by omega) (k + 1) rfl).1 fun d hd h0 => ?_⟩
      obtain ⟨j, d', hj, hd', hw⟩ := hf.tail (k + 1) d hd h0
      have : j = k := by omega
      subst this
      rw [ht] at hd'; cases hd'; simp [tail_] at hw
theorem rowA_of {l : List Cl} (hf : Wf l) (ho : OkR l) : rowA none l = true := by
  have := (rowA_drop hf ho (l.length - 0) 0 rfl).1 fun c hc h0 => by
    obtain ⟨j, d, hj, _⟩ := hf.tail 0 c hc h0
    omega
  simpa using this

/-- what a text makes of a grid's rows: as long as the next cluster fits -/
def tst (W : Nat) (row : Int) (y : Sty) (q : (List (List Cl) × Int) × Bool) (c : List UInt8) : (List (List Cl) × Int) × Bool :=
  if q.2 = true then q else if (W : Int) - q.1.2 < fw (rs c) then (q.1, true) else (((putM W q.1.1 row q.1.2 c (fw (rs c)) y).1, q.1.2 + fw (rs c)), false)
def ftextM (W : Nat) (L : List (List Cl)) (row col : Int) (y : Sty) (cs : List (List UInt8)) : List (List Cl) × Int := (cs.foldl (tst W row y) ((L, col), false)).1
theorem tst_stop {W : Nat} {row : Int} {y : Sty} (cs : List (List UInt8)) : ∀ {q : (List (List Cl) × Int) × Bool}, q.2 = true → cs.foldl (tst W row y) q = q := by
  induction cs with
  | nil => intro q _; rfl
  | cons c cs ih => intro q h; rw [List.foldl_cons, show tst W row y q c = q by unfold tst; rw [if_pos h], ih h]

theorem fputM_length (W : Nat) (L : List (List Cl)) (row col : Int) (s : List UInt8) (m : Int) (y : Sty) : (putM W L row col s m y).1.length = L.length := by
  unfold putM
  split
  · rfl
  · split
    · rfl
    · simp
theorem feraseG_length (W : Nat) (L : List (List Cl)) (row a z : Int) : (eraseG W L row a z).1.length = L.length := by
  unfold eraseG
  split
  · rfl
  · simp
/-- Put takes a cluster just if the row has room for it. -/
theorem putM_code {W : Nat} {L : List (List Cl)} {row col : Int} {s : List UInt8} (y : Sty) (hs : isC s = true) (hr : 0 ≤ row ∧ row < L.length) (hc : 0 ≤ col ∧ col ≤ W) :
    ((W : Int) - col < fw (rs s) → (putM W L row col s (fw (rs s)) y).2 ≠ 0 ∧ (putM W L row col s (fw (rs s)) y).1 = L) ∧ (¬ (W : Int) - col < fw (rs s) → (putM W L row col s (fw (rs s)) y).2 = 0) := by
  obtain ⟨⟨h1, h2⟩, h3, h4⟩ := isC_fw hs
  have hn : ¬ (s = [] ∨ 64 < s.length ∨ (fw (rs s) ≠ 1 ∧ fw (rs s) ≠ 2)) := by
    rintro (h | h | ⟨h, h'⟩)
    · exact h3 h
    · omega
    · omega
  unfold putM
  rw [if_neg hn]
  refine ⟨fun h => ?_, fun h => ?_⟩
  · rw [if_pos (by
      by_cases hcw : col < W
      · right; simp [inB]; omega
      · left; simp [inB]; omega)]
    simp
  · rw [if_neg (by
      rintro (h' | h')
      · simp [inB] at h'; omega
      · simp [inB] at h'; omega)]
structure TxSt (W H : Nat) (q : (List (List Cl) × Int) × Bool) : Prop where
  len : q.1.1.length = H
  c0 : 0 ≤ q.1.2
  c1 : q.1.2 ≤ W
theorem TxSt.step {W H : Nat} {q : (List (List Cl) × Int) × Bool} (h : TxSt W H q) (row : Int) (y : Sty) {c : List UInt8} (hc : isC c = true) : TxSt W H (tst W row y q c) := by
  have hw := (isC_fw hc).1
  have h1 := h.c0
  have h2 := h.c1
  unfold tst
  split
  · exact h
  · split
    · exact ⟨h.len, h.c0, h.c1⟩
    · exact ⟨by rw [fputM_length]; exact h.len, by show 0 ≤ q.1.2 + _; omega, by show q.1.2 + _ ≤ _; omega⟩
theorem TxSt.fold {W H : Nat} (row : Int) (y : Sty) (cs : List (List UInt8)) : ∀ {q : (List (List Cl) × Int) × Bool}, TxSt W H q → (∀ c ∈ cs, isC c = true) → TxSt W H (cs.foldl (tst W row y) q) := by
  induction cs with
  | nil => intro q h _; exact h
  | cons c cs ih => intro q h hc; exact ih (h.step row y (hc c (by simp))) (fun d hd => hc d (by simp [hd]))
theorem tst_ok {W : Nat} (row : Int) (y : Sty) (hy : styB y = true) (cs : List (List UInt8)) : ∀ {q : (List (List Cl) × Int) × Bool}, OkL q.1.1 → (∀ c ∈ cs, isC c = true) → OkL (cs.foldl (tst W row y) q).1.1 := by
  induction cs with
  | nil => intro q h _; exact h
  | cons c cs ih =>
    intro q h hc
    rw [List.foldl_cons]
    refine ih ?_ (fun d hd => hc d (by simp [hd]))
    unfold tst
    split
    · exact h
    · split
      · exact h
      · exact h.put W row _ c _ y hy (hc c (by simp)) rfl
theorem ftextM_length {W : Nat} {L : List (List Cl)} {row col : Int} {y : Sty} {cs : List (List UInt8)} (h : 0 ≤ col ∧ col ≤ W) (hc : ∀ c ∈ cs, isC c = true) : (ftextM W L row col y cs).1.length = L.length ∧ 0 ≤ (ftextM W L row col y cs).2 ∧ (ftextM W L row col y cs).2 ≤ W := by
  have := TxSt.fold (W := W) (H := L.length) row y cs (q := ((L, col), false)) ⟨rfl, h.1, h.2⟩ hc
  exact ⟨this.len, this.c0, this.c1⟩
theorem ftextM_ok {W : Nat} {L : List (List Cl)} {row col : Int} {y : Sty} {cs : List (List UInt8)} (h : OkL L) (hy : styB y = true) (hc : ∀ c ∈ cs, isC c = true) : OkL (ftextM W L row col y cs).1 := tst_ok row y hy cs h hc

/-- blanks of a style in some columns of a row, one by one -/
def fillC (W : Nat) (L : List (List Cl)) (row a : Int) (y : Sty) : Nat → List (List Cl)
  | 0 => L
  | n + 1 => (putM W (fillC W L row a y n) row (a + n) [32] 1 y).1
theorem fillC_length (W : Nat) (L : List (List Cl)) (row a : Int) (y : Sty) (n : Nat) : (fillC W L row a y n).length = L.length := by
  induction n with
  | zero => rfl
  | succ n ih => rw [fillC, fputM_length, ih]
theorem fillC_ok {L : List (List Cl)} (W : Nat) (row a : Int) {y : Sty} (hy : styB y = true) (n : Nat) (h : OkL L) : OkL (fillC W L row a y n) := by
  induction n with
  | zero => exact h
  | succ n ih => exact ih.put W row _ [32] 1 y hy isC_space fw_space.symm
/-- how many columns a fill has -/
def fillN (W : Nat) (a z : Int) : Nat := (min z W - max a 0).toNat
def fillG (W : Nat) (L : List (List Cl)) (row a z : Int) (y : Sty) : List (List Cl) := fillC W (eraseG W L row a z).1 row (max a 0) y (fillN W a z)
theorem fillG_length (W : Nat) (L : List (List Cl)) (row a z : Int) (y : Sty) : (fillG W L row a z y).length = L.length := by unfold fillG; rw [fillC_length, feraseG_length]
theorem fillG_ok {L : List (List Cl)} (W : Nat) (row a z : Int) {y : Sty} (hy : styB y = true) (h : OkL L) : OkL (fillG W L row a z y) := fillC_ok W _ _ hy _ (h.erase _ _ _ _)
end Go.Proofs.YtaijiapolippaaaDoor
