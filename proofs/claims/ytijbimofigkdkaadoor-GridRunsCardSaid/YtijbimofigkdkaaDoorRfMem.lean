/-
  The reference's grids as they lie in memory; what its operations do to rows, as plain lists.
-/
import Derived.Test.YtijbimofigkdkaaDoorGrScroll
import Derived.Test.YtijbimofigkdkaaDoorGrOps
import Derived.Test.YtijbimofigkdkaaDoorGrText
import Derived.Test.YtijbimofigkdkaaDoorGrRow
namespace Go.Proofs.YtijbimofigkdkaaDoor
open Go.RowKit
set_option linter.unusedVariables false
set_option linter.unusedSimpArgs false

/-- What a slice shows, in a block of D. -/
def SlD (w : World) (D : Nat → Prop) (A : Option Addr) (xs : List Value) : Prop :=
  xs = [] ∨ ∃ b off, A = some ⟨b, off, none⟩ ∧ b < w.heap.size ∧ D b ∧ ∀ (j : Nat) u, xs[j]? = some u → w.cell? ⟨b, off + j, none⟩ = some u
namespace SlD
variable {w w' : World} {D D' : Nat → Prop} {A : Option Addr} {xs : List Value}
theorem empty : SlD w D A [] := .inl rfl
theorem sl (h : SlD w D A xs) : Sl w w.heap.size A xs := by
  rcases h with rfl | ⟨b, off, hA, hb, _, hc⟩
  · exact .inl rfl
  · exact .inr ⟨b, off, hA, hb, hc⟩
theorem chg {S : Nat → Prop} (h : SlD w D A xs) (hc : Chg S w w') (hn : ∀ b, b < w.heap.size → D b → ¬ S b) : SlD w' D A xs := by
  rcases h with rfl | ⟨b, off, hA, hb, hd, hx⟩
  · exact .inl rfl
  · exact .inr ⟨b, off, hA, Nat.lt_of_lt_of_le hb hc.size, hd, fun j u hu => hc.cell (p := ⟨b, off + j, none⟩) (hx j u hu) (hn b hb hd)⟩
theorem below (h : SlD w D A xs) (hb : Below w.heap.size w w') : SlD w' D A xs := h.chg (Chg.of_below (S := noB) hb) (fun _ _ _ h => h)
theorem mono (h : SlD w D A xs) (hd : ∀ b, b < w.heap.size → D b → D' b) : SlD w D' A xs := by
  rcases h with rfl | ⟨b, off, hA, hb, h2, hx⟩
  · exact .inl rfl
  · exact .inr ⟨b, off, hA, hb, hd b hb h2, hx⟩
theorem any (h : SlD w D A xs) : SlD w (fun _ => True) A xs := h.mono (fun _ _ _ => trivial)
theorem of_sl {B : Nat} (h : Sl w B A xs) (hB : B ≤ w.heap.size) : SlD w (fun _ => True) A xs := by
  rcases h with rfl | ⟨b, off, hA, hb, hx⟩
  · exact .inl rfl
  · exact .inr ⟨b, off, hA, by omega, trivial, hx⟩
theorem own {base n c size : Nat} {e : TypeId} (h : w.ownsRow base e size (.slice A n c) n xs) : SlD w (fun b => base ≤ b) A xs := by
  rcases h with ⟨hl, ⟨hv, rfl⟩ | ⟨g, cap, cur, hv, hb, hh, hn, hc, hcur, ht⟩⟩
  · have : xs = [] := List.eq_nil_of_length_eq_zero (by simpa using hl)
    exact .inl this
  · injection hv with hA _ _
    subst hA
    refine .inr ⟨g, 0, rfl, (Array.getElem?_eq_some_iff.1 hh).1, hb, fun j u hu => ?_⟩
    rw [← ht, List.getElem?_take] at hu
    split at hu
    · simp [World.cell?, hh]
      simpa using hu
    · cases hu
/-- What is left behind the first k. -/
theorem drop (h : SlD w D A xs) {k cap : Nat} (hc : xs.length ≤ cap) : SlD w D (if cap = k then A else A.map (·.add k)) (xs.drop k) := by
  rcases Nat.lt_or_ge k xs.length with hk | hk
  · rcases h with rfl | ⟨b, off, rfl, hb, hd, hx⟩
    · simp at hk
    · rw [if_neg (by omega)]
      refine .inr ⟨b, off + k, ?_, hb, hd, fun j u hu => ?_⟩
      · by_cases h0 : k = 0 <;> simp [Addr.add, h0]
      · rw [List.getElem?_drop] at hu
        rw [Nat.add_assoc]
        exact hx _ u hu
  · rw [List.drop_eq_nil_of_le hk]
    exact .inl rfl
theorem take (h : SlD w D A xs) (k : Nat) : SlD w D A (xs.take k) := by
  rcases h with rfl | ⟨b, off, hA, hb, hd, hx⟩
  · simp [SlD]
  · refine .inr ⟨b, off, hA, hb, hd, fun j u hu => hx j u ?_⟩
    rw [List.getElem?_take] at hu
    split at hu
    · exact hu
    · cases hu
theorem open_ (h : SlD w D A xs) (hn : 0 < xs.length) : ∃ b off, A = some ⟨b, off, none⟩ ∧ b < w.heap.size ∧ D b ∧ ∀ (j : Nat) u, xs[j]? = some u → w.cell? ⟨b, off + j, none⟩ = some u := by
  rcases h with rfl | h
  · simp at hn
  · exact h
end SlD

/-- A row's slice stands for its cells. -/
def RowD (w : World) (D : Nat → Prop) (v : Value) (l : List Cl) : Prop := ∃ A c, v = .slice A l.length c ∧ ((A = none → c = 0) ∧ l.length ≤ c) ∧ SlD w D A (rc l)
namespace RowD
variable {w w' : World} {D D' : Nat → Prop} {v : Value} {l : List Cl}
theorem chg {S : Nat → Prop} (h : RowD w D v l) (hc : Chg S w w') (hn : ∀ b, b < w.heap.size → D b → ¬ S b) : RowD w' D v l := by
  obtain ⟨A, c, h1, h2, h3⟩ := h
  exact ⟨A, c, h1, h2, h3.chg hc hn⟩
theorem below (h : RowD w D v l) (hb : Below w.heap.size w w') : RowD w' D v l := h.chg (Chg.of_below (S := noB) hb) (fun _ _ _ h => h)
theorem mono (h : RowD w D v l) (hd : ∀ b, b < w.heap.size → D b → D' b) : RowD w D' v l := by
  obtain ⟨A, c, h1, h2, h3⟩ := h
  exact ⟨A, c, h1, h2, h3.mono hd⟩
theorem one (h : RowD w D v l) : v.oneCell' = true := by
  obtain ⟨A, c, rfl, _⟩ := h
  rfl
end RowD
/-- The rows' slices stand for the rows. -/
def RowsD (w : World) (D : Nat → Prop) (vs : List Value) (L : List (List Cl)) : Prop := vs.length = L.length ∧ ∀ (i : Nat) v l, vs[i]? = some v → L[i]? = some l → RowD w D v l
namespace RowsD
variable {w w' : World} {D D' : Nat → Prop} {vs us : List Value} {L M : List (List Cl)}
theorem chg {S : Nat → Prop} (h : RowsD w D vs L) (hc : Chg S w w') (hn : ∀ b, b < w.heap.size → D b → ¬ S b) : RowsD w' D vs L := ⟨h.1, fun i v l hv hl => (h.2 i v l hv hl).chg hc hn⟩
theorem below (h : RowsD w D vs L) (hb : Below w.heap.size w w') : RowsD w' D vs L := h.chg (Chg.of_below (S := noB) hb) (fun _ _ _ h => h)
theorem mono (h : RowsD w D vs L) (hd : ∀ b, b < w.heap.size → D b → D' b) : RowsD w D' vs L := ⟨h.1, fun i v l hv hl => (h.2 i v l hv hl).mono hd⟩
theorem one (h : RowsD w D vs L) : ∀ v ∈ vs, v.oneCell' = true := by
  intro v hv
  obtain ⟨i, hi⟩ := List.getElem?_of_mem hv
  have hi' := (List.getElem?_eq_some_iff.1 hi).1
  have hl : L[i]? = some (L[i]'(by rw [← h.1]; exact hi')) := List.getElem?_eq_getElem _
  exact (h.2 i v _ hi hl).one
theorem nil : RowsD w D [] [] := ⟨rfl, fun i v l hv => by simp at hv⟩
theorem append (h : RowsD w D vs L) (k : RowsD w D us M) : RowsD w D (vs ++ us) (L ++ M) := by
  refine ⟨by simp [h.1, k.1], fun i v l hv hl => ?_⟩
  by_cases hi : i < vs.length
  · rw [List.getElem?_append_left hi] at hv
    rw [List.getElem?_append_left (by rw [← h.1]; exact hi)] at hl
    exact h.2 i v l hv hl
  · rw [List.getElem?_append_right (by omega)] at hv
    rw [List.getElem?_append_right (by rw [← h.1]; omega), ← h.1] at hl
    exact k.2 _ v l hv hl
theorem single {v : Value} {l : List Cl} (h : RowD w D v l) : RowsD w D [v] [l] := by
  refine ⟨rfl, fun i u m hu hm => ?_⟩
  cases i with
  | zero =>
    simp at hu hm
    subst hu hm
    exact h
  | succ i => simp at hu
theorem snoc {v : Value} {l : List Cl} (h : RowsD w D vs L) (k : RowD w D v l) : RowsD w D (vs ++ [v]) (L ++ [l]) := h.append (.single k)
theorem drop (h : RowsD w D vs L) (k : Nat) : RowsD w D (vs.drop k) (L.drop k) := by
  refine ⟨by simp [h.1], fun i v l hv hl => ?_⟩
  rw [List.getElem?_drop] at hv hl
  exact h.2 _ v l hv hl
theorem set {v : Value} {l : List Cl} (h : RowsD w D vs L) (k : Nat) (hr : RowD w D v l) : RowsD w D (vs.set k v) (L.set k l) := by
  refine ⟨by simp [h.1], fun i u m hu hm => ?_⟩
  by_cases hi : k = i
  · subst hi
    rw [List.getElem?_set] at hu hm
    simp only [if_pos] at hu hm
    split at hu
    · split at hm
      · injection hu with hu
        injection hm with hm
        subst hu hm
        exact hr
      · cases hm
    · cases hu
  · rw [List.getElem?_set_ne hi] at hu hm
    exact h.2 i u m hu hm
theorem get (h : RowsD w D vs L) {k : Nat} {l : List Cl} (hl : L[k]? = some l) : ∃ v, vs[k]? = some v ∧ RowD w D v l := by
  have hk : k < vs.length := by rw [h.1]; exact (List.getElem?_eq_some_iff.1 hl).1
  exact ⟨_, List.getElem?_eq_getElem hk, h.2 k _ l (List.getElem?_eq_getElem hk) hl⟩
end RowsD
/-- A reference's rows: what a slice of rows shows. -/
def RfAt (w : World) (D : Nat → Prop) (A : Option Addr) (c : Nat) (L : List (List Cl)) : Prop := (A = none → c = 0) ∧ L.length ≤ c ∧ ∃ vs, SlD w D A vs ∧ RowsD w D vs L
namespace RfAt
variable {w w' : World} {D D' : Nat → Prop} {A : Option Addr} {c : Nat} {L : List (List Cl)}
theorem chg {S : Nat → Prop} (h : RfAt w D A c L) (hc : Chg S w w') (hn : ∀ b, b < w.heap.size → D b → ¬ S b) : RfAt w' D A c L := by
  obtain ⟨h1, h0, vs, h2, h3⟩ := h
  exact ⟨h1, h0, vs, h2.chg hc hn, h3.chg hc hn⟩
theorem below (h : RfAt w D A c L) (hb : Below w.heap.size w w') : RfAt w' D A c L := h.chg (Chg.of_below (S := noB) hb) (fun _ _ _ h => h)
theorem mono (h : RfAt w D A c L) (hd : ∀ b, b < w.heap.size → D b → D' b) : RfAt w D' A c L := by
  obtain ⟨h1, h0, vs, h2, h3⟩ := h
  exact ⟨h1, h0, vs, h2.mono hd, h3.mono hd⟩
theorem drewN (h : RfAt w D A c L) (n : Nat) : RfAt (w.drewN n) D A c L := h.below (below_drewN w n)
/-- a row of it -/
theorem at_ (h : RfAt w D A c L) {i : Nat} {l : List Cl} (hl : L[i]? = some l) : ∃ b off Ai ci, A = some ⟨b, off, none⟩ ∧ b < w.heap.size ∧ w.cell? ⟨b, off + i, none⟩ = some (.slice Ai l.length ci) ∧ ((Ai = none → ci = 0) ∧ l.length ≤ ci) ∧ SlD w D Ai (rc l) := by
  obtain ⟨_, _, vs, h2, h3⟩ := h
  obtain ⟨v, hv, Ai, ci, rfl, h4, h5⟩ := h3.get hl
  obtain ⟨b, off, rfl, hb, _, hx⟩ := h2.open_ (by have := (List.getElem?_eq_some_iff.1 hv).1; omega)
  exact ⟨b, off, Ai, ci, rfl, hb, hx i _ hv, h4, h5⟩
end RfAt

/-- A position is blanked, as the reference has it. -/
theorem blank_ref (l : List Cl) (k : Nat) (c : Cl) (hc : l[k]? = some c) : blankM l k = if c.w = 2 ∧ k + 1 < l.length then (l.set k bl).set (k + 1) bl else if c.w = 0 ∧ 0 < k then (l.set k bl).set (k - 1) bl else l.set k bl := by
  unfold blankM
  rw [hc]
  simp only
  by_cases h2 : c.w = 2
  · rw [if_pos h2]
    by_cases hk : k + 1 < l.length
    · rw [if_pos ⟨h2, hk⟩, List.set_comm _ _ (by omega)]
    · rw [if_neg (by omega), if_neg (by omega), List.set_eq_of_length_le (i := k + 1) (by omega)]
  · rw [if_neg h2, if_neg (by omega : ¬ (c.w = 2 ∧ k + 1 < l.length))]
    by_cases h0 : c.w = 0
    · rw [if_pos h0]
      by_cases hk : 0 < k
      · rw [if_pos ⟨h0, hk⟩, List.set_comm _ _ (by omega)]
      · rw [if_neg (by omega)]
        obtain rfl : k = 0 := by omega
        rw [show 0 - 1 = 0 from rfl, List.set_set]
    · rw [if_neg h0, if_neg (by omega)]

/-- A row's cells in so many columns. -/
def fitM (l : List Cl) (W : Nat) : List Cl :=
  let o := l.take W
  (match o[o.length - 1]? with | none => o | some c => if c.w = 2 then o.set (o.length - 1) bl else o) ++ List.replicate (W - o.length) bl
theorem fitM_length (l : List Cl) (W : Nat) : (fitM l W).length = W := by
  unfold fitM
  simp only [List.length_append, List.length_replicate]
  split
  · rw [List.length_take]; omega
  · split
    · rw [List.length_set, List.length_take]; omega
    · rw [List.length_take]; omega
/-- the first row that stays -/
def topM (row : Int) (h : Int) : Nat := (max 0 (row + 1 - h)).toNat
/-- the rows that stay, and new ones -/
def resizeM (L : List (List Cl)) (W H : Nat) (row : Int) : List (List Cl) :=
  let kept := (L.drop (topM row H)).take H
  kept.map (fitM · W) ++ List.replicate (H - kept.length) (List.replicate W bl)
end Go.Proofs.YtijbimofigkdkaaDoor
