/-
  Small lemmas of layer 4's texts for programs without its law's functions.
  The reference's grids as they lie in memory; what its operations do to rows, as plain lists.
  Rows of the call's own that are written in place: as blocks known whole.
  Walks: the reference's set, blank, blanks (rows of cells).
  Walks: the reference's There, Cell, Cells, Text, with.
  Walk: the reference's Put.
  Walk: the reference's Put, where there is room.
  Walks: the reference's Put whatever comes; Erase.
  Walk: the reference's Scroll.
  Walks: the reference's fit; New.
  Walks: the reference's Size, New. A grid that is being built row by row.
  Walk: the reference's Resize.
  Walk: the reference's Join.
-/
import Derived.Test.YtfmkeeaenjeneaaGreatDoorGfG
import Derived.Deep.RegionHeld3
import Derived.Deep.DeepCutAuto
import Derived.BigRegion
import Derived.Deep.QuietTactic
import Derived.BigQuiet
import Derived.Test.YtfmkeeaenjeneaaGreatDoorQuietB
import Derived.Test.YtfmkeeaenjeneaaGreatDoorGfA
import Derived.Deep.AppendLies
namespace Go.Proofs.YtfmkeeaenjeneaaGreatDoor
open Go.RowKit
set_option linter.unusedVariables false
set_option linter.unusedSimpArgs false

theorem Blk.whole {w : World} {g : Nat} {t : TypeId} {cs : List Value} (h : Blk w g t cs) : w.rangeAt g 0 cs := h.range 0 cs (fun j v hv => by rw [Nat.zero_add]; exact hv)
theorem set_one {l : List Value} {i : Nat} {u : Value} (h : ∀ v ∈ l, v.oneCell' = true) (hu : u.oneCell' = true) : ∀ v ∈ l.set i u, v.oneCell' = true := fun v hv => by
  rcases List.mem_or_eq_of_mem_set hv with h1 | h1
  · exact h v h1
  · rw [h1]; exact hu
theorem blk7 {w : World} {b : Nat} {t : TypeId} {c : Cl} (h : Blk w b t c.cells) : w.cell? ⟨b, 0, none⟩ = some (.string ⟨c.s.toArray⟩) ∧ w.cell? ⟨b, 1, none⟩ = some (.int .i64 c.w) ∧ w.cell? ⟨b, 2, none⟩ = some (.bool c.y.b) ∧ w.cell? ⟨b, 3, none⟩ = some (.bool c.y.u) ∧ w.cell? ⟨b, 4, none⟩ = some (.bool c.y.i) ∧ w.cell? ⟨b, 5, none⟩ = some (.int .i64 c.y.f) ∧ w.cell? ⟨b, 6, none⟩ = some (.int .i64 c.y.g) :=
  ⟨h.cell 0, h.cell 1, h.cell 2, h.cell 3, h.cell 4, h.cell 5, h.cell 6⟩
theorem putM_length (W : Nat) (L : List (List Cl)) (row col : Int) (s : List UInt8) (m : Int) (y : Sty) : (putM W L row col s m y).1.length = L.length := by
  unfold putM
  split
  · rfl
  · split
    · rfl
    · simp
theorem joinM_length (W : Nat) (L : List (List Cl)) (row col : Int) (s : List UInt8) : (joinM W L row col s).1.length = L.length := by
  unfold joinM
  split <;> simp
theorem eraseG_length (W : Nat) (L : List (List Cl)) (row a z : Int) : (eraseG W L row a z).1.length = L.length := by
  unfold eraseG
  split <;> simp
theorem cellB_nat (L : List (List Cl)) (i j : Nat) : cellB L i j = match L[i]? with | none => (czero, false) | some l => match l[j]? with | none => (czero, false) | some c => (c, true) := by
  unfold cellB
  rw [if_pos ⟨by omega, by omega⟩]
  rfl
end Go.Proofs.YtfmkeeaenjeneaaGreatDoor

namespace Go.Proofs.YtfmkeeaenjeneaaGreatDoor
open Go.RowKit
set_option linter.unusedVariables false
set_option linter.unusedSimpArgs false

/-- What a slice shows, in a block of D. -/
def SlD (w : World) (D : Nat → Prop) (A : Option Addr) (xs : List Value) : Prop :=
  xs = [] ∨ ∃ b off, A = some ⟨b, off, none⟩ ∧ b < w.heap.size ∧ D b ∧ ∀ (j : Nat) u, xs[j]? = some u → w.cell? ⟨b, off + j, none⟩ = some u
namespace SlD
variable {w w' : World} {D D' : Nat → Prop} {A : Option Addr} {xs : List Value}
theorem empty : SlD w D A [] := .inl rfl
theorem sl (h : SlD w D A xs) : Sl w w.heap.size A xs := by
  rcases h with rfl | ⟨b, off, hA, hb, _, hc⟩
  · exact .inl rfl
  · exact .inr ⟨b, off, hA, hb, hc⟩
theorem chg {S : Nat → Prop} (h : SlD w D A xs) (hc : Chg S w w') (hn : ∀ b, b < w.heap.size → D b → ¬ S b) : SlD w' D A xs := by
  rcases h with rfl | ⟨b, off, hA, hb, hd, hx⟩
  · exact .inl rfl
  · exact .inr ⟨b, off, hA, Nat.lt_of_lt_of_le hb hc.size, hd, fun j u hu => hc.cell (p := ⟨b, off + j, none⟩) (hx j u hu) (hn b hb hd)⟩
theorem below (h : SlD w D A xs) (hb : Below w.heap.size w w') : SlD w' D A xs := h.chg (Chg.of_below (S := noB) hb) (fun _ _ _ h => h)
theorem mono (h : SlD w D A xs) (hd : ∀ b, b < w.heap.size → D b → D' b) : SlD w D' A xs := by
  rcases h with rfl | ⟨b, off, hA, hb, h2, hx⟩
  · exact .inl rfl
  · exact .inr ⟨b, off, hA, hb, hd b hb h2, hx⟩
theorem any (h : SlD w D A xs) : SlD w (fun _ => True) A xs := h.mono (fun _ _ _ => trivial)
theorem of_sl {B : Nat} (h : Sl w B A xs) (hB : B ≤ w.heap.size) : SlD w (fun _ => True) A xs := by
  rcases h with rfl | ⟨b, off, hA, hb, hx⟩
  · exact .inl rfl
  · exact .inr ⟨b, off, hA, by omega, trivial, hx⟩
theorem own {base n c size : Nat} {e : TypeId} (h : w.ownsRow base e size (.slice A n c) n xs) : SlD w (fun b => base ≤ b) A xs := by
  rcases h with ⟨hl, ⟨hv, rfl⟩ | ⟨g, cap, cur, hv, hb, hh, hn, hc, hcur, ht⟩⟩
  · have : xs = [] := List.eq_nil_of_length_eq_zero (by simpa using hl)
    exact .inl this
  · injection hv with hA _ _
    subst hA
    refine .inr ⟨g, 0, rfl, (Array.getElem?_eq_some_iff.1 hh).1, hb, fun j u hu => ?_⟩
    rw [← ht, List.getElem?_take] at hu
    split at hu
    · simp [World.cell?, hh]
      simpa using hu
    · cases hu
/-- What is left behind the first k. -/
theorem drop (h : SlD w D A xs) {k cap : Nat} (hc : xs.length ≤ cap) : SlD w D (if cap = k then A else A.map (·.add k)) (xs.drop k) := by
  rcases Nat.lt_or_ge k xs.length with hk | hk
  · rcases h with rfl | ⟨b, off, rfl, hb, hd, hx⟩
    · simp at hk
    · rw [if_neg (by omega)]
      refine .inr ⟨b, off + k, ?_, hb, hd, fun j u hu => ?_⟩
      · by_cases h0 : k = 0 <;> simp [Addr.add, h0]
      · rw [List.getElem?_drop] at hu
        rw [Nat.add_assoc]
        exact hx _ u hu
  · rw [List.drop_eq_nil_of_le hk]
    exact .inl rfl
theorem take (h : SlD w D A xs) (k : Nat) : SlD w D A (xs.take k) := by
  rcases h with rfl | ⟨b, off, hA, hb, hd, hx⟩
  · simp [SlD]
  · refine .inr ⟨b, off, hA, hb, hd, fun j u hu => hx j u ?_⟩
    rw [List.getElem?_take] at hu
    split at hu
    · exact hu
    · cases hu
theorem open_ (h : SlD w D A xs) (hn : 0 < xs.length) : ∃ b off, A = some ⟨b, off, none⟩ ∧ b < w.heap.size ∧ D b ∧ ∀ (j : Nat) u, xs[j]? = some u → w.cell? ⟨b, off + j, none⟩ = some u := by
  rcases h with rfl | h
  · simp at hn
  · exact h
end SlD

/-- A row's slice stands for its cells. -/
def RowD (w : World) (D : Nat → Prop) (v : Value) (l : List Cl) : Prop := ∃ A c, v = .slice A l.length c ∧ ((A = none → c = 0) ∧ l.length ≤ c) ∧ SlD w D A (rc l)
namespace RowD
variable {w w' : World} {D D' : Nat → Prop} {v : Value} {l : List Cl}
theorem chg {S : Nat → Prop} (h : RowD w D v l) (hc : Chg S w w') (hn : ∀ b, b < w.heap.size → D b → ¬ S b) : RowD w' D v l := by
  obtain ⟨A, c, h1, h2, h3⟩ := h
  exact ⟨A, c, h1, h2, h3.chg hc hn⟩
theorem below (h : RowD w D v l) (hb : Below w.heap.size w w') : RowD w' D v l := h.chg (Chg.of_below (S := noB) hb) (fun _ _ _ h => h)
theorem mono (h : RowD w D v l) (hd : ∀ b, b < w.heap.size → D b → D' b) : RowD w D' v l := by
  obtain ⟨A, c, h1, h2, h3⟩ := h
  exact ⟨A, c, h1, h2, h3.mono hd⟩
theorem one (h : RowD w D v l) : v.oneCell' = true := by
  obtain ⟨A, c, rfl, _⟩ := h
  rfl
end RowD
/-- The rows' slices stand for the rows. -/
def RowsD (w : World) (D : Nat → Prop) (vs : List Value) (L : List (List Cl)) : Prop := vs.length = L.length ∧ ∀ (i : Nat) v l, vs[i]? = some v → L[i]? = some l → RowD w D v l
namespace RowsD
variable {w w' : World} {D D' : Nat → Prop} {vs us : List Value} {L M : List (List Cl)}
theorem chg {S : Nat → Prop} (h : RowsD w D vs L) (hc : Chg S w w') (hn : ∀ b, b < w.heap.size → D b → ¬ S b) : RowsD w' D vs L := ⟨h.1, fun i v l hv hl => (h.2 i v l hv hl).chg hc hn⟩
theorem below (h : RowsD w D vs L) (hb : Below w.heap.size w w') : RowsD w' D vs L := h.chg (Chg.of_below (S := noB) hb) (fun _ _ _ h => h)
theorem mono (h : RowsD w D vs L) (hd : ∀ b, b < w.heap.size → D b → D' b) : RowsD w D' vs L := ⟨h.1, fun i v l hv hl => (h.2 i v l hv hl).mono hd⟩
theorem one (h : RowsD w D vs L) : ∀ v ∈ vs, v.oneCell' = true := by
  intro v hv
  obtain ⟨i, hi⟩ := List.getElem?_of_mem hv
  have hi' := (List.getElem?_eq_some_iff.1 hi).1
  have hl : L[i]? = some (L[i]'(by rw [← h.1]; exact hi')) := List.getElem?_eq_getElem _
  exact (h.2 i v _ hi hl).one
theorem nil : RowsD w D [] [] := ⟨rfl, fun i v l hv => by simp at hv⟩
theorem append (h : RowsD w D vs L) (k : RowsD w D us M) : RowsD w D (vs ++ us) (L ++ M) := by
  refine ⟨by simp [h.1, k.1], fun i v l hv hl => ?_⟩
  by_cases hi : i < vs.length
  · rw [List.getElem?_append_left hi] at hv
    rw [List.getElem?_append_left (by rw [← h.1]; exact hi)] at hl
    exact h.2 i v l hv hl
  · rw [List.getElem?_append_right (by omega)] at hv
    rw [List.getElem?_append_right (by rw [← h.1]; omega), ← h.1] at hl
    exact k.2 _ v l hv hl
theorem single {v : Value} {l : List Cl} (h : RowD w D v l) : RowsD w D [v] [l] := by
  refine ⟨rfl, fun i u m hu hm => ?_⟩
  cases i with
  | zero =>
    simp at hu hm
    subst hu hm
    exact h
  | succ i => simp at hu
theorem snoc {v : Value} {l : List Cl} (h : RowsD w D vs L) (k : RowD w D v l) : RowsD w D (vs ++ [v]) (L ++ [l]) := h.append (.single k)
theorem drop (h : RowsD w D vs L) (k : Nat) : RowsD w D (vs.drop k) (L.drop k) := by
  refine ⟨by simp [h.1], fun i v l hv hl => ?_⟩
  rw [List.getElem?_drop] at hv hl
  exact h.2 _ v l hv hl
theorem set {v : Value} {l : List Cl} (h : RowsD w D vs L) (k : Nat) (hr : RowD w D v l) : RowsD w D (vs.set k v) (L.set k l) := by
  refine ⟨by simp [h.1], fun i u m hu hm => ?_⟩
  by_cases hi : k = i
  · subst hi
    rw [List.getElem?_set] at hu hm
    simp only [if_pos] at hu hm
    split at hu
    · split at hm
      · injection hu with hu
        injection hm with hm
        subst hu hm
        exact hr
      · cases hm
    · cases hu
  · rw [List.getElem?_set_ne hi] at hu hm
    exact h.2 i u m hu hm
theorem get (h : RowsD w D vs L) {k : Nat} {l : List Cl} (hl : L[k]? = some l) : ∃ v, vs[k]? = some v ∧ RowD w D v l := by
  have hk : k < vs.length := by rw [h.1]; exact (List.getElem?_eq_some_iff.1 hl).1
  exact ⟨_, List.getElem?_eq_getElem hk, h.2 k _ l (List.getElem?_eq_getElem hk) hl⟩
end RowsD
/-- A reference's rows: what a slice of rows shows. -/
def RfAt (w : World) (D : Nat → Prop) (A : Option Addr) (c : Nat) (L : List (List Cl)) : Prop := (A = none → c = 0) ∧ L.length ≤ c ∧ ∃ vs, SlD w D A vs ∧ RowsD w D vs L
namespace RfAt
variable {w w' : World} {D D' : Nat → Prop} {A : Option Addr} {c : Nat} {L : List (List Cl)}
theorem chg {S : Nat → Prop} (h : RfAt w D A c L) (hc : Chg S w w') (hn : ∀ b, b < w.heap.size → D b → ¬ S b) : RfAt w' D A c L := by
  obtain ⟨h1, h0, vs, h2, h3⟩ := h
  exact ⟨h1, h0, vs, h2.chg hc hn, h3.chg hc hn⟩
theorem below (h : RfAt w D A c L) (hb : Below w.heap.size w w') : RfAt w' D A c L := h.chg (Chg.of_below (S := noB) hb) (fun _ _ _ h => h)
theorem mono (h : RfAt w D A c L) (hd : ∀ b, b < w.heap.size → D b → D' b) : RfAt w D' A c L := by
  obtain ⟨h1, h0, vs, h2, h3⟩ := h
  exact ⟨h1, h0, vs, h2.mono hd, h3.mono hd⟩
theorem drewN (h : RfAt w D A c L) (n : Nat) : RfAt (w.drewN n) D A c L := h.below (below_drewN w n)
/-- a row of it -/
theorem at_ (h : RfAt w D A c L) {i : Nat} {l : List Cl} (hl : L[i]? = some l) : ∃ b off Ai ci, A = some ⟨b, off, none⟩ ∧ b < w.heap.size ∧ w.cell? ⟨b, off + i, none⟩ = some (.slice Ai l.length ci) ∧ ((Ai = none → ci = 0) ∧ l.length ≤ ci) ∧ SlD w D Ai (rc l) := by
  obtain ⟨_, _, vs, h2, h3⟩ := h
  obtain ⟨v, hv, Ai, ci, rfl, h4, h5⟩ := h3.get hl
  obtain ⟨b, off, rfl, hb, _, hx⟩ := h2.open_ (by have := (List.getElem?_eq_some_iff.1 hv).1; omega)
  exact ⟨b, off, Ai, ci, rfl, hb, hx i _ hv, h4, h5⟩
end RfAt

/-- A position is blanked, as the reference has it. -/
theorem blank_ref (l : List Cl) (k : Nat) (c : Cl) (hc : l[k]? = some c) : blankM l k = if c.w = 2 ∧ k + 1 < l.length then (l.set k bl).set (k + 1) bl else if c.w = 0 ∧ 0 < k then (l.set k bl).set (k - 1) bl else l.set k bl := by
  unfold blankM
  rw [hc]
  simp only
  by_cases h2 : c.w = 2
  · rw [if_pos h2]
    by_cases hk : k + 1 < l.length
    · rw [if_pos ⟨h2, hk⟩, List.set_comm _ _ (by omega)]
    · rw [if_neg (by omega), if_neg (by omega), List.set_eq_of_length_le (i := k + 1) (by omega)]
  · rw [if_neg h2, if_neg (by omega : ¬ (c.w = 2 ∧ k + 1 < l.length))]
    by_cases h0 : c.w = 0
    · rw [if_pos h0]
      by_cases hk : 0 < k
      · rw [if_pos ⟨h0, hk⟩, List.set_comm _ _ (by omega)]
      · rw [if_neg (by omega)]
        obtain rfl : k = 0 := by omega
        rw [show 0 - 1 = 0 from rfl, List.set_set]
    · rw [if_neg h0, if_neg (by omega)]

/-- A row's cells in so many columns. -/
def fitM (l : List Cl) (W : Nat) : List Cl :=
  let o := l.take W
  (match o[o.length - 1]? with | none => o | some c => if c.w = 2 then o.set (o.length - 1) bl else o) ++ List.replicate (W - o.length) bl
theorem fitM_length (l : List Cl) (W : Nat) : (fitM l W).length = W := by
  unfold fitM
  simp only [List.length_append, List.length_replicate]
  split
  · rw [List.length_take]; omega
  · split
    · rw [List.length_set, List.length_take]; omega
    · rw [List.length_take]; omega
/-- the first row that stays -/
def topM (row : Int) (h : Int) : Nat := (max 0 (row + 1 - h)).toNat
/-- the rows that stay, and new ones -/
def resizeM (L : List (List Cl)) (W H : Nat) (row : Int) : List (List Cl) :=
  let kept := (L.drop (topM row H)).take H
  kept.map (fitM · W) ++ List.replicate (H - kept.length) (List.replicate W bl)
end Go.Proofs.YtfmkeeaenjeneaaGreatDoor

namespace Go.Proofs.YtfmkeeaenjeneaaGreatDoor
open Go.RowKit
set_option linter.unusedVariables false

theorem own_blk {w : World} {base n size : Nat} {e : TypeId} {v : Value} {xs : List Value} (h : w.ownsRow base e size v n xs) (hn : 0 < n) :
    ∃ g cap cur, v = .slice (some ⟨g, 0, none⟩) n cap ∧ base ≤ g ∧ Blk w g e cur ∧ cur.take (n * size) = xs ∧ n * size ≤ cur.length := by
  rcases h with ⟨hl, ⟨hv, h0⟩ | ⟨g, cap, cur, hv, hb, hh, hnc, hc, hcur, ht⟩⟩
  · omega
  · refine ⟨g, cap, cur.toList, hv, hb, by unfold Blk; rw [Array.toArray_toList]; exact hh, ht, ?_⟩
    rw [Array.length_toList, hcur]
    exact Nat.mul_le_mul_right _ hnc
theorem own_blk2 {w : World} {base n size : Nat} {e : TypeId} {v : Value} {xs : List Value} (h : w.ownsRow base e size v n xs) (hn : 0 < n) :
    ∃ g cap cur, v = .slice (some ⟨g, 0, none⟩) n cap ∧ base ≤ g ∧ Blk w g e cur ∧ cur.take (n * size) = xs ∧ n * size ≤ cur.length ∧
      ∀ (w' : World) (cur' : List Value), Blk w' g e cur' → cur'.length = cur.length → w'.ownsRow base e size (.slice (some ⟨g, 0, none⟩) n cap) n (cur'.take (n * size)) := by
  rcases h with ⟨hl, ⟨hv, h0⟩ | ⟨g, cap, cur, hv, hb, hh, hnc, hc, hcur, ht⟩⟩
  · omega
  · have hle : n * size ≤ cur.toList.length := by rw [Array.length_toList, hcur]; exact Nat.mul_le_mul_right _ hnc
    refine ⟨g, cap, cur.toList, hv, hb, by unfold Blk; rw [Array.toArray_toList]; exact hh, ht, hle, fun w' cur' hb' hl' => ⟨by rw [List.length_take]; omega, .inr ⟨g, cap, cur'.toArray, rfl, hb, hb', hnc, hc, ?_, by simp⟩⟩⟩
    rw [List.size_toArray, hl', Array.length_toList, hcur]
theorem own_cap {w : World} {base n c size : Nat} {e : TypeId} {A : Option Addr} {xs : List Value} (h : w.ownsRow base e size (.slice A n c) n xs) : n ≤ c := by
  rcases h with ⟨hl, ⟨hv, h0⟩ | ⟨g, cap, cur, hv, hb, hh, hnc, hc, hcur, ht⟩⟩
  · omega
  · injection hv with _ _ e
    omega
theorem take_splice (cs ds : List Value) (o m : Nat) (h1 : o + ds.length ≤ m) (h2 : m ≤ cs.length) : (splice cs o ds).take m = splice (cs.take m) o ds := by
  unfold splice
  have e1 : min o cs.length = o := by omega
  have e2 : (cs.take o ++ (ds ++ cs.drop (o + ds.length))).take m = cs.take o ++ (ds ++ (cs.drop (o + ds.length)).take (m - o - ds.length)) := by
    rw [List.take_append, List.take_append, List.take_take, List.length_take, e1, List.take_of_length_le (l := ds) (by omega), show min m o = o by omega]
  have e3 : (cs.take m).take o = cs.take o := by rw [List.take_take, show min o m = o by omega]
  rw [e2, e3, List.drop_take]
  congr 3
  omega
theorem sld_of_blk {w : World} {g m : Nat} {t : TypeId} {cs xs : List Value} {D : Nat → Prop} (hb : Blk w g t cs) (h : cs.take m = xs) (hD : D g) : SlD w D (some ⟨g, 0, none⟩) xs := by
  refine .inr ⟨g, 0, rfl, hb.lt, hD, fun j u hu => ?_⟩
  rw [Nat.zero_add, hb.cell, ← hu, ← h, List.getElem?_take]
  split
  · rfl
  · next hj =>
    exfalso
    rw [← h, List.getElem?_take, if_neg hj] at hu
    cases hu
theorem Blk.new1 (w : World) (o : Obj) (t : TypeId) (cs : List Value) : Blk ((w.alloc o).alloc (.cells cs.toArray t)) (w.heap.size + 1) t cs := by
  have := Blk.new (w.alloc o) t cs
  simpa using this
theorem Blk.new2 (w : World) (o o' : Obj) (t : TypeId) (cs : List Value) : Blk (((w.alloc o).alloc o').alloc (.cells cs.toArray t)) (w.heap.size + 2) t cs := by
  have := Blk.new1 (w.alloc o) o' t cs
  simpa using this
theorem splice_one (cs : List Value) (k : Nat) (v : Value) (h : k < cs.length) : splice cs k [v] = cs.set k v := by
  unfold splice
  rw [List.set_eq_take_append_cons_drop, if_pos h]
  simp
end Go.Proofs.YtfmkeeaenjeneaaGreatDoor

namespace Go.Proofs.YtfmkeeaenjeneaaGreatDoor
open Go.RowKit
set_option linter.unusedVariables false
set_option linter.unusedSimpArgs false

set_option maxRecDepth 100000 in
set_option maxHeartbeats 4000000 in
theorem rset_any {w : World} {D : Nat → Prop} {v : Value} {l : List Cl} (h : RowD w D v l) (k : Nat) (x : Cl) (hk : k < l.length) (h5 : l.length ≤ 100000) :
    Calls Tryz.prog 126 #[v, .int .i64 k, .agg x.cells.toArray] w fun e w' => ∃ v', e = .returned v' ∧ RowD w' (fun b => w.heap.size ≤ b) v' (l.set k x) ∧ Below w.heap.size w w' := by
  obtain ⟨A, c, rfl, hnil, hS⟩ := h
  obtain ⟨i0, hi0, hz0, hz1, hz2⟩ := info_parts cl_info
  have HI0 := Lib.hid hi0
  have HZ0 := Lib.hid hz0
  have HZ1 := Lib.hid hz1
  have HZ2 := Lib.hid hz2
  have HS := Lib.hid hS.sl
  have HNIL := Lib.hid hnil
  have HX0 := Lib.hid (Blk.new w 83 x.cells)
  obtain ⟨n, hn⟩ : ∃ n, n = l.length := ⟨_, rfl⟩
  rw [← hn] at hk h5 ⊢
  have HN := Lib.hid hn
  have hki : (k : Int) < n := by omega
  clear hi0 hz0 hz1 hz2 hS hnil hn
  go_enter Tryz.func126, Tryz.ntmps126
  go_wp2_with (first
    | (at_builtin; (refine wpList_append_sl _ rfl (.tmp 8) (.tmp 9) _ rfl (w.heap.size + 1) 83 i0 _ 7 48 Tryz.underlying78 HI0.out HZ0.out HZ1.out HZ2.out rfl (by omega) (.slice (some ⟨w.heap.size + 1, 0, none⟩) 0 0) 0 [] rfl (by have := World.ownsRow_lit (base := w.heap.size + 1) (e := 83) (size := 7) (w.alloc (.cells x.cells.toArray 83)) #[] 0 (by simp) (by simp only [maxLen]; omega) (by simp); simpa using this) w.heap.size A n c (rc l) rfl ((HS.out.alloc (Nat.le_refl _) _).alloc (by simp) _) (by rw [rc_length, HN.out]) HNIL.out.1 (rc_one l) (by simp only [maxLen]; omega) (by omega) (by simp) ?_); intro v' w2 ho hg hat; rw [Nat.zero_add, List.nil_append] at ho; obtain ⟨g, cap, cur, rfl, hbg, hb2, htk, hlc⟩ := own_blk ho (by omega); have HCP := Lib.hid (own_cap ho); have HG := Lib.hid (((Chg.refl noB w).alloc (.cells x.cells.toArray 83)).alloc (.cells #[] 83) |>.grown hg (fun j hj => .inr (by have : some (w.heap.size + 1) = some j := hj; injection this with this; omega))); have HX2 := Lib.hid ((((HX0.out.alloc (.cells #[] 83)).chg (chg_of_grown hg) (by intro e; have e' : w.heap.size = w.heap.size + 1 := e; omega)))); have HB2 := Lib.hid hb2; have HTK := Lib.hid htk; have HBG := Lib.hid hbg; have HLC := Lib.hid hlc; clear ho hg hat hb2 htk hbg hlc)
    | ((with_reducible refine at_dst 13 ?_); refine wpList_load_mid rfl _ _ rfl w.heap.size 0 rfl x.cells _ HX2.out.whole Tryz.underlying83 rfl cl_size ?_)
    | ((with_reducible refine at_store 14 ?_); refine wpList_store_blk rfl _ _ _ rfl rfl g (k * 7) _ cur x.cells rfl rfl HB2.out (by have := HLC.out; rw [Cl.len]; omega) cl_size x.one ?_; intro w3 hn3 hg3))
  go_ret
  have e1 : (splice cur (k * 7) x.cells).take (n * 7) = rc (l.set k x) := by
    rw [take_splice _ _ _ _ (by rw [Cl.len]; omega) HLC.out, HTK.out, rc_splice _ _ _ (by have := HN.out; omega)]
  refine ⟨.slice (some ⟨g, 0, none⟩) n cap, rfl, ⟨_, _, by rw [List.length_set, ← HN.out], ⟨(fun e => by cases e), by rw [List.length_set, ← HN.out]; exact HCP.out⟩, sld_of_blk hn3 e1 (by have := HBG.out; omega)⟩, ?_⟩
  exact (HG.out.none_below).grown hg3 (by have := HG.out.size; exact this) (fun j hj => by injection hj with hj; have := HBG.out; omega)

set_option maxRecDepth 100000 in
set_option maxHeartbeats 4000000 in
theorem rblank_any {w : World} {D : Nat → Prop} {v : Value} {l : List Cl} (h : RowD w D v l) (k : Nat) (hk : k < l.length) (h5 : l.length ≤ 100000) :
    Calls Tryz.prog 147 #[v, .int .i64 k] w fun e w' => ∃ v', e = .returned v' ∧ RowD w' (fun b => w.heap.size ≤ b) v' (blankM l k) ∧ Below w.heap.size w w' := by
  have hc : l[k]? = some l[k] := List.getElem?_eq_getElem hk
  have hB := blank_ref l k _ hc
  generalize l[k] = c at hc hB
  have HR := Lib.hid h
  obtain ⟨A, cp, rfl, hnil, hS⟩ := h
  obtain ⟨b, off, rfl, hbl, _, hcell⟩ := hS.open_ (by rw [rc_length]; omega)
  have hw := hcell _ _ (rc_get hc (j := 1) rfl)
  rw [← Nat.add_assoc] at hw
  obtain ⟨n, hn⟩ : ∃ n, n = l.length := ⟨_, rfl⟩
  rw [← hn] at hk h5 hB ⊢
  rw [← hn] at HR
  have HN := Lib.hid hn
  have HB := Lib.hid hB
  have hki : (k : Int) < n := by omega
  have hset : ∀ (w : World) (D : Nat → Prop) (v : Value) (l : List Cl) (j : Nat), RowD w D v l → j < l.length → l.length = n → Calls Tryz.prog 126 #[v, .int .i64 j, .agg #[.string ⟨#[32]⟩, .int .i64 1, .bool false, .bool false, .bool false, .int .i64 0, .int .i64 0]] w fun e w' => ∃ v', e = .returned v' ∧ RowD w' (fun b => w.heap.size ≤ b) v' (l.set j bl) ∧ Below w.heap.size w w' := fun w D v l j hr hj hl => rset_any hr j bl hj (by omega)
  have HSET := Lib.hid hset
  clear hc hB hn hnil hS hcell hset
  have fin : ∀ (w1 w2 : World) (v' : Value) (m : List Cl), Below w.heap.size w w1 → RowD w2 (fun b => w1.heap.size ≤ b) v' m → Below w1.heap.size w1 w2 → blankM l k = m → ∃ u, Ending.returned v' = .returned u ∧ RowD w2 (fun b => w.heap.size ≤ b) u (blankM l k) ∧ Below w.heap.size w w2 := fun w1 w2 v' m hb1 hr hb2 e =>
    ⟨v', rfl, e ▸ hr.mono (fun b _ hb => Nat.le_trans hb1.size hb), hb1.trans (hb2.mono hb1.size)⟩
  have FIN := Lib.hid fin
  clear fin
  by_cases h2 : c.w = 2
  · have e2 : (c.w == 2) = true := by simp [h2]
    have e0 : (c.w == 0) = false := by simp [h2]
    by_cases hk1 : k + 1 < n
    · have hk1i : (k : Int) + 1 < n := by omega
      have HB' : Hid (blankM l k = (l.set k bl).set (k + 1) bl) := by have := HB.out; rw [if_pos ⟨h2, hk1⟩] at this; exact this
      clear h2
      go_enter Tryz.func147, Tryz.ntmps147
      go_wp2_with (fail)
      refine (HSET.out _ _ _ l k HR.out (by have := HN.out; omega) HN.out.symm).mono ?_
      rintro e w1 ⟨v1, rfl, hr1, hb1⟩
      have HR1 := Lib.hid hr1
      have HB1 := Lib.hid hb1
      obtain ⟨A1, c1, rfl, _, _⟩ := hr1
      have HNN : Hid ((l.set k bl).length = n) := by show _ = _; rw [List.length_set]; exact HN.out.symm
      rw [HNN.out] at HR1 ⊢
      clear hb1
      go_wp2_with (fail)
      have hcall := HSET.out _ _ _ (l.set k bl) (k + 1) HR1.out (by rw [HNN.out]; omega) HNN.out
      rw [show ((k + 1 : Nat) : Int) = (k : Int) + 1 by omega] at hcall
      refine hcall.mono ?_
      rintro e w2 ⟨v2, rfl, hr2, hb2⟩
      have HR2 := Lib.hid hr2
      have HB2 := Lib.hid hb2
      obtain ⟨A2, c2, rfl, _, _⟩ := hr2
      rw [List.length_set, HNN.out] at HR2 ⊢
      clear hb2
      go_wp2
      go_ret
      exact FIN.out _ _ _ _ HB1.out HR2.out HB2.out HB'.out
    · have hk1i : ¬ (k : Int) + 1 < n := by omega
      have HB' : Hid (blankM l k = l.set k bl) := by have := HB.out; rw [if_neg (by omega), if_neg (by omega)] at this; exact this
      clear h2
      go_enter Tryz.func147, Tryz.ntmps147
      go_wp2_with (fail)
      refine (HSET.out _ _ _ l k HR.out (by have := HN.out; omega) HN.out.symm).mono ?_
      rintro e w1 ⟨v1, rfl, hr1, hb1⟩
      have HR1 := Lib.hid hr1
      have HB1 := Lib.hid hb1
      obtain ⟨A1, c1, rfl, _, _⟩ := hr1
      have HNN : Hid ((l.set k bl).length = n) := by show _ = _; rw [List.length_set]; exact HN.out.symm
      rw [HNN.out] at HR1 ⊢
      clear hb1
      go_wp2
      go_ret
      exact FIN.out _ _ _ _ (Below.refl _ _) HR1.out HB1.out HB'.out
  · have e2 : (c.w == 2) = false := by simp [h2]
    by_cases h0 : c.w = 0
    · have e0 : (c.w == 0) = true := by simp [h0]
      by_cases hk1 : 0 < k
      · have hk1i : 0 < (k : Int) := by omega
        have HB' : Hid (blankM l k = (l.set k bl).set (k - 1) bl) := by have := HB.out; rw [if_neg (by omega), if_pos ⟨h0, hk1⟩] at this; exact this
        clear h0 h2
        go_enter Tryz.func147, Tryz.ntmps147
        go_wp2_with (fail)
        refine (HSET.out _ _ _ l k HR.out (by have := HN.out; omega) HN.out.symm).mono ?_
        rintro e w1 ⟨v1, rfl, hr1, hb1⟩
        have HR1 := Lib.hid hr1
        have HB1 := Lib.hid hb1
        obtain ⟨A1, c1, rfl, _, _⟩ := hr1
        have HNN : Hid ((l.set k bl).length = n) := by show _ = _; rw [List.length_set]; exact HN.out.symm
        rw [HNN.out] at HR1 ⊢
        clear hb1
        go_wp2_with (fail)
        have hcall := HSET.out _ _ _ (l.set k bl) (k - 1) HR1.out (by rw [HNN.out]; omega) HNN.out
        rw [show ((k - 1 : Nat) : Int) = (k : Int) - 1 by omega] at hcall
        refine hcall.mono ?_
        rintro e w2 ⟨v2, rfl, hr2, hb2⟩
        have HR2 := Lib.hid hr2
        have HB2 := Lib.hid hb2
        obtain ⟨A2, c2, rfl, _, _⟩ := hr2
        rw [List.length_set, HNN.out] at HR2 ⊢
        clear hb2
        go_wp2
        go_ret
        exact FIN.out _ _ _ _ HB1.out HR2.out HB2.out HB'.out
      · have hk1i : ¬ 0 < (k : Int) := by omega
        have HB' : Hid (blankM l k = l.set k bl) := by have := HB.out; rw [if_neg (by omega), if_neg (by omega)] at this; exact this
        clear h0 h2
        go_enter Tryz.func147, Tryz.ntmps147
        go_wp2_with (fail)
        refine (HSET.out _ _ _ l k HR.out (by have := HN.out; omega) HN.out.symm).mono ?_
        rintro e w1 ⟨v1, rfl, hr1, hb1⟩
        have HR1 := Lib.hid hr1
        have HB1 := Lib.hid hb1
        obtain ⟨A1, c1, rfl, _, _⟩ := hr1
        have HNN : Hid ((l.set k bl).length = n) := by show _ = _; rw [List.length_set]; exact HN.out.symm
        rw [HNN.out] at HR1 ⊢
        clear hb1
        go_wp2
        go_ret
        exact FIN.out _ _ _ _ (Below.refl _ _) HR1.out HB1.out HB'.out
    · have e0 : (c.w == 0) = false := by simp [h0]
      have HB' : Hid (blankM l k = l.set k bl) := by have := HB.out; rw [if_neg (by omega), if_neg (by omega)] at this; exact this
      clear h0 h2
      go_enter Tryz.func147, Tryz.ntmps147
      go_wp2_with (fail)
      refine (HSET.out _ _ _ l k HR.out (by have := HN.out; omega) HN.out.symm).mono ?_
      rintro e w1 ⟨v1, rfl, hr1, hb1⟩
      have HR1 := Lib.hid hr1
      have HB1 := Lib.hid hb1
      obtain ⟨A1, c1, rfl, _, _⟩ := hr1
      have HNN : Hid ((l.set k bl).length = n) := by show _ = _; rw [List.length_set]; exact HN.out.symm
      rw [HNN.out] at HR1 ⊢
      clear hb1
      go_wp2
      go_ret
      exact FIN.out _ _ _ _ (Below.refl _ _) HR1.out HB1.out HB'.out

/-- so many blanks -/
theorem rc_rep_snoc (k : Nat) : rc (List.replicate k bl) ++ bl.cells = rc (List.replicate (k + 1) bl) := by
  rw [List.replicate_succ', rc_append]
  simp [rc]
set_option maxRecDepth 100000 in
set_option maxHeartbeats 4000000 in
theorem rblanks_any (n : Nat) (h5 : n ≤ 100000) (w : World) :
    Calls Tryz.prog 47 #[.int .i64 n] w fun e w' => ∃ v, e = .returned (.agg #[v]) ∧ RowD w' (fun b => w.heap.size ≤ b) v (List.replicate n bl) ∧ Below w.heap.size w w' := by
  obtain ⟨i0, hi0, hz0, hz1, hz2⟩ := info_parts cl_info
  have HI0 := Lib.hid hi0
  have HZ0 := Lib.hid hz0
  have HZ1 := Lib.hid hz1
  have HZ2 := Lib.hid hz2
  clear hi0 hz0 hz1 hz2
  go_enter Tryz.func47, Tryz.ntmps47
  go_wp2_with (fail)
  go_loopw [3, 4] (fun v3 v4 wr => ∃ (k : Nat) (A : Option Addr) (c : Nat), v4 = .int .i64 k ∧ k ≤ n ∧ v3 = .slice A k c ∧ (A = none → c = 0) ∧ wr.ownsRow (w.heap.size + 1) 83 7 (.slice A k c) k (rc (List.replicate k bl)) ∧ Blk wr w.heap.size 94 [.slice none 0 0] ∧ Below w.heap.size w wr) (fun _ v4 _ => n - (intOf v4).toNat)
  case atStart => exact ⟨0, none, 0, rfl, by omega, rfl, fun _ => rfl, World.ownsRow_nil _ _ _ _, Blk.new w _ _, (Below.refl _ _).alloc (Nat.le_refl _) _⟩
  case round =>
    obtain ⟨k, A, c, rfl, hk, rfl, hnil, ho, hx, hb⟩ := hrel
    have HO := Lib.hid ho
    have HX := Lib.hid hx
    have HB := Lib.hid hb
    have HNIL := Lib.hid hnil
    clear ho hx hb hnil
    by_cases hlt : k < n
    · have hki : (k : Int) < n := by omega
      have hws : w.heap.size + 1 ≤ wr.heap.size := by have := HX.out.lt; omega
      go_wp2_with (at_builtin; (refine wpList_append_sl _ rfl (.tmp 10) (.tmp 12) _ rfl (w.heap.size + 1) 83 i0 _ 7 48 Tryz.underlying78 HI0.out HZ0.out HZ1.out HZ2.out rfl (by omega) (.slice A k c) k (rc (List.replicate k bl)) rfl (HO.out.alloc _) (wr.heap.size + 1) (some ⟨wr.heap.size, 0, none⟩) 1 1 bl.cells rfl (Sl.new wr _ _) rfl (fun e => by cases e) bl.one (by simp only [maxLen]; omega) (by omega) (by simp; omega) ?_); intro v' w2 ho hg hat; rw [rc_rep_snoc] at ho; have HO2 := Lib.hid ho; have hbk : (Value.slice A k c).ownBlock = none ∨ ∃ j, (Value.slice A k c).ownBlock = some j ∧ w.heap.size + 1 ≤ j := (by cases hob : (Value.slice A k c).ownBlock with | none => exact .inl rfl | some j => exact .inr ⟨j, rfl, (HO.out.lt j hob).1⟩); have HBK := Lib.hid hbk; have HG2 := Lib.hid hg; obtain ⟨A2, c2, rfl, hnil2, _⟩ := own_of ho; have HNIL2 := Lib.hid hnil2; clear ho hg hat hbk hnil2)
      have hr : ∀ j, (Value.slice A k c).ownBlock = some j → w.heap.size + 1 ≤ j := fun j hj => by
        rcases HBK.out with h | ⟨j', h1, h2⟩
        · rw [h] at hj; cases hj
        · rw [h1] at hj; injection hj with hj; omega
      go_roundw
      case rel =>
        refine ⟨k + 1, A2, c2, by go_num, by omega, rfl, HNIL2.out, HO2.out, ?_, ?_⟩
        · exact (HG2.out.block _ (by have := HX.out.lt; simp; omega) (fun e => by have := hr _ e.symm; omega)).trans (HX.out.alloc _)
        · exact ((HB.out.alloc HB.out.size _).grown HG2.out (by have := HB.out.size; simp; omega) (fun j hj => by have := hr j hj; omega))
      case measure => simp [intOf]; omega
    · have hki : ¬ (k : Int) < n := by omega
      obtain rfl : k = n := by omega
      go_wp2_with ((with_reducible refine at_store 2 ?_); refine wpList_store_blk rfl _ _ _ rfl rfl w.heap.size 0 _ [.slice none 0 0] [.slice A k c] rfl rfl HX.out (by simp) (by kernel_rfl) (fun v hv => by simp at hv; subst hv; rfl) ?_; intro w3 hn3 hg3)
      have hn3' : Blk w3 w.heap.size 94 [.slice A k c] := hn3
      refine bodyPost_ret (results_c rfl rfl hn3'.whole Tryz.underlying94 rfl (by kernel_rfl)) rfl ⟨_, rfl, ?_, ?_⟩
      · have hs := SlD.own HO.out
        have hc := chg_of_grown hg3
        exact ⟨A, c, by rw [List.length_replicate], ⟨HNIL.out, by rw [List.length_replicate]; exact own_cap HO.out⟩, (hs.chg hc (fun b hb h1 h2 => by have h2' : b = w.heap.size := h2; omega)).mono (fun b _ h => by omega)⟩
      · exact HB.out.grown hg3 HB.out.size (fun j hj => by injection hj with hj; omega)
end Go.Proofs.YtfmkeeaenjeneaaGreatDoor

namespace Go.Proofs.YtfmkeeaenjeneaaGreatDoor
open Go.RowKit
set_option linter.unusedVariables false
set_option linter.unusedSimpArgs false

set_option maxHeartbeats 1000000 in
theorem rthere_any (W H : Nat) (A : Option Addr) (n c : Nat) (row col : Int) (w : World) :
    Calls Tryz.prog 64 #[.agg #[.int .i64 W, .int .i64 H, .slice A n c], .int .i64 row, .int .i64 col] w fun e w' => e = .returned (.bool (inB row col W H)) ∧ Below w.heap.size w w' := by
  go_enter Tryz.func64, Tryz.ntmps64
  go_wp2
  all_goals
    go_ret
    exact ⟨ret_bool (by unfold inB; rw [Bool.eq_iff_iff]; simp; omega), (Below.refl _ _).alloc (Nat.le_refl _) _⟩

theorem rg_size : (Tryz.prog.info? 29).map (·.size) = some 3 := by kernel_rfl
theorem rrow_size : (Tryz.prog.info? 94).map (·.size) = some 1 := by kernel_rfl
/-- a reference grid as a value -/
def rgC (W H : Nat) (A : Option Addr) (c : Nat) : List Value := [.int .i64 W, .int .i64 H, .slice A H c]
theorem rgC_one (W H : Nat) (A : Option Addr) (c : Nat) : ∀ v ∈ rgC W H A c, v.oneCell' = true := by
  intro v hv
  simp [rgC] at hv
  rcases hv with rfl | rfl | rfl <;> rfl
theorem blk3 {w : World} {b : Nat} {t : TypeId} {W H : Nat} {A : Option Addr} {c : Nat} (h : Blk w b t (rgC W H A c)) : w.cell? ⟨b, 0, none⟩ = some (.int .i64 W) ∧ w.cell? ⟨b, 1, none⟩ = some (.int .i64 H) ∧ w.cell? ⟨b, 2, none⟩ = some (.slice A H c) := ⟨h.cell 0, h.cell 1, h.cell 2⟩
/-- what a reference grid shows -/
def RfV (w : World) (D : Nat → Prop) (V : Value) (W : Nat) (L : List (List Cl)) : Prop := ∃ A c, V = .agg (rgC W L.length A c).toArray ∧ RfAt w D A c L

/-- a row of it, whatever was made since -/
theorem RfAt.row_later {w : World} {D : Nat → Prop} {A : Option Addr} {c : Nat} {L : List (List Cl)} (h : RfAt w D A c L) {row : Nat} {l : List Cl} (hl : L[row]? = some l) :
    ∃ b off Ai ci, A = some ⟨b, off, none⟩ ∧ ∀ w', Below w.heap.size w w' → w'.cell? ⟨b, off + row, none⟩ = some (.slice Ai l.length ci) ∧ RowD w' D (.slice Ai l.length ci) l := by
  obtain ⟨b, off, Ai, ci, rfl, hb, hc, hn, hs⟩ := h.at_ hl
  exact ⟨b, off, Ai, ci, rfl, fun w' hb' => ⟨(hb'.cell (p := ⟨b, off + row, none⟩) hb).trans hc, Ai, ci, rfl, hn, hs.below hb'⟩⟩

set_option maxRecDepth 100000 in
set_option maxHeartbeats 2000000 in
theorem rcells_yes {w : World} {D : Nat → Prop} {A : Option Addr} {c W : Nat} {L : List (List Cl)} (h : RfAt w D A c L) (row : Nat) (l : List Cl) (hl : L[row]? = some l) :
    Calls Tryz.prog 39 #[.agg #[.int .i64 W, .int .i64 L.length, .slice A L.length c], .int .i64 row] w fun e w' => ∃ u, e = .returned u ∧ RowD w' D u l ∧ Below w.heap.size w w' := by
  have hr : row < L.length := (List.getElem?_eq_some_iff.1 hl).1
  have hri : (row : Int) < L.length := by omega
  have hrj : ¬ (L.length : Int) ≤ row := by omega
  obtain ⟨b, off, Ai, ci, rfl, hlat⟩ := h.row_later hl
  have hb0 : Below w.heap.size w (w.alloc (.cells #[.int .i64 W, .int .i64 L.length, .slice (some ⟨b, off, none⟩) L.length c] 29)) := (Below.refl _ _).alloc (Nat.le_refl _) _
  obtain ⟨hc, hrow⟩ := hlat _ hb0
  have HB0 := Lib.hid hb0
  have HR := Lib.hid hrow
  generalize L.length = n at *
  clear h hl hlat hrow hb0
  go_enter Tryz.func39, Tryz.ntmps39
  go_wp2
  go_ret
  exact ⟨_, rfl, HR.out, HB0.out⟩
set_option maxHeartbeats 1000000 in
theorem rcells_no (W H : Nat) (A : Option Addr) (n c : Nat) (row : Int) (hr : row < 0 ∨ (H : Int) ≤ row) (w : World) :
    Calls Tryz.prog 39 #[.agg #[.int .i64 W, .int .i64 H, .slice A n c], .int .i64 row] w fun e w' => e = .returned (.slice none 0 0) ∧ Below w.heap.size w w' := by
  rcases hr with hr | hr
  · go_enter Tryz.func39, Tryz.ntmps39
    go_wp2
    all_goals
      go_ret
      exact ⟨rfl, (Below.refl _ _).alloc (Nat.le_refl _) _⟩
  · have hr0 : ¬ row < 0 := by omega
    go_enter Tryz.func39, Tryz.ntmps39
    go_wp2
    all_goals
      go_ret
      exact ⟨rfl, (Below.refl _ _).alloc (Nat.le_refl _) _⟩

set_option maxRecDepth 100000 in
set_option maxHeartbeats 2000000 in
theorem rcell_yes {w : World} {D : Nat → Prop} {A : Option Addr} {c W : Nat} {L : List (List Cl)} (h : RfAt w D A c L) (row col : Nat) (l : List Cl) (x : Cl) (hl : L[row]? = some l) (hx : l[col]? = some x) (hw : l.length = W) :
    Calls Tryz.prog 42 #[.agg #[.int .i64 W, .int .i64 L.length, .slice A L.length c], .int .i64 row, .int .i64 col] w fun e w' => e = .returned (.tuple #[.agg x.cells.toArray, .bool true]) ∧ Below w.heap.size w w' := by
  have hr : row < L.length := (List.getElem?_eq_some_iff.1 hl).1
  have hc : col < l.length := (List.getElem?_eq_some_iff.1 hx).1
  have hri : (row : Int) < L.length := by omega
  have hci : (col : Int) < l.length := by omega
  obtain ⟨b, off, Ai, ci, rfl, hlat⟩ := h.row_later hl
  have hin : inB row col W L.length = true := by unfold inB; simp; omega
  have HIN := Lib.hid hin
  have HLAT := Lib.hid hlat
  have HX := Lib.hid hx
  generalize L.length = n at *
  obtain ⟨W0, hW0⟩ : ∃ W0, W0 = (w.alloc (.cells #[.int .i64 W, .int .i64 n, .slice (some ⟨b, off, none⟩) n c] 29)).alloc (.cells #[.string ⟨#[]⟩, .int .i64 0, .bool false, .bool false, .bool false, .int .i64 0, .int .i64 0] 83) := ⟨_, rfl⟩
  have hb0 : Below w.heap.size w W0 := by rw [hW0]; exact ((Below.refl _ _).alloc (Nat.le_refl _) _).alloc (by simp) _
  have h1 : Blk W0 w.heap.size 29 (rgC W n (some ⟨b, off, none⟩) c) := by rw [hW0]; exact (Blk.new w _ (rgC W n (some ⟨b, off, none⟩) c)).alloc _
  have h2 : Blk W0 (w.heap.size + 1) 83 czero.cells := by rw [hW0]; exact Blk.new1 w _ _ czero.cells
  have HB0 := Lib.hid hb0
  have H1 := Lib.hid h1
  have H2 := Lib.hid h2
  obtain ⟨e0, e1, e2⟩ := blk3 h1
  clear h hl hx hlat hin hb0 h1 h2
  go_enter Tryz.func42, Tryz.ntmps42
  go_wp2_with (fail)
  rw [← hW0]
  clear hW0
  refine (rthere_any W n (some ⟨b, off, none⟩) n c row col W0).mono ?_
  rintro e w1 ⟨rfl, hb1⟩
  rw [HIN.out]
  have hbw := HB0.out.trans (hb1.mono HB0.out.size)
  obtain ⟨hcr, hrow⟩ := HLAT.out _ hbw
  obtain ⟨f0, f1, f2⟩ := blk3 (H1.out.below hb1 H1.out.lt)
  have HN := Lib.hid (H2.out.below hb1 H2.out.lt)
  have HBW := Lib.hid hbw
  obtain ⟨A1, c1, e3, hnil, hs⟩ := hrow
  injection e3 with e3 e4 e5
  subst e3 e5
  obtain ⟨bi, oi, rfl, hbi, _, hcx⟩ := hs.open_ (by rw [rc_length]; omega)
  have HRX : Hid (w1.rangeAt bi (oi + col * 7) x.cells) := fun j v hv => by
    rw [Nat.add_assoc]
    exact hcx _ v (rc_get HX.out hv)
  clear hb1 hbw hnil hs hcx hbi HLAT H1 H2 HB0 e0 e1 e2 e4
  go_wp2_with (first
    | ((with_reducible refine at_dst 22 ?_); refine wpList_load_mid rfl _ _ rfl bi (oi + col * 7) rfl x.cells _ HRX.out Tryz.underlying83 rfl cl_size ?_)
    | ((with_reducible refine at_store 6 ?_); refine wpList_store_blk rfl _ _ _ rfl rfl (w.heap.size + 1) 0 _ czero.cells x.cells rfl rfl HN.out (by simp [Cl.len]) cl_size x.one ?_; intro w2 hn2 hg2))
  have hc2 : Blk w2 (w.heap.size + 1) 83 x.cells := hn2
  refine bodyPost_ret (results_ct rfl rfl rfl (hc2.range 0 x.cells (fun j v hv => by simpa using hv)) Tryz.underlying83 rfl cl_size) rfl ⟨rfl, ?_⟩
  exact HBW.out.grown hg2 HBW.out.size (fun k hk => by injection hk with hk; omega)

set_option maxRecDepth 100000 in
set_option maxHeartbeats 2000000 in
theorem rcell_no (W H : Nat) (A : Option Addr) (n c : Nat) (row col : Int) (hbad : inB row col W H = false) (w : World) :
    Calls Tryz.prog 42 #[.agg #[.int .i64 W, .int .i64 H, .slice A n c], .int .i64 row, .int .i64 col] w fun e w' => e = .returned (.tuple #[.agg czero.cells.toArray, .bool false]) ∧ Below w.heap.size w w' := by
  have HIN := Lib.hid hbad
  obtain ⟨W0, hW0⟩ : ∃ W0, W0 = (w.alloc (.cells #[.int .i64 W, .int .i64 H, .slice A n c] 29)).alloc (.cells #[.string ⟨#[]⟩, .int .i64 0, .bool false, .bool false, .bool false, .int .i64 0, .int .i64 0] 83) := ⟨_, rfl⟩
  have hb0 : Below w.heap.size w W0 := by rw [hW0]; exact ((Below.refl _ _).alloc (Nat.le_refl _) _).alloc (by simp) _
  have h2 : Blk W0 (w.heap.size + 1) 83 czero.cells := by rw [hW0]; exact Blk.new1 w _ _ czero.cells
  have HB0 := Lib.hid hb0
  have H2 := Lib.hid h2
  clear hbad hb0 h2
  go_enter Tryz.func42, Tryz.ntmps42
  go_wp2_with (fail)
  rw [← hW0]
  clear hW0
  refine (rthere_any W H A n c row col W0).mono ?_
  rintro e w1 ⟨rfl, hb1⟩
  rw [HIN.out]
  have hbw := HB0.out.trans (hb1.mono HB0.out.size)
  have HN := Lib.hid (H2.out.below hb1 H2.out.lt)
  have HBW := Lib.hid hbw
  clear hb1 hbw H2 HB0
  go_wp2_with ((with_reducible refine at_store 6 ?_); refine wpList_store_blk rfl _ _ _ rfl rfl (w.heap.size + 1) 0 _ czero.cells czero.cells rfl rfl HN.out (by simp [Cl.len]) cl_size czero.one ?_; intro w2 hn2 hg2)
  have hc2 : Blk w2 (w.heap.size + 1) 83 czero.cells := hn2
  refine bodyPost_ret (results_ct rfl rfl rfl (hc2.range 0 czero.cells (fun j v hv => by simpa using hv)) Tryz.underlying83 rfl cl_size) rfl ⟨rfl, ?_⟩
  exact HBW.out.grown hg2 HBW.out.size (fun k hk => by injection hk with hk; omega)

theorem rcell_any {w : World} {D : Nat → Prop} {A : Option Addr} {c W : Nat} {L : List (List Cl)} (h : RfAt w D A c L) (hwd : ∀ (i : Nat) l, L[i]? = some l → l.length = W) (row col : Int) :
    Calls Tryz.prog 42 #[.agg #[.int .i64 W, .int .i64 L.length, .slice A L.length c], .int .i64 row, .int .i64 col] w fun e w' => e = .returned (.tuple #[.agg (cellB L row col).1.cells.toArray, .bool (cellB L row col).2]) ∧ Below w.heap.size w w' := by
  by_cases hin : inB row col W L.length = true
  · obtain ⟨h0, h1, h2, h3⟩ : 0 ≤ row ∧ row < L.length ∧ 0 ≤ col ∧ col < W := by simpa [inB] using hin
    obtain ⟨r, rfl⟩ := Int.eq_ofNat_of_zero_le h0
    obtain ⟨k, rfl⟩ := Int.eq_ofNat_of_zero_le h2
    have hl : L[r]? = some (L[r]'(by omega)) := List.getElem?_eq_getElem (by omega)
    have hlen := hwd _ _ hl
    have hc : (L[r]'(by omega))[k]? = some ((L[r]'(by omega))[k]'(by omega)) := List.getElem?_eq_getElem (by omega)
    have e : cellB L r k = ((L[r]'(by omega))[k]'(by omega), true) := by
      rw [cellB_nat, hl]
      simp only
      rw [hc]
    rw [e]
    exact rcell_yes h r k _ _ hl hc hlen
  · have hin' : inB row col W L.length = false := by simpa using hin
    have e : cellB L row col = (czero, false) := by
      unfold cellB
      split
      · next h02 =>
        split
        · rfl
        · next l hl =>
          have hlen := hwd _ _ hl
          have hr : row.toNat < L.length := (List.getElem?_eq_some_iff.1 hl).1
          split
          · rfl
          · next c hc =>
            have hcl : col.toNat < l.length := (List.getElem?_eq_some_iff.1 hc).1
            exfalso
            apply hin
            simp [inB]
            omega
      · rfl
    rw [e]
    exact rcell_no W L.length A L.length c row col hin' w

set_option maxRecDepth 100000 in
set_option maxHeartbeats 4000000 in
/-- with: a row of a grid is another one -/
theorem rwith_any {w : World} {D : Nat → Prop} {A : Option Addr} {c W : Nat} {L : List (List Cl)} (h : RfAt w D A c L) (row : Nat) (hr : row < L.length) (h5 : L.length ≤ 500) {v : Value} {l : List Cl} (hv : RowD w D v l) :
    Calls Tryz.prog 125 #[.agg #[.int .i64 W, .int .i64 L.length, .slice A L.length c], .int .i64 row, v] w fun e w' => ∃ V, e = .returned V ∧ RfV w' (fun b => D b ∨ w.heap.size ≤ b) V W (L.set row l) ∧ Below w.heap.size w w' := by
  obtain ⟨hnil, hcap, vs, hvs, hrows⟩ := h
  obtain ⟨i0, hi0, hz0, hz1, hz2⟩ := info_parts (show (Tryz.prog.info? 94).map (fun i => (i.zero, i.size, i.bytes)) = some (some (.agg #[.slice none 0 0]), 1, 24) by kernel_rfl)
  have HI0 := Lib.hid hi0
  have HZ0 := Lib.hid hz0
  have HZ1 := Lib.hid hz1
  have HZ2 := Lib.hid hz2
  have hb0 : Below w.heap.size w ((w.alloc (.cells #[.int .i64 W, .int .i64 L.length, .slice A L.length c] 29)).alloc (.cells #[.int .i64 0, .int .i64 0, .slice none 0 0] 29)) := ((Below.refl _ _).alloc (Nat.le_refl _) _).alloc (by simp) _
  have h1 : Blk ((w.alloc (.cells #[.int .i64 W, .int .i64 L.length, .slice A L.length c] 29)).alloc (.cells #[.int .i64 0, .int .i64 0, .slice none 0 0] 29)) w.heap.size 29 (rgC W L.length A c) := (Blk.new w _ (rgC W L.length A c)).alloc _
  have h2 : Blk ((w.alloc (.cells #[.int .i64 W, .int .i64 L.length, .slice A L.length c] 29)).alloc (.cells #[.int .i64 0, .int .i64 0, .slice none 0 0] 29)) (w.heap.size + 1) 29 (rgC 0 0 none 0) := Blk.new1 w _ _ (rgC 0 0 none 0)
  obtain ⟨n, hn⟩ : ∃ n, n = L.length := ⟨_, rfl⟩
  rw [← hn] at hr h5 hb0 h1 h2 ⊢
  have hvl : vs.length = n := by rw [hn]; exact hrows.1
  obtain ⟨Av, cv, rfl, hvn, hvc⟩ := hv
  have HV := Lib.hid (show RowD w D (.slice Av l.length cv) l from ⟨Av, cv, rfl, hvn, hvc⟩)
  have HSL := Lib.hid ((hvs.sl.alloc (Nat.le_refl _) (.cells #[.int .i64 W, .int .i64 n, .slice A n c] 29)).alloc (by simp) (.cells #[.int .i64 0, .int .i64 0, .slice none 0 0] 29) |>.alloc (by simp; omega) (.cells #[] 94))
  have HROWS := Lib.hid hrows
  have HONE := Lib.hid hrows.one
  have HVL := Lib.hid hvl
  have HNIL := Lib.hid hnil
  have HB0 := Lib.hid hb0
  have H1 := Lib.hid h1
  have H2 := Lib.hid h2
  have HN := Lib.hid hn
  have hri : (row : Int) < n := by omega
  clear hi0 hz0 hz1 hz2 hvs hrows hvl hnil hb0 h1 h2 hvn hvc hn hcap
  go_enter Tryz.func125, Tryz.ntmps125
  go_wp2_with (first
    | (at_builtin; (refine wpList_append_sl _ rfl (.tmp 8) (.tmp 10) _ rfl (w.heap.size + 2) 94 i0 _ 1 24 Tryz.underlying27 HI0.out HZ0.out HZ1.out HZ2.out rfl (by omega) (.slice (some ⟨w.heap.size + 2, 0, none⟩) 0 0) 0 [] rfl (by have := World.ownsRow_lit (base := w.heap.size + 2) (e := 94) (size := 1) ((w.alloc (.cells #[.int .i64 W, .int .i64 n, .slice A n c] 29)).alloc (.cells #[.int .i64 0, .int .i64 0, .slice none 0 0] 29)) #[] 0 (by simp) (by simp only [maxLen]; omega) (by simp); simpa using this) w.heap.size A n c vs rfl HSL.out (by rw [HVL.out]; omega) HNIL.out HONE.out (by simp only [maxLen]; omega) (by omega) (by simp) ?_); intro v' w2 ho hg hat; rw [Nat.zero_add, List.nil_append] at ho; obtain ⟨g, cap, cur, rfl, hbg, hb2, htk, hlc⟩ := own_blk ho (by omega); have HCP := Lib.hid (own_cap ho); have hbw2 : Below (w.heap.size + 2) ((w.alloc (.cells #[.int .i64 W, .int .i64 n, .slice A n c] 29)).alloc (.cells #[.int .i64 0, .int .i64 0, .slice none 0 0] 29)) w2 := ((Below.refl _ _).alloc (by simp) (.cells #[] 94)).grown hg (by simp) (fun j hj => by have : some (w.heap.size + 2) = some j := hj; injection this with this; omega); have HX2 := Lib.hid (H1.out.below hbw2 (by omega)); have HR2 := Lib.hid (H2.out.below hbw2 (by omega)); have HBW2 := Lib.hid (HB0.out.trans (hbw2.mono (by omega))); have HB2 := Lib.hid hb2; have HTK := Lib.hid htk; have HBG := Lib.hid hbg; have HLC := Lib.hid hlc; clear ho hg hat hb2 htk hbg hlc hbw2)
    | ((with_reducible refine at_store 16 ?_); refine wpList_store_blk rfl _ _ _ rfl rfl g row _ cur [.slice Av l.length cv] rfl rfl HB2.out (by have := HLC.out; simp; omega) rrow_size (fun v hv => by simp at hv; subst hv; rfl) ?_; intro w3 hn3 hg3; have hne : g ≠ w.heap.size ∧ g ≠ w.heap.size + 1 := (by have := HBG.out; omega); have HB3 := Lib.hid (show Blk w3 g 94 (splice cur row [.slice Av l.length cv]) from hn3); have HX3 := Lib.hid (HX2.out.chg (chg_of_grown hg3) (fun e => hne.1 (Eq.symm e))); have HR3 := Lib.hid (HR2.out.chg (chg_of_grown hg3) (fun e => hne.2 (Eq.symm e))); have HBW3 := Lib.hid (HBW2.out.grown hg3 HBW2.out.size (fun j hj => by injection hj with hj; have := HBG.out; omega)); clear hn3 hg3)
    | ((with_reducible refine at_store 18 ?_); refine wpList_store_cell rfl _ _ _ rfl rfl w.heap.size 2 _ _ (.slice (some ⟨g, 0, none⟩) n cap) rfl rfl HX3.out (by simp [rgC]) (by kernel_rfl) rfl ?_; intro w4 hn4 hg4; have HX4 := Lib.hid (show Blk w4 w.heap.size 29 (rgC W n (some ⟨g, 0, none⟩) cap) from hn4); have HR4 := Lib.hid (HR3.out.chg (chg_of_grown hg4) (fun e => by have e' : w.heap.size + 1 = w.heap.size := e; omega)); have HB4 := Lib.hid (HB3.out.chg (chg_of_grown hg4) (fun e => hne.1 e)); have HBW4 := Lib.hid (HBW3.out.grown hg4 HBW3.out.size (fun j hj => by injection hj with hj; omega)); clear hn4 hg4)
    | ((with_reducible refine at_dst 19 ?_); refine wpList_load_mid rfl _ _ rfl w.heap.size 0 rfl (rgC W n (some ⟨g, 0, none⟩) cap) _ HX4.out.whole Tryz.underlying29 rfl rg_size ?_)
    | ((with_reducible refine at_store 6 ?_); refine wpList_store_blk rfl _ _ _ rfl rfl (w.heap.size + 1) 0 _ (rgC 0 0 none 0) (rgC W n (some ⟨g, 0, none⟩) cap) rfl rfl HR4.out (by simp [rgC]) rg_size (rgC_one _ _ _ _) ?_; intro w5 hn5 hg5))
  have hc5 : Blk w5 (w.heap.size + 1) 29 (rgC W n (some ⟨g, 0, none⟩) cap) := hn5
  have hbw := HBW4.out.grown hg5 HBW4.out.size (fun j hj => by injection hj with hj; omega)
  refine bodyPost_ret (results_c rfl rfl hc5.whole Tryz.underlying29 rfl rg_size) rfl ⟨_, rfl, ⟨some ⟨g, 0, none⟩, cap, by rw [List.length_set, ← HN.out], ?_⟩, hbw⟩
  have hb5 := HB4.out.chg (chg_of_grown hg5) (fun e => hne.2 e)
  have et : (splice cur row [.slice Av l.length cv]).take (n * 1) = vs.set row (.slice Av l.length cv) := by
    rw [take_splice _ _ _ _ (by simp; omega) HLC.out, HTK.out, splice_one _ _ _ (by rw [HVL.out]; exact hr)]
  refine ⟨fun e => (by cases e), ?_, vs.set row (.slice Av l.length cv), sld_of_blk hb5 et (.inr (by have := HBG.out; omega)), ?_⟩
  · have := HCP.out
    have := HN.out
    rw [List.length_set]
    omega
  · exact ((HROWS.out.set row HV.out).below hbw).mono (fun b _ h => .inl h)

set_option maxRecDepth 100000 in
set_option maxHeartbeats 4000000 in
theorem rtext_yes {w : World} {D : Nat → Prop} {A : Option Addr} {c W : Nat} {L : List (List Cl)} (h : RfAt w D A c L) (row : Nat) (l : List Cl) (hl : L[row]? = some l) (hf : Wf l) (h5 : l.length ≤ 500) :
    Calls Tryz.prog 40 #[.agg #[.int .i64 W, .int .i64 L.length, .slice A L.length c], .int .i64 row] w fun e w' => e = .returned (.string ⟨(textM l).toArray⟩) ∧ Below w.heap.size w w' := by
  have hb0 : Below w.heap.size w (w.alloc (.cells #[.int .i64 W, .int .i64 L.length, .slice A L.length c] 29)) := (Below.refl _ _).alloc (Nat.le_refl _) _
  have hcall := rcells_yes (W := W) (h.below hb0) row l hl
  have HCALL := Lib.hid hcall
  have HB0 := Lib.hid hb0
  have HSH := Lib.hid (fun k => flatS_le (l := l.take k) (fun c hc => hf.mem c (List.mem_of_mem_take hc)))
  have HSH1 := Lib.hid hf.short
  generalize L.length = m at *
  obtain ⟨n, hn⟩ : ∃ n, n = l.length := ⟨_, rfl⟩
  rw [← hn] at h5
  have HN := Lib.hid hn
  clear h hl hf hb0 hcall hn
  go_enter Tryz.func40, Tryz.ntmps40
  go_wp2_with (fail)
  refine HCALL.out.mono ?_
  rintro e w1 ⟨u, rfl, hr1, hb1⟩
  obtain ⟨Ai, ci, rfl, hnil, hs⟩ := hr1
  rw [← HN.out]
  have HS := Lib.hid hs
  have HB1 := Lib.hid (HB0.out.trans (hb1.mono HB0.out.size))
  clear hb1 hs hnil HCALL
  go_wp2_with (fail)
  go_loop [6, 7] (fun v6 v7 => ∃ k : Nat, v7 = .int .i64 k ∧ k ≤ n ∧ v6 = .string ⟨(flatS (l.take k)).toArray⟩) (fun _ v7 => n - (intOf v7).toNat)
  case atStart => exact ⟨0, rfl, by omega, rfl⟩
  case round =>
    obtain ⟨k, rfl, hk, rfl⟩ := hrel
    by_cases hlt : k < n
    · have hki : (k : Int) < n := by omega
      have hc : l[k]? = some (l[k]'(by have := HN.out; omega)) := List.getElem?_eq_getElem _
      generalize l[k]'(by have := HN.out; omega) = x at hc
      obtain ⟨bi, oi, rfl, hbi, _, hcx⟩ := HS.out.open_ (by rw [rc_length]; have := HN.out; omega)
      have hx := hcx _ _ (rc_get hc (j := 0) rfl)
      rw [Nat.add_zero] at hx
      have hsum : (⟨(flatS (l.take k)).toArray⟩ : ByteArray) ++ ⟨x.s.toArray⟩ = ⟨(flatS (l.take (k + 1))).toArray⟩ := by
        rw [flatS_snoc hc]; apply ByteArray.ext; simp [ByteArray.data_append]
      have h64 := HSH1.out k x hc
      have hFk : (flatS (l.take k)).length ≤ 40000 := by
        have h1 := HSH.out k
        have h2 : (l.take k).length ≤ k := List.length_take_le _ _
        omega
      obtain ⟨F, hF⟩ : ∃ F, F = flatS (l.take k) := ⟨_, rfl⟩
      obtain ⟨G, hG⟩ : ∃ G, G = x.s := ⟨_, rfl⟩
      rw [← hF, ← hG] at hsum
      rw [← hF] at hFk ⊢
      rw [← hG] at h64 hx
      have hs1 : (⟨F.toArray⟩ : ByteArray).size + (⟨G.toArray⟩ : ByteArray).size ≤ 9223372036854775807 := by
        have a : (⟨F.toArray⟩ : ByteArray).size = F.length := by show F.toArray.size = _; simp
        have b : (⟨G.toArray⟩ : ByteArray).size = G.length := by show G.toArray.size = _; simp
        omega
      have hst : ∀ w, (Op.stringOp .add ⟨F.toArray⟩ ⟨G.toArray⟩).run Tryz.prog w = .ok (.string ⟨(flatS (l.take (k + 1))).toArray⟩) w := fun w => by
        rw [run_string_add_sum w _ _ hs1, hsum]
      clear hc hcx hsum hs1 hF hG h64 hFk
      go_wp2
      go_round
      case rel => exact ⟨k + 1, by go_num, by omega, rfl⟩
      case measure => simp [intOf]; omega
    · have hki : ¬ (k : Int) < n := by omega
      obtain rfl : k = n := by omega
      rw [List.take_of_length_le (by have := HN.out; omega)]
      have hfl : (flatS l).length ≤ 40000 := by
        have h1 := HSH.out k
        rw [List.take_of_length_le (by have := HN.out; omega)] at h1
        have := HN.out
        omega
      have hsz : (⟨(flatS l).toArray⟩ : ByteArray).size = (flatS l).length := by show (flatS l).toArray.size = _; simp
      obtain ⟨F, hF⟩ : ∃ F, F = flatS l := ⟨_, rfl⟩
      have HTX : Hid (textM l = Lib.trimRightB F 32) := by show _ = _; unfold textM; rw [hF]
      rw [← hF] at hfl hsz ⊢
      have HSZ := Lib.hid hsz
      obtain ⟨m2, hm2⟩ : ∃ m2, m2 = F.length := ⟨_, rfl⟩
      have hsm : (⟨F.toArray⟩ : ByteArray).size = m2 := by rw [hm2]; exact hsz
      have HM2 := Lib.hid hm2
      rw [← hm2] at hfl
      obtain ⟨S, hS⟩ : ∃ S : ByteArray, S = ⟨F.toArray⟩ := ⟨_, rfl⟩
      have HSF : Hid (S.data.toList = F) := by show _ = _; rw [hS]
      have HSFA : Hid (∀ j : Nat, S.extract 0 j = ⟨(F.take j).toArray⟩) := fun j => by rw [hS]; apply ByteArray.ext; simp [ByteArray.data_extract]
      rw [← hS] at hsm ⊢
      have HSM := Lib.hid hsm
      clear hF hsz hS hm2 hsm
      go_wp2_with (fail)
      go_loop [8] (fun v8 => ∃ j : Nat, v8 = .int .i64 j ∧ j ≤ m2 ∧ ∀ (i : Nat) b, j ≤ i → F[i]? = some b → b = 32) (fun v8 => (intOf v8).toNat)
      case atStart => exact ⟨m2, by first | rfl | rw [HSM.out], by omega, fun i b hi hb => by have := (List.getElem?_eq_some_iff.1 hb).1; have := HM2.out; omega⟩
      case round =>
        obtain ⟨j, rfl, hj, hall⟩ := hrel
        have HALL := Lib.hid hall
        clear hall
        by_cases h0 : j = 0
        · subst h0
          have he : textM l = [] := by
            rw [HTX.out, Lib.trimRightB_take F 32 0 (by omega) (fun i b hi hb => HALL.out i b hi hb) (fun b hb => by omega)]
            rfl
          have HE := Lib.hid he
          clear he
          go_wp2
          go_ret
          exact ⟨by rw [HE.out]; rfl, HB1.out⟩
        · obtain ⟨i, rfl⟩ : ∃ i, j = i + 1 := ⟨j - 1, by omega⟩
          have hii : ((i + 1 : Nat) : Int) = (i : Int) + 1 := by omega
          rw [hii]
          have hpos : 0 < (i : Int) + 1 := by omega
          have hi2 : i < S.size := by have := HSM.out; omega
          have hFi : F[i]? = some S[i] := by
            have e := HSF.out
            rw [← e, Array.getElem?_toList]
            exact Array.getElem?_eq_getElem hi2
          by_cases hb : S[i] = 32
          · have hq : ((S[i].toNat : Int) == 32) = true := by rw [hb]; rfl
            have HFI := Lib.hid hFi
            have HBB := Lib.hid hb
            clear hFi hb h0
            go_wp2
            refine ⟨⟨i, rfl, by omega, fun q b hq2 hb2 => ?_⟩, by simp [intOf]⟩
            by_cases e : q = i
            · subst e
              have h1 := HFI.out
              rw [HBB.out] at h1
              rw [h1] at hb2
              injection hb2 with hb2
              exact hb2.symm
            · exact HALL.out q b (by omega) hb2
          · have hq : ((S[i].toNat : Int) == 32) = false := by
              simp
              intro e
              apply hb
              apply UInt8.toNat.inj
              have : S[i].toNat = 32 := by omega
              rw [this]
              rfl
            have he : textM l = F.take (i + 1) := by
              rw [HTX.out, Lib.trimRightB_take F 32 (i + 1) (by have := HM2.out; omega) (fun q b hq2 hb2 => HALL.out q b hq2 hb2) (fun b _ hb2 => ?_)]
              rw [show i + 1 - 1 = i by omega, hFi] at hb2
              injection hb2 with hb2
              rw [← hb2]
              exact hb
            have HE := Lib.hid he
            clear hFi hb h0 he
            go_wp2
            go_ret
            exact ⟨by rw [HE.out, HSFA.out]; rfl, HB1.out⟩

theorem rtext_any {w : World} {D : Nat → Prop} {A : Option Addr} {c W : Nat} {L : List (List Cl)} (row : Int) (hr : row < 0 ∨ (L.length : Int) ≤ row) :
    Calls Tryz.prog 40 #[.agg #[.int .i64 W, .int .i64 L.length, .slice A L.length c], .int .i64 row] w fun e w' => e = .returned (.string ⟨#[]⟩) ∧ Below w.heap.size w w' := by
  have hb0 : Below w.heap.size w (w.alloc (.cells #[.int .i64 W, .int .i64 L.length, .slice A L.length c] 29)) := (Below.refl _ _).alloc (Nat.le_refl _) _
  have HCALL := Lib.hid (rcells_no W L.length A L.length c row hr)
  have HB0 := Lib.hid hb0
  clear hb0
  go_enter Tryz.func40, Tryz.ntmps40
  go_wp2_with (fail)
  refine (HCALL.out _).mono ?_
  rintro e w1 ⟨rfl, hb1⟩
  have HB1 := Lib.hid (HB0.out.trans (hb1.mono HB0.out.size))
  clear hb1 HCALL
  go_wp2_with (fail)
  go_loop [6, 7] (fun v6 v7 => v7 = .int .i64 0 ∧ v6 = .string ⟨#[]⟩) (fun _ _ => 0)
  case atStart => exact ⟨rfl, rfl⟩
  case round =>
    obtain ⟨rfl, rfl⟩ := hrel
    go_wp2_with (fail)
    go_loop [8] (fun v8 => v8 = .int .i64 0) (fun _ => 0)
    case atStart => rfl
    case round =>
      subst hrel
      go_wp2
      go_ret
      exact ⟨rfl, HB1.out⟩
end Go.Proofs.YtfmkeeaenjeneaaGreatDoor

namespace Go.Proofs.YtfmkeeaenjeneaaGreatDoor
open Go.RowKit
set_option linter.unusedVariables false
set_option linter.unusedSimpArgs false

theorem RfV.below {w w' : World} {D : Nat → Prop} {V : Value} {W : Nat} {L : List (List Cl)} (h : RfV w D V W L) (hb : Below w.heap.size w w') : RfV w' D V W L := by
  obtain ⟨A, c, rfl, h⟩ := h
  exact ⟨A, c, rfl, h.below hb⟩
theorem RfV.mono {w : World} {D D' : Nat → Prop} {V : Value} {W : Nat} {L : List (List Cl)} (h : RfV w D V W L) (hd : ∀ b, b < w.heap.size → D b → D' b) : RfV w D' V W L := by
  obtain ⟨A, c, rfl, h⟩ := h
  exact ⟨A, c, rfl, h.mono hd⟩
theorem RfV.chg {S : Nat → Prop} {w w' : World} {D : Nat → Prop} {V : Value} {W : Nat} {L : List (List Cl)} (h : RfV w D V W L) (hc : Chg S w w') (hn : ∀ b, b < w.heap.size → D b → ¬ S b) : RfV w' D V W L := by
  obtain ⟨A, c, rfl, h⟩ := h
  exact ⟨A, c, rfl, h.chg hc hn⟩
theorem RfAt.v {w : World} {D : Nat → Prop} {A : Option Addr} {c W : Nat} {L : List (List Cl)} (h : RfAt w D A c L) : RfV w D (.agg (rgC W L.length A c).toArray) W L := ⟨A, c, rfl, h⟩

/-- the worlds in which Put begins -/
def putW0 (w : World) (W n : Nat) (A : Option Addr) (c : Nat) (y : Sty) : World := ((w.alloc (.cells #[.int .i64 W, .int .i64 n, .slice A n c] 29)).alloc (.cells y.cells.toArray 31)).alloc (.cells #[.int .i64 0, .int .i64 0, .slice none 0 0] 29)
theorem putW0_is (w : World) (W n : Nat) (A : Option Addr) (c : Nat) (y : Sty) : Below w.heap.size w (putW0 w W n A c y) ∧ Blk (putW0 w W n A c y) w.heap.size 29 (rgC W n A c) ∧ Blk (putW0 w W n A c y) (w.heap.size + 1) 31 y.cells ∧ Blk (putW0 w W n A c y) (w.heap.size + 1 + 1) 29 (rgC 0 0 none 0) := by
  unfold putW0
  exact ⟨(((Below.refl _ _).alloc (Nat.le_refl _) _).alloc (by simp) _).alloc (by simp; omega) _, ((Blk.new w _ (rgC W n A c)).alloc _).alloc _, (Blk.new1 w _ _ y.cells).alloc _, Blk.new2 w _ _ _ (rgC 0 0 none 0)⟩

set_option maxRecDepth 100000 in
set_option maxHeartbeats 8000000 in
theorem rput_no {w : World} {W n : Nat} {A : Option Addr} {c : Nat} (row col : Int) (s : List UInt8) (m : Int) (y : Sty) (hs : s.length ≤ 1000000) (q : Int) (hw5 : W ≤ 500)
    (hbad : ((s = [] ∨ 64 < s.length ∨ (m ≠ 1 ∧ m ≠ 2)) ∧ q = 1) ∨ ((s ≠ [] ∧ s.length ≤ 64 ∧ (m = 1 ∨ m = 2)) ∧ (inB row col W n = false ∨ inB row (col + m - 1) W n = false) ∧ q = 5)) :
    Calls Tryz.prog 122 #[.agg #[.int .i64 W, .int .i64 n, .slice A n c], .int .i64 row, .int .i64 col, .string ⟨s.toArray⟩, .int .i64 m, .agg y.cells.toArray] w fun e w' => e = .returned (.tuple #[.agg (rgC W n A c).toArray, .int .i64 q]) ∧ Below w.heap.size w w' := by
  obtain ⟨hb0, h1, h2, h3⟩ := putW0_is w W n A c y
  have hW0 : putW0 w W n A c y = ((w.alloc (.cells #[.int .i64 W, .int .i64 n, .slice A n c] 29)).alloc (.cells y.cells.toArray 31)).alloc (.cells #[.int .i64 0, .int .i64 0, .slice none 0 0] 29) := rfl
  generalize putW0 w W n A c y = W0 at hb0 h1 h2 h3 hW0
  have hsz : (⟨s.toArray⟩ : ByteArray).size = s.length := by show s.toArray.size = _; simp
  have HSZ := Lib.hid hsz
  have HB0 := Lib.hid hb0
  have H1 := Lib.hid h1
  have H3 := Lib.hid h3
  have HW0 := Lib.hid hW0
  clear hsz hb0 h1 h2 h3 hW0
  rcases hbad with ⟨hbad, rfl⟩ | ⟨⟨hs0, hs64, hm⟩, hbad, rfl⟩
  · by_cases h1 : s = []
    · subst h1
      clear hbad
      go_enter Tryz.func122, Tryz.ntmps122
      go_upto_region 2 with fail
      rw [← HW0.out]
      obtain ⟨e0, e1, e2⟩ := blk3 H1.out
      go_wp2_with ((with_reducible refine at_store 12 ?_); refine wpList_store_blk rfl _ _ _ rfl rfl (w.heap.size + 1 + 1) 0 _ (rgC 0 0 none 0) (rgC W n A c) rfl rfl H3.out (by simp [rgC]) rg_size (rgC_one _ _ _ _) ?_; intro w2 hn2 hg2; have hn2' : Blk w2 (w.heap.size + 1 + 1) 29 (rgC W n A c) := hn2)
      exact bodyPost_ret (results_ct rfl rfl rfl hn2'.whole Tryz.underlying29 rfl rg_size) rfl ⟨rfl, HB0.out.grown hg2 HB0.out.size (fun j hj => by injection hj with hj; omega)⟩
    · have hse : s.isEmpty = false := by cases s with
        | nil => exact absurd rfl h1
        | cons _ _ => rfl
      by_cases h2 : 64 < s.length
      · have h64 : decide (64 < (s.length : Int)) = true := by simp; omega
        clear h1 hbad h2
        go_enter Tryz.func122, Tryz.ntmps122
        go_upto_region 2 with fail
        rw [← HW0.out]
        obtain ⟨e0, e1, e2⟩ := blk3 H1.out
        go_wp2_with ((with_reducible refine at_store 12 ?_); refine wpList_store_blk rfl _ _ _ rfl rfl (w.heap.size + 1 + 1) 0 _ (rgC 0 0 none 0) (rgC W n A c) rfl rfl H3.out (by simp [rgC]) rg_size (rgC_one _ _ _ _) ?_; intro w2 hn2 hg2; have hn2' : Blk w2 (w.heap.size + 1 + 1) 29 (rgC W n A c) := hn2)
        exact bodyPost_ret (results_ct rfl rfl rfl hn2'.whole Tryz.underlying29 rfl rg_size) rfl ⟨rfl, HB0.out.grown hg2 HB0.out.size (fun j hj => by injection hj with hj; omega)⟩
      · have h64 : decide (64 < (s.length : Int)) = false := by simp; omega
        obtain ⟨hm1, hm2⟩ : m ≠ 1 ∧ m ≠ 2 := by
          rcases hbad with h | h | h
          · exact absurd h h1
          · exact absurd h h2
          · exact h
        have hm1' : (m != 1) = true := by simp [hm1]
        have hm2' : (m != 2) = true := by simp [hm2]
        clear h1 hbad h2 hm1 hm2
        go_enter Tryz.func122, Tryz.ntmps122
        go_upto_region 2 with fail
        rw [← HW0.out]
        obtain ⟨e0, e1, e2⟩ := blk3 H1.out
        go_wp2_with ((with_reducible refine at_store 12 ?_); refine wpList_store_blk rfl _ _ _ rfl rfl (w.heap.size + 1 + 1) 0 _ (rgC 0 0 none 0) (rgC W n A c) rfl rfl H3.out (by simp [rgC]) rg_size (rgC_one _ _ _ _) ?_; intro w2 hn2 hg2; have hn2' : Blk w2 (w.heap.size + 1 + 1) 29 (rgC W n A c) := hn2)
        exact bodyPost_ret (results_ct rfl rfl rfl hn2'.whole Tryz.underlying29 rfl rg_size) rfl ⟨rfl, HB0.out.grown hg2 HB0.out.size (fun j hj => by injection hj with hj; omega)⟩
  · have hse : s.isEmpty = false := by cases s with
      | nil => exact absurd rfl hs0
      | cons _ _ => rfl
    have h64 : decide (64 < (s.length : Int)) = false := by simp; omega
    by_cases hin : inB row col W n = false
    · have HIN := Lib.hid hin
      clear hin hbad hs0 hs64
      rcases hm with rfl | rfl
      all_goals
        go_enter Tryz.func122, Tryz.ntmps122
        go_upto_region 3 with fail
        rw [← HW0.out]
        obtain ⟨e0, e1, e2⟩ := blk3 H1.out
        go_wp2_with (fail)
        refine (rthere_any W n A n c row col W0).mono ?_
        rintro e w1 ⟨rfl, hb1⟩
        rw [HIN.out]
        obtain ⟨f0, f1, f2⟩ := blk3 (H1.out.below hb1 H1.out.lt)
        have H3' := Lib.hid (H3.out.below hb1 H3.out.lt)
        have HB1 := Lib.hid (HB0.out.trans (hb1.mono HB0.out.size))
        clear e0 e1 e2 hb1
        go_wp2_with ((with_reducible refine at_store 12 ?_); refine wpList_store_blk rfl _ _ _ rfl rfl (w.heap.size + 1 + 1) 0 _ (rgC 0 0 none 0) (rgC W n A c) rfl rfl H3'.out (by simp [rgC]) rg_size (rgC_one _ _ _ _) ?_; intro w2 hn2 hg2; have hn2' : Blk w2 (w.heap.size + 1 + 1) 29 (rgC W n A c) := hn2)
        exact bodyPost_ret (results_ct rfl rfl rfl hn2'.whole Tryz.underlying29 rfl rg_size) rfl ⟨rfl, HB1.out.grown hg2 HB1.out.size (fun j hj => by injection hj with hj; omega)⟩
    · have hin1 : inB row col W n = true := by simpa using hin
      have hin2 : inB row (col + m - 1) W n = false := hbad.resolve_left hin
      obtain rfl : m = 2 := by
        rcases hm with rfl | rfl
        · rw [show col + 1 - 1 = col by omega] at hin2
          rw [hin2] at hin1
          cases hin1
        · rfl
      obtain ⟨_, _, h2, h3⟩ : 0 ≤ row ∧ row < n ∧ 0 ≤ col ∧ col < W := by simpa [inB] using hin1
      have hcb : col < 500 := by omega
      have HIN := Lib.hid hin1
      have HIN2 : Hid (inB row (col + 1) W n = false) := by rw [show col + 2 - 1 = col + 1 by omega] at hin2; exact hin2
      clear hin hin1 hin2 hbad hs0 hs64 hm
      go_enter Tryz.func122, Tryz.ntmps122
      go_upto_region 3 with fail
      rw [← HW0.out]
      obtain ⟨e0, e1, e2⟩ := blk3 H1.out
      go_wp2_with (fail)
      refine (rthere_any W n A n c row col W0).mono ?_
      rintro e w1 ⟨rfl, hb1⟩
      rw [HIN.out]
      obtain ⟨f0, f1, f2⟩ := blk3 (H1.out.below hb1 H1.out.lt)
      have H1' := Lib.hid (H1.out.below hb1 H1.out.lt)
      have H3' := Lib.hid (H3.out.below hb1 H3.out.lt)
      have HB1 := Lib.hid (HB0.out.trans (hb1.mono HB0.out.size))
      clear e0 e1 e2 hb1
      go_wp2_with (fail)
      refine (rthere_any W n A n c row (col + 1) w1).mono ?_
      rintro e w3 ⟨rfl, hb3⟩
      rw [HIN2.out]
      obtain ⟨g0, g1, g2⟩ := blk3 (H1'.out.below hb3 H1'.out.lt)
      have H3'' := Lib.hid (H3'.out.below hb3 H3'.out.lt)
      have HB3 := Lib.hid (HB1.out.trans (hb3.mono HB1.out.size))
      clear f0 f1 f2 hb3
      go_wp2_with ((with_reducible refine at_store 12 ?_); refine wpList_store_blk rfl _ _ _ rfl rfl (w.heap.size + 1 + 1) 0 _ (rgC 0 0 none 0) (rgC W n A c) rfl rfl H3''.out (by simp [rgC]) rg_size (rgC_one _ _ _ _) ?_; intro w2 hn2 hg2; have hn2' : Blk w2 (w.heap.size + 1 + 1) 29 (rgC W n A c) := hn2)
      exact bodyPost_ret (results_ct rfl rfl rfl hn2'.whole Tryz.underlying29 rfl rg_size) rfl ⟨rfl, HB3.out.grown hg2 HB3.out.size (fun j hj => by injection hj with hj; omega)⟩
end Go.Proofs.YtfmkeeaenjeneaaGreatDoor

namespace Go.Proofs.YtfmkeeaenjeneaaGreatDoor
open Go.RowKit
set_option linter.unusedVariables false
set_option linter.unusedSimpArgs false

theorem enters_rset : ∀ args w, (callFunc 126 args).run Tryz.prog w = .ok (.enter 126 args) w := enters_of Tryz.func126 (by kernel_rfl) rfl
theorem enters_rwith : ∀ args w, (callFunc 125 args).run Tryz.prog w = .ok (.enter 125 args) w := enters_of Tryz.func125 (by kernel_rfl) rfl
/-- the row behind the blanking, with its tail -/
def putL (l : List Cl) (col m : Nat) (y : Sty) : List Cl := if m = 2 then (eraseM l col 2).set (col + 1) (tail_ y) else eraseM l col 1
theorem putL_length (l : List Cl) (col m : Nat) (y : Sty) : (putL l col m y).length = l.length := by
  unfold putL
  split <;> simp [eraseM_length]
theorem putR_putL (l : List Cl) (col m : Nat) (s : List UInt8) (y : Sty) (hm : m = 1 ∨ m = 2) : putR l col s m y = (putL l col m y).set col ⟨s, m, y⟩ := by
  unfold putR putL
  rcases hm with rfl | rfl
  · simp
  · simp
    rw [List.set_comm _ _ (by omega)]
theorem RowD.len {w : World} {D : Nat → Prop} {v : Value} {l : List Cl} (h : RowD w D v l) : ∃ A c, v = .slice A l.length c := by
  obtain ⟨A, c, h1, _⟩ := h
  exact ⟨A, c, h1⟩
theorem blk5 {w : World} {b : Nat} {t : TypeId} {y : Sty} (h : Blk w b t y.cells) : w.cell? ⟨b, 0, none⟩ = some (.bool y.b) ∧ w.cell? ⟨b, 1, none⟩ = some (.bool y.u) ∧ w.cell? ⟨b, 2, none⟩ = some (.bool y.i) ∧ w.cell? ⟨b, 3, none⟩ = some (.int .i64 y.f) ∧ w.cell? ⟨b, 4, none⟩ = some (.int .i64 y.g) := ⟨h.cell 0, h.cell 1, h.cell 2, h.cell 3, h.cell 4⟩

/-- a grid's three cells are written -/
def set3 (w : World) (b W n : Nat) (A : Option Addr) (c : Nat) : World := ((w.setCell ⟨b, 0, none⟩ (.int .i64 W)).setCell ⟨b, 1, none⟩ (.int .i64 n)).setCell ⟨b, 2, none⟩ (.slice A n c)
theorem grid_set3 {w : World} {b : Nat} {t : TypeId} (h : Blk w b t (rgC 0 0 none 0)) (W n : Nat) (A : Option Addr) (c : Nat) : Blk (((w.setCell ⟨b, 0, none⟩ (.int .i64 W)).setCell ⟨b, 1, none⟩ (.int .i64 n)).setCell ⟨b, 2, none⟩ (.slice A n c)) b t (rgC W n A c) ∧ Chg (one b) w (((w.setCell ⟨b, 0, none⟩ (.int .i64 W)).setCell ⟨b, 1, none⟩ (.int .i64 n)).setCell ⟨b, 2, none⟩ (.slice A n c)) :=
  ⟨((h.set_ 0 _).set_ 1 _).set_ 2 _, (((Chg.refl (one b) w).setCell (p := ⟨b, 0, none⟩) (.inl rfl) _).setCell (p := ⟨b, 1, none⟩) (.inl rfl) _).setCell (p := ⟨b, 2, none⟩) (.inl rfl) _⟩
theorem grid_fin {w w6 w7 : World} {D : Nat → Prop} {V : Value} {W : Nat} {L : List (List Cl)} (hb : Below w.heap.size w w6) (hv : RfV w6 (fun b => (D b ∧ b < w.heap.size) ∨ w.heap.size + 3 ≤ b) V W L) (hc : Chg (one (w.heap.size + 1 + 1)) w6 w7) :
    RfV w7 (fun b => D b ∨ w.heap.size ≤ b) V W L ∧ Below w.heap.size w w7 :=
  ⟨(hv.chg hc (fun b _ h e => by have e' : b = w.heap.size + 1 + 1 := e; omega)).mono (fun b _ h => h.elim (fun h => .inl h.1) (fun h => .inr (by omega))), hb.trans (hc.below hb.size (fun j e => by have e' : j = w.heap.size + 1 + 1 := e; omega))⟩

set_option maxRecDepth 100000 in
set_option maxHeartbeats 8000000 in
theorem rput_ok {w : World} {D : Nat → Prop} {A : Option Addr} {c W : Nat} {L : List (List Cl)} (h : RfAt w D A c L) (row col : Nat) (s : List UInt8) (m : Nat) (y : Sty) (l : List Cl) (hl : L[row]? = some l) (hlen : l.length = W) (hw5 : W ≤ 500) (hh5 : L.length ≤ 500)
    (hs0 : s ≠ []) (hs64 : s.length ≤ 64) (hm : m = 1 ∨ m = 2) (hc : col + m ≤ W) :
    Calls Tryz.prog 122 #[.agg #[.int .i64 W, .int .i64 L.length, .slice A L.length c], .int .i64 row, .int .i64 col, .string ⟨s.toArray⟩, .int .i64 m, .agg y.cells.toArray] w fun e w' => ∃ V, e = .returned (.tuple #[V, .int .i64 0]) ∧ RfV w' (fun b => D b ∨ w.heap.size ≤ b) V W (L.set row (putR l col s m y)) ∧ Below w.heap.size w w' := by
  have hr : row < L.length := (List.getElem?_eq_some_iff.1 hl).1
  have hri : (row : Int) < L.length := by omega
  have hcol : col < l.length := by omega
  have hci : (col : Int) < W := by omega
  have hcb : (col : Int) < 500 := by omega
  rw [putR_putL l col m s y hm]
  have hpl := putL_length l col m y
  obtain ⟨hb0, h1, h2, h3⟩ := putW0_is w W L.length A c y
  have hW0 : putW0 w W L.length A c y = ((w.alloc (.cells #[.int .i64 W, .int .i64 L.length, .slice A L.length c] 29)).alloc (.cells y.cells.toArray 31)).alloc (.cells #[.int .i64 0, .int .i64 0, .slice none 0 0] 29) := rfl
  generalize putW0 w W L.length A c y = W0 at hb0 h1 h2 h3 hW0
  have hsz : (⟨s.toArray⟩ : ByteArray).size = s.length := by show s.toArray.size = _; simp
  have HSZ := Lib.hid hsz
  have HB0 := Lib.hid hb0
  have H1 := Lib.hid h1
  have H2 := Lib.hid h2
  have H3 := Lib.hid h3
  have HW0 := Lib.hid hW0
  have HR := Lib.hid h
  obtain ⟨b, off, Ai, ci, rfl, hlat⟩ := h.row_later hl
  have HLAT := Lib.hid hlat
  have HLEN := Lib.hid hlen
  have HPL := Lib.hid hpl
  have hin1 : inB row col W L.length = true := by unfold inB; simp; omega
  have HIN := Lib.hid hin1
  have hse : s.isEmpty = false := by cases s with
    | nil => exact absurd rfl hs0
    | cons _ _ => rfl
  have h64 : decide (64 < (s.length : Int)) = false := by simp; omega
  obtain ⟨n, hn⟩ : ∃ n, n = L.length := ⟨_, rfl⟩
  have HN := Lib.hid hn
  rw [← hn] at hr hri hh5 H1 HW0 HIN ⊢
  have hl5 : l.length ≤ 500 := by omega
  clear hsz hb0 h1 h2 h3 hW0 h hl hlat hpl hin1 hs0 hn hlen
  have pre : ∀ w1, Below W0.heap.size W0 w1 → Blk w1 w.heap.size 29 (rgC W n (some ⟨b, off, none⟩) c) ∧ Blk w1 (w.heap.size + 1) 31 y.cells ∧ Blk w1 (w.heap.size + 1 + 1) 29 (rgC 0 0 none 0) ∧ Below w.heap.size w w1 := fun w1 hb =>
    ⟨H1.out.below hb H1.out.lt, H2.out.below hb H2.out.lt, H3.out.below hb H3.out.lt, HB0.out.trans (hb.mono HB0.out.size)⟩
  have PRE := Lib.hid pre
  clear pre H1 H2 H3 HB0
  rcases hm with rfl | rfl
  · go_enter Tryz.func122, Tryz.ntmps122
    go_upto_region 3 with fail
    rw [← HW0.out]
    obtain ⟨h1, h2, h3, hb0⟩ := PRE.out W0 (Below.refl _ _)
    obtain ⟨e0, e1, e2⟩ := blk3 h1
    clear h1 h2 h3 hb0
    go_wp2_with (fail)
    refine (rthere_any W n _ n c row col W0).mono ?_
    rintro e w1 ⟨rfl, hb1⟩
    rw [HIN.out]
    obtain ⟨h1, h2, h3, hbw⟩ := PRE.out w1 hb1
    obtain ⟨f0, f1, f2⟩ := blk3 h1
    obtain ⟨hcr, hrow⟩ := HLAT.out _ hbw
    have HROW := Lib.hid hrow
    have HB1 := Lib.hid hb1
    clear e0 e1 e2 h1 h2 h3 hbw hrow hb1
    go_wp2_with (fail)
    refine (rblank_any HROW.out col hcol (by omega)).mono ?_
    rintro e w2 ⟨v2, rfl, hr2, hb2⟩
    have e1 : putL l col 1 y = blankM l col := rfl
    rw [← e1] at hr2
    have HROW2 := Lib.hid hr2
    clear e1
    have HB2 := Lib.hid (HB1.out.trans (hb2.mono HB1.out.size))
    have HWS := Lib.hid (show w.heap.size ≤ w1.heap.size from (PRE.out w1 HB1.out).2.2.2.size)
    obtain ⟨A2, c2, rfl⟩ := HROW2.out.len
    rw [HPL.out] at HROW2 ⊢
    clear hr2 hb2 f0 f1 f2 hcr HROW HB1 HLAT
    go_upto_region 9 with fail
    obtain ⟨h1, h2, h3, hb0⟩ := PRE.out w2 HB2.out
    obtain ⟨e0, e1, e2⟩ := blk3 h1
    obtain ⟨y0, y1, y2, y3, y4⟩ := blk5 h2
    have hset := rset_any (w := w2.drew) (HROW2.out.below (Below.refl _ _).drew) col ⟨s, 1, y⟩ (by rw [HPL.out]; exact hcol) (by rw [HPL.out]; omega)
    have HSET := Lib.hid hset
    have H3 := Lib.hid h3
    have HBW := Lib.hid hb0
    clear h1 h2 h3 hb0 hset
    go_region_law (first
      | (refine step_call rfl 126 _ _ rfl enters_rset #[.slice A2 l.length c2, .int .i64 col, .agg #[.string ⟨s.toArray⟩, .int .i64 1, .bool y.b, .bool y.u, .bool y.i, .int .i64 y.f, .int .i64 y.g]] (by simp [Act.eval, Act.put]) HSET.out ?_; rintro e w5 ⟨v5, rfl, hr5, hb5⟩; refine ⟨_, rfl, ?_⟩; have HR5 := Lib.hid hr5; have HB5 := Lib.hid (HB2.out.trans (((Below.refl _ _).drew.trans hb5).mono HB2.out.size)); obtain ⟨h1, h2, h3, hb0⟩ := PRE.out w5 HB5.out; obtain ⟨x0, x1, x2⟩ := blk3 h1; have H35 := Lib.hid h3; have HBW5 := Lib.hid hb0; have hwith := rwith_any (W := W) ((HR.out.mono (D' := (fun b => (D b ∧ b < w.heap.size) ∨ w.heap.size + 3 ≤ b)) (fun b hb h => .inl ⟨h, hb⟩)).below HBW5.out) row (by have := HN.out; omega) (by have := HN.out; omega) (HR5.out.mono (D' := (fun b => (D b ∧ b < w.heap.size) ∨ w.heap.size + 3 ≤ b)) (fun b _ h => .inr (by have := H3.out.lt; have : w2.heap.size ≤ b := h; omega))); rw [← HN.out] at hwith; have HWITH := Lib.hid hwith; clear h1 h2 h3 hb0 hr5 hb5 hwith)
      | (refine step_call rfl 125 _ _ rfl enters_rwith #[.agg #[.int .i64 W, .int .i64 n, .slice (some ⟨b, off, none⟩) n c], .int .i64 row, v5] (by simp [Act.eval, Act.put]) HWITH.out ?_; rintro e w6 ⟨V, rfl, hv6, hb6⟩; refine ⟨_, rfl, ?_⟩; have HV6 := Lib.hid (hv6.mono (D' := (fun b => (D b ∧ b < w.heap.size) ∨ w.heap.size + 3 ≤ b)) (fun b _ h => h.elim id (fun h => .inr (by have := H35.out.lt; omega)))); obtain ⟨A6, c6, rfl, _⟩ := hv6; rw [List.length_set, ← HN.out] at HV6 ⊢; have HB6 := Lib.hid (HBW5.out.trans (hb6.mono HBW5.out.size)); have H36 := Lib.hid (H35.out.below hb6 H35.out.lt); obtain ⟨z0, z1, z2⟩ := blk3 H36.out; have zf0 := H36.out.frozen 0; have zf1 := H36.out.frozen 1; have zf2 := H36.out.frozen 2; clear hb6; simp only [rgC]))
    all_goals
      (try simp only [Act.put])
      go_simp
      go_wp2
      have hf := grid_set3 H36.out W n A6 c6
      exact bodyPost_ret (results_ct rfl rfl rfl hf.1.whole Tryz.underlying29 rfl rg_size) rfl ⟨_, rfl, grid_fin HB6.out HV6.out hf.2⟩
  · have hc1i : (col : Int) + 1 < W := by omega
    have hin2 : Hid (inB row ((col : Int) + 1) W n = true) := by show _ = _; unfold inB; simp; omega
    go_enter Tryz.func122, Tryz.ntmps122
    go_upto_region 3 with fail
    rw [← HW0.out]
    obtain ⟨h1, h2, h3, hb0⟩ := PRE.out W0 (Below.refl _ _)
    obtain ⟨e0, e1, e2⟩ := blk3 h1
    clear h1 h2 h3 hb0
    go_wp2_with (fail)
    refine (rthere_any W n _ n c row col W0).mono ?_
    rintro e w0 ⟨rfl, hb1⟩
    rw [HIN.out]
    obtain ⟨h1, h2, h3, hbw⟩ := PRE.out w0 hb1
    obtain ⟨g0, g1, g2⟩ := blk3 h1
    have HB00 := Lib.hid hb1
    clear e0 e1 e2 h1 h2 h3 hbw hb1
    go_wp2_with (fail)
    refine (rthere_any W n _ n c row ((col : Int) + 1) w0).mono ?_
    rintro e w1 ⟨rfl, hb1'⟩
    rw [hin2.out]
    have hb1 := HB00.out.trans (hb1'.mono HB00.out.size)
    obtain ⟨h1, h2, h3, hbw⟩ := PRE.out w1 hb1
    obtain ⟨f0, f1, f2⟩ := blk3 h1
    obtain ⟨hcr, hrow⟩ := HLAT.out _ hbw
    have HROW := Lib.hid hrow
    have HB1 := Lib.hid hb1
    clear g0 g1 g2 h1 h2 h3 hbw hrow hb1 hb1' HB00
    go_wp2_with (fail)
    refine (rblank_any HROW.out col hcol (by omega)).mono ?_
    rintro e wa ⟨va, rfl, hra, hba⟩
    have HRA := Lib.hid hra
    have HBA := Lib.hid (HB1.out.trans (hba.mono HB1.out.size))
    have HLA : Hid ((blankM l col).length = l.length) := blankM_length l col
    obtain ⟨Aa, ca, rfl⟩ := HRA.out.len
    rw [HLA.out] at HRA ⊢
    clear hra hba
    go_wp2_with (fail)
    have hcall := rblank_any HRA.out (col + 1) (by rw [HLA.out]; have := HLEN.out; omega) (by rw [HLA.out]; omega)
    rw [show ((col + 1 : Nat) : Int) = (col : Int) + 1 by omega] at hcall
    refine hcall.mono ?_
    rintro e wb ⟨vb, rfl, hrb, hbb⟩
    have HRB := Lib.hid (show RowD wb (fun b => wa.heap.size ≤ b) vb (eraseM l col 2) from hrb)
    have HBB := Lib.hid (HBA.out.trans (hbb.mono HBA.out.size))
    have HLB : Hid ((eraseM l col 2).length = l.length) := eraseM_length l col 2
    obtain ⟨Ab, cb, rfl⟩ := HRB.out.len
    rw [HLB.out] at HRB ⊢
    have hyb := (PRE.out wb HBB.out).2.1
    obtain ⟨q0, q1, q2, q3, q4⟩ := blk5 hyb
    have hsz2 : Hid (w.heap.size ≤ wb.heap.size) := (PRE.out wb HBB.out).2.2.2.size
    clear hrb hbb hyb HRA
    go_wp2_with (fail)
    have hcall := rset_any HRB.out (col + 1) (tail_ y) (by rw [HLB.out]; have := HLEN.out; omega) (by rw [HLB.out]; omega)
    rw [show ((col + 1 : Nat) : Int) = (col : Int) + 1 by omega] at hcall
    refine hcall.mono ?_
    rintro e w2 ⟨v2, rfl, hr2, hb2⟩
    have HROW2 := Lib.hid (show RowD w2 (fun b => wb.heap.size ≤ b) v2 (putL l col 2 y) from hr2)
    have HB2 := Lib.hid (HBB.out.trans (hb2.mono HBB.out.size))
    have HWS := hsz2
    obtain ⟨A2, c2, rfl⟩ := HROW2.out.len
    rw [HPL.out] at HROW2 ⊢
    clear hr2 hb2 f0 f1 f2 hcr HROW HB1 HLAT q0 q1 q2 q3 q4
    go_upto_region 9 with fail
    obtain ⟨h1, h2, h3, hb0⟩ := PRE.out w2 HB2.out
    obtain ⟨e0, e1, e2⟩ := blk3 h1
    obtain ⟨y0, y1, y2, y3, y4⟩ := blk5 h2
    have hset := rset_any (w := w2.drew) (HROW2.out.below (Below.refl _ _).drew) col ⟨s, 2, y⟩ (by rw [HPL.out]; exact hcol) (by rw [HPL.out]; omega)
    have HSET := Lib.hid hset
    have H3 := Lib.hid h3
    have HBW := Lib.hid hb0
    clear h1 h2 h3 hb0 hset
    go_region_law (first
      | (refine step_call rfl 126 _ _ rfl enters_rset #[.slice A2 l.length c2, .int .i64 col, .agg #[.string ⟨s.toArray⟩, .int .i64 2, .bool y.b, .bool y.u, .bool y.i, .int .i64 y.f, .int .i64 y.g]] (by simp [Act.eval, Act.put]) HSET.out ?_; rintro e w5 ⟨v5, rfl, hr5, hb5⟩; refine ⟨_, rfl, ?_⟩; have HR5 := Lib.hid hr5; have HB5 := Lib.hid (HB2.out.trans (((Below.refl _ _).drew.trans hb5).mono HB2.out.size)); obtain ⟨h1, h2, h3, hb0⟩ := PRE.out w5 HB5.out; obtain ⟨x0, x1, x2⟩ := blk3 h1; have H35 := Lib.hid h3; have HBW5 := Lib.hid hb0; have hwith := rwith_any (W := W) ((HR.out.mono (D' := (fun b => (D b ∧ b < w.heap.size) ∨ w.heap.size + 3 ≤ b)) (fun b hb h => .inl ⟨h, hb⟩)).below HBW5.out) row (by have := HN.out; omega) (by have := HN.out; omega) (HR5.out.mono (D' := (fun b => (D b ∧ b < w.heap.size) ∨ w.heap.size + 3 ≤ b)) (fun b _ h => .inr (by have := H3.out.lt; have : w2.heap.size ≤ b := h; omega))); rw [← HN.out] at hwith; have HWITH := Lib.hid hwith; clear h1 h2 h3 hb0 hr5 hb5 hwith)
      | (refine step_call rfl 125 _ _ rfl enters_rwith #[.agg #[.int .i64 W, .int .i64 n, .slice (some ⟨b, off, none⟩) n c], .int .i64 row, v5] (by simp [Act.eval, Act.put]) HWITH.out ?_; rintro e w6 ⟨V, rfl, hv6, hb6⟩; refine ⟨_, rfl, ?_⟩; have HV6 := Lib.hid (hv6.mono (D' := (fun b => (D b ∧ b < w.heap.size) ∨ w.heap.size + 3 ≤ b)) (fun b _ h => h.elim id (fun h => .inr (by have := H35.out.lt; omega)))); obtain ⟨A6, c6, rfl, _⟩ := hv6; rw [List.length_set, ← HN.out] at HV6 ⊢; have HB6 := Lib.hid (HBW5.out.trans (hb6.mono HBW5.out.size)); have H36 := Lib.hid (H35.out.below hb6 H35.out.lt); obtain ⟨z0, z1, z2⟩ := blk3 H36.out; have zf0 := H36.out.frozen 0; have zf1 := H36.out.frozen 1; have zf2 := H36.out.frozen 2; clear hb6; simp only [rgC]))
    all_goals
      (try simp only [Act.put])
      go_simp
      go_wp2
      have hf := grid_set3 H36.out W n A6 c6
      exact bodyPost_ret (results_ct rfl rfl rfl hf.1.whole Tryz.underlying29 rfl rg_size) rfl ⟨_, rfl, grid_fin HB6.out HV6.out hf.2⟩
end Go.Proofs.YtfmkeeaenjeneaaGreatDoor

namespace Go.Proofs.YtfmkeeaenjeneaaGreatDoor
open Go.RowKit
set_option linter.unusedVariables false
set_option linter.unusedSimpArgs false

/-- a reference's rows are all of a width and well formed -/
structure Rws (W : Nat) (L : List (List Cl)) : Prop where
  wd : ∀ (i : Nat) l, L[i]? = some l → l.length = W ∧ Wf l
  w1 : 1 ≤ W
  w5 : W ≤ 500
  h1 : 1 ≤ L.length
  h5 : L.length ≤ 500
theorem GrAt.rws_ {w : World} {lo g rb W : Nat} {bs : List Nat} {L : List (List Cl)} (h : GrAt w lo g rb bs W L) : Rws W L := ⟨fun i l hl => h.some_at hl, h.w1, h.w5, h.h1, h.h5⟩

theorem rput_any {w : World} {D : Nat → Prop} {A : Option Addr} {c W : Nat} {L : List (List Cl)} (h : RfAt w D A c L) (hq : Rws W L) (row col : Int) (s : List UInt8) (m : Int) (y : Sty) (hs : s.length ≤ 1000000) :
    Calls Tryz.prog 122 #[.agg #[.int .i64 W, .int .i64 L.length, .slice A L.length c], .int .i64 row, .int .i64 col, .string ⟨s.toArray⟩, .int .i64 m, .agg y.cells.toArray] w fun e w' => ∃ V, e = .returned (.tuple #[V, .int .i64 (putM W L row col s m y).2]) ∧ RfV w' (fun b => D b ∨ w.heap.size ≤ b) V W (putM W L row col s m y).1 ∧ Below w.heap.size w w' := by
  unfold putM
  by_cases h1 : s = [] ∨ 64 < s.length ∨ (m ≠ 1 ∧ m ≠ 2)
  · rw [if_pos h1]
    exact (rput_no (W := W) (n := L.length) (A := A) (c := c) row col s m y hs 1 hq.w5 (.inl ⟨h1, rfl⟩)).mono fun e w' ⟨he, hb⟩ => ⟨_, he, (h.v.mono (fun b _ h => .inl h)).below hb, hb⟩
  · rw [if_neg h1]
    have hs0 : s ≠ [] := fun e => h1 (.inl e)
    have hs64 : s.length ≤ 64 := by
      rcases Nat.lt_or_ge 64 s.length with h' | h'
      · exact absurd (.inr (.inl h')) h1
      · exact h'
    have hm : m = 1 ∨ m = 2 := by
      by_cases a : m = 1
      · exact .inl a
      · by_cases b : m = 2
        · exact .inr b
        · exact absurd (.inr (.inr ⟨a, b⟩)) h1
    by_cases h2 : inB row col W L.length = false ∨ inB row (col + m - 1) W L.length = false
    · rw [if_pos h2]
      exact (rput_no (W := W) (n := L.length) (A := A) (c := c) row col s m y hs 5 hq.w5 (.inr ⟨⟨hs0, hs64, hm⟩, h2, rfl⟩)).mono fun e w' ⟨he, hb⟩ => ⟨_, he, (h.v.mono (fun b _ h => .inl h)).below hb, hb⟩
    · rw [if_neg h2]
      have a : inB row col W L.length = true := by simpa using fun e => h2 (.inl e)
      have b : inB row (col + m - 1) W L.length = true := by simpa using fun e => h2 (.inr e)
      obtain ⟨a0, a1, a2, a3⟩ : 0 ≤ row ∧ row < L.length ∧ 0 ≤ col ∧ col < W := by simpa [inB] using a
      obtain ⟨b0, b1, b2, b3⟩ : 0 ≤ row ∧ row < L.length ∧ 0 ≤ col + m - 1 ∧ col + m - 1 < W := by simpa [inB] using b
      obtain ⟨r, rfl⟩ := Int.eq_ofNat_of_zero_le a0
      obtain ⟨k, rfl⟩ := Int.eq_ofNat_of_zero_le a2
      obtain ⟨n, rfl⟩ := Int.eq_ofNat_of_zero_le (show 0 ≤ m by omega)
      have hl := getD_some (L := L) (r := r) (by omega)
      exact rput_ok h r k s n y _ hl (hq.wd r _ hl).1 hq.w5 hq.h5 hs0 hs64 (by omega) (by omega)

/-- the worlds in which Erase, Scroll begin -/
def erW0 (w : World) (W n : Nat) (A : Option Addr) (c : Nat) : World := (w.alloc (.cells #[.int .i64 W, .int .i64 n, .slice A n c] 29)).alloc (.cells #[.int .i64 0, .int .i64 0, .slice none 0 0] 29)
theorem erW0_is (w : World) (W n : Nat) (A : Option Addr) (c : Nat) : Below w.heap.size w (erW0 w W n A c) ∧ Blk (erW0 w W n A c) w.heap.size 29 (rgC W n A c) ∧ Blk (erW0 w W n A c) (w.heap.size + 1) 29 (rgC 0 0 none 0) := by
  unfold erW0
  exact ⟨((Below.refl _ _).alloc (Nat.le_refl _) _).alloc (by simp) _, (Blk.new w _ (rgC W n A c)).alloc _, Blk.new1 w _ _ (rgC 0 0 none 0)⟩
theorem grid_fin1 {w w6 w7 : World} {D : Nat → Prop} {V : Value} {W : Nat} {L : List (List Cl)} (hb : Below w.heap.size w w6) (hv : RfV w6 (fun b => (D b ∧ b < w.heap.size) ∨ w.heap.size + 2 ≤ b) V W L) (hc : Chg (one (w.heap.size + 1)) w6 w7) :
    RfV w7 (fun b => D b ∨ w.heap.size ≤ b) V W L ∧ Below w.heap.size w w7 :=
  ⟨(hv.chg hc (fun b _ h e => by have e' : b = w.heap.size + 1 := e; omega)).mono (fun b _ h => h.elim (fun h => .inl h.1) (fun h => .inr (by omega))), hb.trans (hc.below hb.size (fun j e => by have e' : j = w.heap.size + 1 := e; omega))⟩

set_option maxRecDepth 100000 in
set_option maxHeartbeats 4000000 in
theorem rerase_no {w : World} {W n : Nat} {A : Option Addr} {c : Nat} (row a z : Int) (hr : row < 0 ∨ (n : Int) ≤ row) :
    Calls Tryz.prog 158 #[.agg #[.int .i64 W, .int .i64 n, .slice A n c], .int .i64 row, .int .i64 a, .int .i64 z] w fun e w' => e = .returned (.tuple #[.agg (rgC W n A c).toArray, .int .i64 5]) ∧ Below w.heap.size w w' := by
  obtain ⟨hb0, h1, h2⟩ := erW0_is w W n A c
  have hW0 : erW0 w W n A c = (w.alloc (.cells #[.int .i64 W, .int .i64 n, .slice A n c] 29)).alloc (.cells #[.int .i64 0, .int .i64 0, .slice none 0 0] 29) := rfl
  generalize erW0 w W n A c = W0 at hb0 h1 h2 hW0
  have HB0 := Lib.hid hb0
  have H1 := Lib.hid h1
  have H2 := Lib.hid h2
  have HW0 := Lib.hid hW0
  clear hb0 h1 h2 hW0
  have key : row < 0 ∨ (¬ row < 0 ∧ (n : Int) ≤ row) := by omega
  clear hr
  rcases key with hr | ⟨hr, hr2⟩
  all_goals
    go_enter Tryz.func158, Tryz.ntmps158
    go_upto_region 1 with fail
    rw [← HW0.out]
    obtain ⟨e0, e1, e2⟩ := blk3 H1.out
    go_wp2_with ((with_reducible refine at_store 8 ?_); refine wpList_store_blk rfl _ _ _ rfl rfl (w.heap.size + 1) 0 _ (rgC 0 0 none 0) (rgC W n A c) rfl rfl H2.out (by simp [rgC]) rg_size (rgC_one _ _ _ _) ?_; intro w2 hn2 hg2; have hn2' : Blk w2 (w.heap.size + 1) 29 (rgC W n A c) := hn2)
    exact bodyPost_ret (results_ct rfl rfl rfl hn2'.whole Tryz.underlying29 rfl rg_size) rfl ⟨rfl, HB0.out.grown hg2 HB0.out.size (fun j hj => by injection hj with hj; omega)⟩

set_option maxRecDepth 100000 in
set_option maxHeartbeats 4000000 in
theorem rerase_ok {w : World} {D : Nat → Prop} {A : Option Addr} {c W : Nat} {L : List (List Cl)} (h : RfAt w D A c L) (hq : Rws W L) (row : Nat) (a z : Int) (l : List Cl) (hl : L[row]? = some l) :
    Calls Tryz.prog 158 #[.agg #[.int .i64 W, .int .i64 L.length, .slice A L.length c], .int .i64 row, .int .i64 a, .int .i64 z] w fun e w' => ∃ V, e = .returned (.tuple #[V, .int .i64 0]) ∧ RfV w' (fun b => D b ∨ w.heap.size ≤ b) V W (L.set row (eraseM l (max a 0).toNat (min z W - max a 0).toNat)) ∧ Below w.heap.size w w' := by
  have hr : row < L.length := (List.getElem?_eq_some_iff.1 hl).1
  have hri : (row : Int) < L.length := by omega
  have hrj : ¬ (L.length : Int) ≤ row := by omega
  have hlen := (hq.wd row l hl).1
  have hw5 := hq.w5
  have hh5 := hq.h5
  obtain ⟨hb0, h1, h2⟩ := erW0_is w W L.length A c
  have hW0 : erW0 w W L.length A c = (w.alloc (.cells #[.int .i64 W, .int .i64 L.length, .slice A L.length c] 29)).alloc (.cells #[.int .i64 0, .int .i64 0, .slice none 0 0] 29) := rfl
  generalize erW0 w W L.length A c = W0 at hb0 h1 h2 hW0
  have hd1 := h.mono (D' := (fun b => (D b ∧ b < w.heap.size) ∨ w.heap.size + 2 ≤ b)) (fun b hb h => .inl ⟨h, hb⟩)
  obtain ⟨b, off, Ai, ci, rfl, hlat⟩ := hd1.row_later hl
  have HLAT := Lib.hid hlat
  have HB0 := Lib.hid hb0
  have H1 := Lib.hid h1
  have H2 := Lib.hid h2
  have HW0 := Lib.hid hW0
  have HR := Lib.hid hd1
  have HLEN := Lib.hid hlen
  obtain ⟨n, hn⟩ : ∃ n, n = L.length := ⟨_, rfl⟩
  have HN := Lib.hid hn
  obtain ⟨a0, ha0⟩ : ∃ a0 : Nat, max 0 a = (a0 : Int) := ⟨(max 0 a).toNat, by omega⟩
  obtain ⟨E, hE⟩ : ∃ E : Int, min z (W : Int) = E := ⟨_, rfl⟩
  have hEW : E ≤ W := by omega
  have haz : (max a 0).toNat = a0 := by omega
  have hzn : (min z W - max a 0).toNat = (E - a0).toNat := by omega
  rw [haz, hzn]
  rw [← hn] at hr hri hrj hh5 H1 HW0 ⊢
  clear hb0 h1 h2 hW0 h hl hlat hn hq hlen haz hzn hd1
  have pre : ∀ w1, Below W0.heap.size W0 w1 → Blk w1 w.heap.size 29 (rgC W n (some ⟨b, off, none⟩) c) ∧ Blk w1 (w.heap.size + 1) 29 (rgC 0 0 none 0) ∧ Below w.heap.size w w1 := fun w1 hb =>
    ⟨H1.out.below hb H1.out.lt, H2.out.below hb H2.out.lt, HB0.out.trans (hb.mono HB0.out.size)⟩
  have PRE := Lib.hid pre
  obtain ⟨hcr, hrow⟩ := HLAT.out _ HB0.out
  have HROW := Lib.hid hrow
  obtain ⟨e0, e1, e2⟩ := blk3 H1.out
  have HWS := Lib.hid H2.out.lt
  clear pre H1 H2 HB0 hrow
  go_enter Tryz.func158, Tryz.ntmps158
  go_upto_region 1 with fail
  rw [← HW0.out]
  go_wp2_with (fail)
  clear hcr e0 e1 e2
  go_loopw [10, 11] (fun v10 v11 wr => ∃ (j : Nat) (A1 : Option Addr) (c1 : Nat), v11 = .int .i64 j ∧ a0 ≤ j ∧ (j : Int) ≤ max E a0 ∧ v10 = .slice A1 l.length c1 ∧ RowD wr (fun b => (D b ∧ b < w.heap.size) ∨ w.heap.size + 2 ≤ b) (.slice A1 l.length c1) (eraseM l a0 (j - a0)) ∧ Below W0.heap.size W0 wr) (fun _ v11 _ => (E - intOf v11).toNat)
  case atStart => exact ⟨a0, Ai, ci, by first | rfl | rw [ha0], by omega, by omega, rfl, by rw [Nat.sub_self]; exact HROW.out, Below.refl _ _⟩
  case round =>
    obtain ⟨j, A1, c1, rfl, hj, hjE, rfl, hrow, hbr⟩ := hrel
    have HROWJ := Lib.hid hrow
    have HBR := Lib.hid hbr
    obtain ⟨h1, h2, hbw⟩ := PRE.out _ hbr
    obtain ⟨e0, e1, e2⟩ := blk3 h1
    clear hrow hbr h1 h2 hbw
    by_cases hlt : (j : Int) < E
    · have hjl : j < l.length := by have := HLEN.out; omega
      have hl5 : l.length ≤ 500 := by have := HLEN.out; omega
      have hel : Hid ((eraseM l a0 (j - a0)).length = l.length) := eraseM_length l a0 (j - a0)
      go_wp2_with (fail)
      refine (rblank_any HROWJ.out j (by rw [hel.out]; exact hjl) (by rw [hel.out]; omega)).mono ?_
      rintro e w2 ⟨v2, rfl, hr2, hb2⟩
      have hsn : eraseM l a0 (j + 1 - a0) = blankM (eraseM l a0 (j - a0)) j := by
        rw [show j + 1 - a0 = (j - a0) + 1 by omega, eraseM_snoc, show a0 + (j - a0) = j by omega]
      rw [← hsn] at hr2
      have HR2 := Lib.hid hr2
      have HB2 := Lib.hid (HBR.out.trans (hb2.mono HBR.out.size))
      have hsz := HBR.out.size
      have hel2 : Hid ((eraseM l a0 (j + 1 - a0)).length = l.length) := eraseM_length l a0 (j + 1 - a0)
      obtain ⟨A2, c2, rfl⟩ := HR2.out.len
      rw [hel2.out] at HR2 ⊢
      clear hr2 hb2 hsn
      go_wp2_with (fail)
      go_roundw
      case rel => exact ⟨j + 1, A2, c2, by go_num, by omega, by omega, rfl, HR2.out.mono (fun b _ h => .inr (by have h' : _ ≤ b := h; have := HWS.out; omega)), HB2.out⟩
      case measure => simp [intOf]; omega
    · have hje : j - a0 = (E - a0).toNat := by omega
      have hl5 : l.length ≤ 500 := by have := HLEN.out; omega
      rw [hje] at HROWJ
      have hel : Hid ((eraseM l a0 (E - a0).toNat).length = l.length) := eraseM_length l a0 _
      have hwith := rwith_any (W := W) (HR.out.below (PRE.out _ HBR.out).2.2) row (by have := HN.out; omega) (by have := HN.out; omega) HROWJ.out
      rw [← HN.out] at hwith
      have HWITH := Lib.hid hwith
      clear hwith hje
      go_wp2_with (fail)
      refine HWITH.out.mono ?_
      rintro e w5 ⟨V, rfl, hv5, hb5⟩
      have HV5 := Lib.hid (hv5.mono (D' := fun b => (D b ∧ b < w.heap.size) ∨ w.heap.size + 2 ≤ b) (fun b _ h => h.elim id (fun h => .inr (by have := HWS.out; have := HBR.out.size; omega))))
      obtain ⟨A5, c5, rfl, _⟩ := hv5
      rw [List.length_set, ← HN.out] at HV5 ⊢
      have HB5 := Lib.hid (HBR.out.trans (hb5.mono HBR.out.size))
      obtain ⟨h1, h2, hbw⟩ := PRE.out _ HB5.out
      have H25 := Lib.hid h2
      have HBW5 := Lib.hid hbw
      clear h1 h2 hbw hb5 e0 e1 e2
      go_wp2_with ((with_reducible refine at_store 8 ?_); refine wpList_store_blk rfl _ _ _ rfl rfl (w.heap.size + 1) 0 _ (rgC 0 0 none 0) (rgC W n A5 c5) rfl rfl H25.out (by simp [rgC]) rg_size (rgC_one _ _ _ _) ?_; intro w6 hn6 hg6; have hn6' : Blk w6 (w.heap.size + 1) 29 (rgC W n A5 c5) := hn6)
      exact bodyPost_ret (results_ct rfl rfl rfl hn6'.whole Tryz.underlying29 rfl rg_size) rfl ⟨_, rfl, grid_fin1 HBW5.out HV5.out (chg_of_grown hg6)⟩

theorem rerase_any {w : World} {D : Nat → Prop} {A : Option Addr} {c W : Nat} {L : List (List Cl)} (h : RfAt w D A c L) (hq : Rws W L) (row a z : Int) :
    Calls Tryz.prog 158 #[.agg #[.int .i64 W, .int .i64 L.length, .slice A L.length c], .int .i64 row, .int .i64 a, .int .i64 z] w fun e w' => ∃ V, e = .returned (.tuple #[V, .int .i64 (eraseG W L row a z).2]) ∧ RfV w' (fun b => D b ∨ w.heap.size ≤ b) V W (eraseG W L row a z).1 ∧ Below w.heap.size w w' := by
  unfold eraseG
  by_cases h1 : inB row 0 W L.length = false
  · rw [if_pos h1]
    have hr : row < 0 ∨ (L.length : Int) ≤ row := by
      have := hq.w1
      simp [inB] at h1
      omega
    exact (rerase_no (W := W) (n := L.length) (A := A) (c := c) row a z hr).mono fun e w' ⟨he, hb⟩ => ⟨_, he, (h.v.mono (fun b _ h => .inl h)).below hb, hb⟩
  · rw [if_neg h1]
    have a' : inB row 0 W L.length = true := by simpa using h1
    obtain ⟨a0, a1⟩ : 0 ≤ row ∧ row < L.length := by simp [inB] at a'; omega
    obtain ⟨r, rfl⟩ := Int.eq_ofNat_of_zero_le a0
    exact rerase_ok h hq r a z _ (getD_some (by omega))
end Go.Proofs.YtfmkeeaenjeneaaGreatDoor

namespace Go.Proofs.YtfmkeeaenjeneaaGreatDoor
open Go.RowKit
set_option linter.unusedVariables false
set_option linter.unusedSimpArgs false

theorem rrow_info : (Tryz.prog.info? 94).map (fun i => (i.zero, i.size, i.bytes)) = some (some (.agg #[.slice none 0 0]), 1, 24) := by kernel_rfl

set_option maxRecDepth 100000 in
set_option maxHeartbeats 8000000 in
theorem rscroll_any {w : World} {D : Nat → Prop} {A : Option Addr} {c W : Nat} {L : List (List Cl)} (h : RfAt w D A c L) (hq : Rws W L) (m : Int) :
    Calls Tryz.prog 116 #[.agg #[.int .i64 W, .int .i64 L.length, .slice A L.length c], .int .i64 m] w fun e w' => ∃ V, e = .returned (.tuple #[V, .int .i64 (scrollN L.length m)]) ∧ RfV w' (fun b => D b ∨ w.heap.size ≤ b) V W (scrollM W L m) ∧ Below w.heap.size w w' := by
  have hw1 := hq.w1
  have hw5 := hq.w5
  have hh5 := hq.h5
  have hh1 := hq.h1
  obtain ⟨hb0, h1, h2⟩ := erW0_is w W L.length A c
  have hW0 : erW0 w W L.length A c = (w.alloc (.cells #[.int .i64 W, .int .i64 L.length, .slice A L.length c] 29)).alloc (.cells #[.int .i64 0, .int .i64 0, .slice none 0 0] 29) := rfl
  generalize erW0 w W L.length A c = W0 at hb0 h1 h2 hW0
  obtain ⟨hnil, hcap, vs, hvs, hrows⟩ := h.mono (D' := fun b => (D b ∧ b < w.heap.size) ∨ w.heap.size + 2 ≤ b) (fun b hb h => .inl ⟨h, hb⟩)
  obtain ⟨i0, hi0, hz0, hz1, hz2⟩ := info_parts rrow_info
  obtain ⟨n, hn⟩ : ∃ n, n = L.length := ⟨_, rfl⟩
  have hvl : vs.length = n := by rw [hn]; exact hrows.1
  obtain ⟨b, off, rfl, hbl, hbd, hbx⟩ := hvs.open_ (by omega)
  obtain ⟨k, hk⟩ : ∃ k, scrollN L.length m = k := ⟨_, rfl⟩
  have hkn : k ≤ n := by rw [← hk, hn]; unfold scrollN; omega
  have hM : scrollM W L m = L.drop k ++ List.replicate k (List.replicate W bl) := by unfold scrollM; rw [hk]
  rw [hk, hM]
  obtain ⟨E, hE⟩ : ∃ E : Int, min m (n : Int) = E := ⟨_, rfl⟩
  have hmx : max 0 E = (k : Int) := by rw [← hk, ← hE, hn]; unfold scrollN; omega
  rw [← hn] at hh5 hh1 hcap h1 hW0 ⊢
  have hdrop := (hvs.drop (k := k) (cap := c) (by omega)).sl
  have HDR := Lib.hid hdrop
  have HI0 := Lib.hid hi0
  have HZ0 := Lib.hid hz0
  have HZ1 := Lib.hid hz1
  have HZ2 := Lib.hid hz2
  have HB0 := Lib.hid hb0
  have H1 := Lib.hid h1
  have H2 := Lib.hid h2
  have HW0 := Lib.hid hW0
  have HVL := Lib.hid hvl
  have HROWS := Lib.hid hrows
  have HONE := Lib.hid hrows.one
  have HN := Lib.hid hn
  have hki : (k : Int) ≤ n := by omega
  have hk0 : (0 : Int) ≤ (k : Int) := by omega
  have hkc : k ≤ c := by omega
  obtain ⟨e0, e1, e2⟩ := blk3 h1
  clear hb0 h1 h2 hW0 h hnil hvs hrows hi0 hz0 hz1 hz2 hvl hn hk hM hq hdrop hbx
  have hw0 : w.heap.size + 1 < W0.heap.size := H2.out.lt
  have e2' : (W0.alloc (.cells #[] 94)).cell? ⟨w.heap.size, 2, none⟩ = some (.slice (some ⟨b, off, none⟩) n c) := (World.cell?_alloc_lt W0 _ ⟨w.heap.size, 2, none⟩ (by show w.heap.size < _; omega)).trans e2
  have HLIT := Lib.hid (show (W0.alloc (.cells #[] 94)).ownsRow W0.heap.size 94 1 (.slice (some ⟨W0.heap.size, 0, none⟩) 0 0) 0 [] by have := World.ownsRow_lit (base := W0.heap.size) (e := 94) (size := 1) W0 #[] 0 (Nat.le_refl _) (by simp only [maxLen]; omega) (by simp); simpa using this)
  have HSD := Lib.hid ((HDR.out.below HB0.out).more HB0.out.size |>.alloc (Nat.le_refl _) (.cells #[] 94))
  have HDL : Hid ((vs.drop k).length = (n - k) * 1) := by show _ = _; rw [List.length_drop, HVL.out]; omega
  have hd1 : ∀ v ∈ vs.drop k, v.oneCell' = true := fun v hv => HONE.out v (List.mem_of_mem_drop hv)
  have HD1 := Lib.hid hd1
  have pre : ∀ w1, Below W0.heap.size W0 w1 → Blk w1 w.heap.size 29 (rgC W n (some ⟨b, off, none⟩) c) ∧ Blk w1 (w.heap.size + 1) 29 (rgC 0 0 none 0) ∧ Below w.heap.size w w1 := fun w1 hb =>
    ⟨H1.out.below hb H1.out.lt, H2.out.below hb H2.out.lt, HB0.out.trans (hb.mono HB0.out.size)⟩
  have PRE := Lib.hid pre
  have hnil2 : ∀ q : Nat, (some (⟨b, q, none⟩ : Addr) = none) → c - k = 0 := fun q h => by cases h
  clear hd1 pre H1 H2 hnil2 e2
  by_cases hkn2 : k < n
  · have hck : ¬ c = k := by omega
    have hnk : ¬ n = k := by omega
    have HSX : Hid (Sl (W0.alloc (.cells #[] 94)) W0.heap.size (some ⟨b, off + k, none⟩) (vs.drop k)) := by have := HSD.out; rw [if_neg hck] at this; show Sl _ _ _ _; simpa [Addr.add_mid] using this
    have HDX := HDL
    go_enter Tryz.func116, Tryz.ntmps116
    go_upto_region 1 with fail
    rw [← HW0.out]
    go_wp2_with (at_builtin; (refine wpList_append_sl _ rfl (.tmp 14) (.tmp 18) _ rfl W0.heap.size 94 i0 _ 1 24 Tryz.underlying27 HI0.out HZ0.out HZ1.out HZ2.out rfl (by omega) (.slice (some ⟨W0.heap.size, 0, none⟩) 0 0) 0 [] rfl HLIT.out W0.heap.size _ (n - k) (c - k) (vs.drop k) rfl HSX.out HDX.out (by intro h; cases h) HD1.out (by simp only [maxLen]; omega) (by omega) (by simp) ?_); intro v' w2 ho hg hat; rw [Nat.zero_add, List.nil_append] at ho; obtain ⟨A1, c1, rfl, hn1, _⟩ := own_of ho; have HO2 := Lib.hid ho; have HN1 := Lib.hid hn1; have HBB := Lib.hid (((Below.refl W0.heap.size W0).alloc (Nat.le_refl _) (.cells #[] 94)).grown hg (by simp) (fun j hj => by have : some W0.heap.size = some j := hj; injection this with this; omega)); clear ho hg hat hn1)
    have HNM : Hid ((n - k) = n - k) := (rfl : n - k = n - k)
    go_loopw [7, 8] (fun v7 v8 wr => ∃ (j N : Nat) (A1 : Option Addr) (c1 : Nat) (us : List Value), v8 = .int .i64 j ∧ j ≤ k ∧ v7 = .slice A1 N c1 ∧ N = n - k + j ∧ (A1 = none → c1 = 0) ∧ wr.ownsRow W0.heap.size 94 1 (.slice A1 N c1) N us ∧ RowsD wr (fun b => ((D b ∧ b < w.heap.size) ∨ w.heap.size + 2 ≤ b) ∧ (Value.slice A1 N c1).ownBlock ≠ some b) us (L.drop k ++ List.replicate j (List.replicate W bl)) ∧ Below W0.heap.size W0 wr) (fun _ v8 _ => k - (intOf v8).toNat)
    case atStart => exact ⟨0, _, A1, c1, vs.drop k, rfl, by omega, rfl, HNM.out, HN1.out, HO2.out, by rw [List.replicate_zero, List.append_nil]; exact ((HROWS.out.drop k).mono (fun b hb h => ⟨h, fun e => by have := (HO2.out.lt b e).1; have := HB0.out.size; omega⟩)).below (HB0.out.trans (HBB.out.mono HB0.out.size)), HBB.out⟩
    case round =>
      obtain ⟨j, N, A1, c1, us, rfl, hj, rfl, hN, hn1, ho, hrs, hbr⟩ := hrel
      have HO := Lib.hid ho
      have HRS := Lib.hid hrs
      have HBR := Lib.hid hbr
      have HN1 := Lib.hid hn1
      have HNN := Lib.hid hN
      obtain ⟨h1, h2, hbw⟩ := PRE.out _ hbr
      obtain ⟨e0, e1, e2⟩ := blk3 h1
      have HX1 := Lib.hid h1
      have HX2 := Lib.hid h2
      have HBW := Lib.hid hbw
      clear ho hrs hbr hn1 h1 h2 hbw HO2
      by_cases hlt : j < k
      · have hji : (j : Int) < k := by omega
        have hN5 : N ≤ 500 := by omega
        clear hN
        go_wp2_with (fail)
        refine (rblanks_any W (by omega) _).mono ?_
        rintro e w3 ⟨v3, rfl, hr3, hb3⟩
        have HR3 := Lib.hid hr3
        have HB3 := Lib.hid hb3
        have hv1 : v3.oneCell' = true := hr3.one
        have HV1 := Lib.hid hv1
        clear hr3 hb3 hv1
        have hws : W0.heap.size ≤ w3.heap.size := Nat.le_trans HBR.out.size HB3.out.size
        go_wp2_with (at_builtin; (refine wpList_append_sl _ rfl (.tmp 25) (.tmp 29) _ rfl W0.heap.size 94 i0 _ 1 24 Tryz.underlying27 HI0.out HZ0.out HZ1.out HZ2.out rfl (by omega) (.slice A1 N c1) N us rfl ((HO.out.kept (row := none) (grown_of_below HB3.out) (by cases h : (Value.slice A1 N c1).ownBlock <;> simp)).alloc _) (w3.heap.size + 1) (some ⟨w3.heap.size, 0, none⟩) 1 1 [v3] rfl (Sl.new w3 _ _) rfl (fun e => by cases e) (fun v hv => by simp at hv; subst hv; exact HV1.out) (by simp only [maxLen]; omega) (by omega) (by simp; omega) ?_); intro v' w5 ho hg hat; obtain ⟨A5, c5, rfl, hn5, _⟩ := own_of ho; have HO5 := Lib.hid ho; have HN5 := Lib.hid hn5; have HG5 := Lib.hid hg; have HAT := Lib.hid hat; clear ho hg hat hn5)
        have hb5 : Below W0.heap.size W0 w5 := by
          have h1 : Below W0.heap.size W0 (w3.alloc (.cells #[v3] 94)) := (HBR.out.trans (HB3.out.mono HBR.out.size)).alloc hws _
          exact h1.grown HG5.out h1.size (fun q hq => (HO.out.lt q hq).1)
        have hrs5 : RowsD w5 (fun b => ((D b ∧ b < w.heap.size) ∨ w.heap.size + 2 ≤ b) ∧ (Value.slice A5 (N + 1) c5).ownBlock ≠ some b) (us ++ [v3]) (L.drop k ++ List.replicate (j + 1) (List.replicate W bl)) := by
          rw [List.replicate_succ', ← List.append_assoc]
          have c1' : Chg (fun q => (Value.slice A1 N c1).ownBlock = some q) w3 w5 := ((Chg.refl (fun q => (Value.slice A1 N c1).ownBlock = some q) w3).alloc (.cells #[v3] 94)).grown HG5.out (fun q hq => .inl hq)
          have hne5 : ∀ q, q < w3.heap.size → (Value.slice A1 N c1).ownBlock ≠ some q → (Value.slice A5 (N + 1) c5).ownBlock ≠ some q := fun q hq h e => by
            rcases HAT.out with h2 | h2
            · rw [h2] at e; exact h e
            · rw [h2] at e
              injection e with e
              simp at e
              omega
          have hold := ((HRS.out.below HB3.out).mono (D' := fun b => (((D b ∧ b < w.heap.size) ∨ w.heap.size + 2 ≤ b) ∧ (Value.slice A5 (N + 1) c5).ownBlock ≠ some b) ∧ (Value.slice A1 N c1).ownBlock ≠ some b) (fun q hq h => ⟨⟨h.1, hne5 q hq h.2⟩, h.2⟩)).chg c1' (fun q _ h e => h.2 e)
          have hnew := (HR3.out.mono (D' := fun b => (((D b ∧ b < w.heap.size) ∨ w.heap.size + 2 ≤ b) ∧ (Value.slice A5 (N + 1) c5).ownBlock ≠ some b) ∧ (Value.slice A1 N c1).ownBlock ≠ some b) (fun q hq h => by
            have h1 : wr.heap.size ≤ q := h
            have h2 : (Value.slice A1 N c1).ownBlock ≠ some q := fun e => by have := (HO.out.lt q e).2; omega
            have := HBR.out.size
            exact ⟨⟨.inr (by omega), hne5 q hq h2⟩, h2⟩)).chg c1' (fun q _ h e => h.2 e)
          exact (hold.snoc hnew).mono (fun q _ h => h.1)
        have HRS5 := Lib.hid hrs5
        have HB5 := Lib.hid hb5
        clear hb5 hrs5
        go_roundw
        case rel => exact ⟨j + 1, N + 1, A5, c5, us ++ [v3], by go_num, by omega, rfl, by have := HNN.out; omega, HN5.out, HO5.out, HRS5.out, HB5.out⟩
        case measure => simp [intOf]; omega
      · have hjk : j = k := by omega
        have hNn : N = n := by omega
        have HJK := Lib.hid hjk
        clear hN
        subst hNn
        have hji : ¬ (j : Int) < k := by omega
        clear hjk
        go_wp2_with (first
          | ((with_reducible refine at_store 32 ?_); refine wpList_store_cell rfl _ _ _ rfl rfl w.heap.size 2 _ _ (.slice A1 N c1) rfl rfl HX1.out (by simp [rgC]) (by kernel_rfl) rfl ?_; intro w6 hn6 hg6; have hn6' : Blk w6 w.heap.size 29 (rgC W N A1 c1) := hn6; obtain ⟨z0, z1, z2⟩ := blk3 hn6'; have HX26 := Lib.hid (HX2.out.chg (chg_of_grown hg6) (fun e => by have e' : w.heap.size + 1 = w.heap.size := e; omega)); have HG6 := Lib.hid hg6; clear hn6 hn6' hg6 e0 e1 e2)
          | ((with_reducible refine at_store 4 ?_); refine wpList_store_blk rfl _ _ _ rfl rfl (w.heap.size + 1) 0 _ (rgC 0 0 none 0) (rgC W N A1 c1) rfl rfl HX26.out (by simp [rgC]) rg_size (rgC_one _ _ _ _) ?_; intro w7 hn7 hg7; have hn7' : Blk w7 (w.heap.size + 1) 29 (rgC W N A1 c1) := hn7))
        have hlN : (L.drop k ++ List.replicate j (List.replicate W bl)).length = N := by
          have h1 := HRS.out.1
          have h2 := HO.out.1
          omega
        have hv : RfV wr (fun b => (D b ∧ b < w.heap.size) ∨ w.heap.size + 2 ≤ b) (.agg (rgC W N A1 c1).toArray) W (L.drop k ++ List.replicate j (List.replicate W bl)) := by
          refine ⟨A1, c1, by rw [hlN], HN1.out, by rw [hlN]; exact own_cap HO.out, us, (SlD.own HO.out).mono (fun q _ h => .inr (by have h' : W0.heap.size ≤ q := h; omega)), HRS.out.mono (fun q _ h => h.1)⟩
        have hv6 := hv.chg (chg_of_grown HG6.out) (fun q _ h e => by have e' : q = w.heap.size := e; omega)
        have hbw6 : Below w.heap.size w w6 := HBW.out.grown HG6.out HBW.out.size (fun q hq => by injection hq with hq; omega)
        have hjk := HJK.out
        subst hjk
        exact bodyPost_ret (results_ct rfl rfl rfl hn7'.whole Tryz.underlying29 rfl rg_size) rfl ⟨_, rfl, grid_fin1 hbw6 hv6 (chg_of_grown hg7)⟩
  · have hkn3 : n - k = 0 := by omega
    have hvd : vs.drop k = [] := List.drop_eq_nil_of_le (by have := HVL.out; omega)
    have HSX : Hid (∀ X, Sl (W0.alloc (.cells #[] 94)) W0.heap.size X (vs.drop k)) := fun X => by rw [hvd]; exact .inl rfl
    have HDX : Hid ((vs.drop k).length = 0 * 1) := by show _ = _; rw [hvd]; rfl
    have HK0 := Lib.hid hkn3
    clear hvd
    by_cases hck : c = k
    · have hck2 := hck.symm
      subst hck2
      go_enter Tryz.func116, Tryz.ntmps116
      go_upto_region 1 with fail
      rw [← HW0.out]
      go_wp2_with (at_builtin; (refine wpList_append_sl _ rfl (.tmp 14) (.tmp 18) _ rfl W0.heap.size 94 i0 _ 1 24 Tryz.underlying27 HI0.out HZ0.out HZ1.out HZ2.out rfl (by omega) (.slice (some ⟨W0.heap.size, 0, none⟩) 0 0) 0 [] rfl HLIT.out W0.heap.size _ 0 0 (vs.drop k) rfl (HSX.out _) HDX.out (by intro h; cases h) HD1.out (by simp only [maxLen]; omega) (by omega) (by simp) ?_); intro v' w2 ho hg hat; rw [Nat.zero_add, List.nil_append] at ho; obtain ⟨A1, c1, rfl, hn1, _⟩ := own_of ho; have HO2 := Lib.hid ho; have HN1 := Lib.hid hn1; have HBB := Lib.hid (((Below.refl W0.heap.size W0).alloc (Nat.le_refl _) (.cells #[] 94)).grown hg (by simp) (fun j hj => by have : some W0.heap.size = some j := hj; injection this with this; omega)); clear ho hg hat hn1)
      have HNM : Hid (0 = n - k) := HK0.out.symm
      go_loopw [7, 8] (fun v7 v8 wr => ∃ (j N : Nat) (A1 : Option Addr) (c1 : Nat) (us : List Value), v8 = .int .i64 j ∧ j ≤ k ∧ v7 = .slice A1 N c1 ∧ N = n - k + j ∧ (A1 = none → c1 = 0) ∧ wr.ownsRow W0.heap.size 94 1 (.slice A1 N c1) N us ∧ RowsD wr (fun b => ((D b ∧ b < w.heap.size) ∨ w.heap.size + 2 ≤ b) ∧ (Value.slice A1 N c1).ownBlock ≠ some b) us (L.drop k ++ List.replicate j (List.replicate W bl)) ∧ Below W0.heap.size W0 wr) (fun _ v8 _ => k - (intOf v8).toNat)
      case atStart => exact ⟨0, _, A1, c1, vs.drop k, rfl, by omega, rfl, HNM.out, HN1.out, HO2.out, by rw [List.replicate_zero, List.append_nil]; exact ((HROWS.out.drop k).mono (fun b hb h => ⟨h, fun e => by have := (HO2.out.lt b e).1; have := HB0.out.size; omega⟩)).below (HB0.out.trans (HBB.out.mono HB0.out.size)), HBB.out⟩
      case round =>
        obtain ⟨j, N, A1, c1, us, rfl, hj, rfl, hN, hn1, ho, hrs, hbr⟩ := hrel
        have HO := Lib.hid ho
        have HRS := Lib.hid hrs
        have HBR := Lib.hid hbr
        have HN1 := Lib.hid hn1
        have HNN := Lib.hid hN
        obtain ⟨h1, h2, hbw⟩ := PRE.out _ hbr
        obtain ⟨e0, e1, e2⟩ := blk3 h1
        have HX1 := Lib.hid h1
        have HX2 := Lib.hid h2
        have HBW := Lib.hid hbw
        clear ho hrs hbr hn1 h1 h2 hbw HO2
        by_cases hlt : j < k
        · have hji : (j : Int) < k := by omega
          have hN5 : N ≤ 500 := by omega
          clear hN
          go_wp2_with (fail)
          refine (rblanks_any W (by omega) _).mono ?_
          rintro e w3 ⟨v3, rfl, hr3, hb3⟩
          have HR3 := Lib.hid hr3
          have HB3 := Lib.hid hb3
          have hv1 : v3.oneCell' = true := hr3.one
          have HV1 := Lib.hid hv1
          clear hr3 hb3 hv1
          have hws : W0.heap.size ≤ w3.heap.size := Nat.le_trans HBR.out.size HB3.out.size
          go_wp2_with (at_builtin; (refine wpList_append_sl _ rfl (.tmp 25) (.tmp 29) _ rfl W0.heap.size 94 i0 _ 1 24 Tryz.underlying27 HI0.out HZ0.out HZ1.out HZ2.out rfl (by omega) (.slice A1 N c1) N us rfl ((HO.out.kept (row := none) (grown_of_below HB3.out) (by cases h : (Value.slice A1 N c1).ownBlock <;> simp)).alloc _) (w3.heap.size + 1) (some ⟨w3.heap.size, 0, none⟩) 1 1 [v3] rfl (Sl.new w3 _ _) rfl (fun e => by cases e) (fun v hv => by simp at hv; subst hv; exact HV1.out) (by simp only [maxLen]; omega) (by omega) (by simp; omega) ?_); intro v' w5 ho hg hat; obtain ⟨A5, c5, rfl, hn5, _⟩ := own_of ho; have HO5 := Lib.hid ho; have HN5 := Lib.hid hn5; have HG5 := Lib.hid hg; have HAT := Lib.hid hat; clear ho hg hat hn5)
          have hb5 : Below W0.heap.size W0 w5 := by
            have h1 : Below W0.heap.size W0 (w3.alloc (.cells #[v3] 94)) := (HBR.out.trans (HB3.out.mono HBR.out.size)).alloc hws _
            exact h1.grown HG5.out h1.size (fun q hq => (HO.out.lt q hq).1)
          have hrs5 : RowsD w5 (fun b => ((D b ∧ b < w.heap.size) ∨ w.heap.size + 2 ≤ b) ∧ (Value.slice A5 (N + 1) c5).ownBlock ≠ some b) (us ++ [v3]) (L.drop k ++ List.replicate (j + 1) (List.replicate W bl)) := by
            rw [List.replicate_succ', ← List.append_assoc]
            have c1' : Chg (fun q => (Value.slice A1 N c1).ownBlock = some q) w3 w5 := ((Chg.refl (fun q => (Value.slice A1 N c1).ownBlock = some q) w3).alloc (.cells #[v3] 94)).grown HG5.out (fun q hq => .inl hq)
            have hne5 : ∀ q, q < w3.heap.size → (Value.slice A1 N c1).ownBlock ≠ some q → (Value.slice A5 (N + 1) c5).ownBlock ≠ some q := fun q hq h e => by
              rcases HAT.out with h2 | h2
              · rw [h2] at e; exact h e
              · rw [h2] at e
                injection e with e
                simp at e
                omega
            have hold := ((HRS.out.below HB3.out).mono (D' := fun b => (((D b ∧ b < w.heap.size) ∨ w.heap.size + 2 ≤ b) ∧ (Value.slice A5 (N + 1) c5).ownBlock ≠ some b) ∧ (Value.slice A1 N c1).ownBlock ≠ some b) (fun q hq h => ⟨⟨h.1, hne5 q hq h.2⟩, h.2⟩)).chg c1' (fun q _ h e => h.2 e)
            have hnew := (HR3.out.mono (D' := fun b => (((D b ∧ b < w.heap.size) ∨ w.heap.size + 2 ≤ b) ∧ (Value.slice A5 (N + 1) c5).ownBlock ≠ some b) ∧ (Value.slice A1 N c1).ownBlock ≠ some b) (fun q hq h => by
              have h1 : wr.heap.size ≤ q := h
              have h2 : (Value.slice A1 N c1).ownBlock ≠ some q := fun e => by have := (HO.out.lt q e).2; omega
              have := HBR.out.size
              exact ⟨⟨.inr (by omega), hne5 q hq h2⟩, h2⟩)).chg c1' (fun q _ h e => h.2 e)
            exact (hold.snoc hnew).mono (fun q _ h => h.1)
          have HRS5 := Lib.hid hrs5
          have HB5 := Lib.hid hb5
          clear hb5 hrs5
          go_roundw
          case rel => exact ⟨j + 1, N + 1, A5, c5, us ++ [v3], by go_num, by omega, rfl, by have := HNN.out; omega, HN5.out, HO5.out, HRS5.out, HB5.out⟩
          case measure => simp [intOf]; omega
        · have hjk : j = k := by omega
          have hNn : N = n := by omega
          have HJK := Lib.hid hjk
          clear hN
          subst hNn
          have hji : ¬ (j : Int) < k := by omega
          clear hjk
          go_wp2_with (first
            | ((with_reducible refine at_store 32 ?_); refine wpList_store_cell rfl _ _ _ rfl rfl w.heap.size 2 _ _ (.slice A1 N c1) rfl rfl HX1.out (by simp [rgC]) (by kernel_rfl) rfl ?_; intro w6 hn6 hg6; have hn6' : Blk w6 w.heap.size 29 (rgC W N A1 c1) := hn6; obtain ⟨z0, z1, z2⟩ := blk3 hn6'; have HX26 := Lib.hid (HX2.out.chg (chg_of_grown hg6) (fun e => by have e' : w.heap.size + 1 = w.heap.size := e; omega)); have HG6 := Lib.hid hg6; clear hn6 hn6' hg6 e0 e1 e2)
            | ((with_reducible refine at_store 4 ?_); refine wpList_store_blk rfl _ _ _ rfl rfl (w.heap.size + 1) 0 _ (rgC 0 0 none 0) (rgC W N A1 c1) rfl rfl HX26.out (by simp [rgC]) rg_size (rgC_one _ _ _ _) ?_; intro w7 hn7 hg7; have hn7' : Blk w7 (w.heap.size + 1) 29 (rgC W N A1 c1) := hn7))
          have hlN : (L.drop k ++ List.replicate j (List.replicate W bl)).length = N := by
            have h1 := HRS.out.1
            have h2 := HO.out.1
            omega
          have hv : RfV wr (fun b => (D b ∧ b < w.heap.size) ∨ w.heap.size + 2 ≤ b) (.agg (rgC W N A1 c1).toArray) W (L.drop k ++ List.replicate j (List.replicate W bl)) := by
            refine ⟨A1, c1, by rw [hlN], HN1.out, by rw [hlN]; exact own_cap HO.out, us, (SlD.own HO.out).mono (fun q _ h => .inr (by have h' : W0.heap.size ≤ q := h; omega)), HRS.out.mono (fun q _ h => h.1)⟩
          have hv6 := hv.chg (chg_of_grown HG6.out) (fun q _ h e => by have e' : q = w.heap.size := e; omega)
          have hbw6 : Below w.heap.size w w6 := HBW.out.grown HG6.out HBW.out.size (fun q hq => by injection hq with hq; omega)
          have hjk := HJK.out
          subst hjk
          exact bodyPost_ret (results_ct rfl rfl rfl hn7'.whole Tryz.underlying29 rfl rg_size) rfl ⟨_, rfl, grid_fin1 hbw6 hv6 (chg_of_grown hg7)⟩
    · have hckf : ¬ c = k := hck
      go_enter Tryz.func116, Tryz.ntmps116
      go_upto_region 1 with fail
      rw [← HW0.out]
      go_wp2_with (at_builtin; (refine wpList_append_sl _ rfl (.tmp 14) (.tmp 18) _ rfl W0.heap.size 94 i0 _ 1 24 Tryz.underlying27 HI0.out HZ0.out HZ1.out HZ2.out rfl (by omega) (.slice (some ⟨W0.heap.size, 0, none⟩) 0 0) 0 [] rfl HLIT.out W0.heap.size _ 0 (c - k) (vs.drop k) rfl (HSX.out _) HDX.out (by intro h; cases h) HD1.out (by simp only [maxLen]; omega) (by omega) (by simp) ?_); intro v' w2 ho hg hat; rw [Nat.zero_add, List.nil_append] at ho; obtain ⟨A1, c1, rfl, hn1, _⟩ := own_of ho; have HO2 := Lib.hid ho; have HN1 := Lib.hid hn1; have HBB := Lib.hid (((Below.refl W0.heap.size W0).alloc (Nat.le_refl _) (.cells #[] 94)).grown hg (by simp) (fun j hj => by have : some W0.heap.size = some j := hj; injection this with this; omega)); clear ho hg hat hn1)
      have HNM : Hid (0 = n - k) := HK0.out.symm
      go_loopw [7, 8] (fun v7 v8 wr => ∃ (j N : Nat) (A1 : Option Addr) (c1 : Nat) (us : List Value), v8 = .int .i64 j ∧ j ≤ k ∧ v7 = .slice A1 N c1 ∧ N = n - k + j ∧ (A1 = none → c1 = 0) ∧ wr.ownsRow W0.heap.size 94 1 (.slice A1 N c1) N us ∧ RowsD wr (fun b => ((D b ∧ b < w.heap.size) ∨ w.heap.size + 2 ≤ b) ∧ (Value.slice A1 N c1).ownBlock ≠ some b) us (L.drop k ++ List.replicate j (List.replicate W bl)) ∧ Below W0.heap.size W0 wr) (fun _ v8 _ => k - (intOf v8).toNat)
      case atStart => exact ⟨0, _, A1, c1, vs.drop k, rfl, by omega, rfl, HNM.out, HN1.out, HO2.out, by rw [List.replicate_zero, List.append_nil]; exact ((HROWS.out.drop k).mono (fun b hb h => ⟨h, fun e => by have := (HO2.out.lt b e).1; have := HB0.out.size; omega⟩)).below (HB0.out.trans (HBB.out.mono HB0.out.size)), HBB.out⟩
      case round =>
        obtain ⟨j, N, A1, c1, us, rfl, hj, rfl, hN, hn1, ho, hrs, hbr⟩ := hrel
        have HO := Lib.hid ho
        have HRS := Lib.hid hrs
        have HBR := Lib.hid hbr
        have HN1 := Lib.hid hn1
        have HNN := Lib.hid hN
        obtain ⟨h1, h2, hbw⟩ := PRE.out _ hbr
        obtain ⟨e0, e1, e2⟩ := blk3 h1
        have HX1 := Lib.hid h1
        have HX2 := Lib.hid h2
        have HBW := Lib.hid hbw
        clear ho hrs hbr hn1 h1 h2 hbw HO2
        by_cases hlt : j < k
        · have hji : (j : Int) < k := by omega
          have hN5 : N ≤ 500 := by omega
          clear hN
          go_wp2_with (fail)
          refine (rblanks_any W (by omega) _).mono ?_
          rintro e w3 ⟨v3, rfl, hr3, hb3⟩
          have HR3 := Lib.hid hr3
          have HB3 := Lib.hid hb3
          have hv1 : v3.oneCell' = true := hr3.one
          have HV1 := Lib.hid hv1
          clear hr3 hb3 hv1
          have hws : W0.heap.size ≤ w3.heap.size := Nat.le_trans HBR.out.size HB3.out.size
          go_wp2_with (at_builtin; (refine wpList_append_sl _ rfl (.tmp 25) (.tmp 29) _ rfl W0.heap.size 94 i0 _ 1 24 Tryz.underlying27 HI0.out HZ0.out HZ1.out HZ2.out rfl (by omega) (.slice A1 N c1) N us rfl ((HO.out.kept (row := none) (grown_of_below HB3.out) (by cases h : (Value.slice A1 N c1).ownBlock <;> simp)).alloc _) (w3.heap.size + 1) (some ⟨w3.heap.size, 0, none⟩) 1 1 [v3] rfl (Sl.new w3 _ _) rfl (fun e => by cases e) (fun v hv => by simp at hv; subst hv; exact HV1.out) (by simp only [maxLen]; omega) (by omega) (by simp; omega) ?_); intro v' w5 ho hg hat; obtain ⟨A5, c5, rfl, hn5, _⟩ := own_of ho; have HO5 := Lib.hid ho; have HN5 := Lib.hid hn5; have HG5 := Lib.hid hg; have HAT := Lib.hid hat; clear ho hg hat hn5)
          have hb5 : Below W0.heap.size W0 w5 := by
            have h1 : Below W0.heap.size W0 (w3.alloc (.cells #[v3] 94)) := (HBR.out.trans (HB3.out.mono HBR.out.size)).alloc hws _
            exact h1.grown HG5.out h1.size (fun q hq => (HO.out.lt q hq).1)
          have hrs5 : RowsD w5 (fun b => ((D b ∧ b < w.heap.size) ∨ w.heap.size + 2 ≤ b) ∧ (Value.slice A5 (N + 1) c5).ownBlock ≠ some b) (us ++ [v3]) (L.drop k ++ List.replicate (j + 1) (List.replicate W bl)) := by
            rw [List.replicate_succ', ← List.append_assoc]
            have c1' : Chg (fun q => (Value.slice A1 N c1).ownBlock = some q) w3 w5 := ((Chg.refl (fun q => (Value.slice A1 N c1).ownBlock = some q) w3).alloc (.cells #[v3] 94)).grown HG5.out (fun q hq => .inl hq)
            have hne5 : ∀ q, q < w3.heap.size → (Value.slice A1 N c1).ownBlock ≠ some q → (Value.slice A5 (N + 1) c5).ownBlock ≠ some q := fun q hq h e => by
              rcases HAT.out with h2 | h2
              · rw [h2] at e; exact h e
              · rw [h2] at e
                injection e with e
                simp at e
                omega
            have hold := ((HRS.out.below HB3.out).mono (D' := fun b => (((D b ∧ b < w.heap.size) ∨ w.heap.size + 2 ≤ b) ∧ (Value.slice A5 (N + 1) c5).ownBlock ≠ some b) ∧ (Value.slice A1 N c1).ownBlock ≠ some b) (fun q hq h => ⟨⟨h.1, hne5 q hq h.2⟩, h.2⟩)).chg c1' (fun q _ h e => h.2 e)
            have hnew := (HR3.out.mono (D' := fun b => (((D b ∧ b < w.heap.size) ∨ w.heap.size + 2 ≤ b) ∧ (Value.slice A5 (N + 1) c5).ownBlock ≠ some b) ∧ (Value.slice A1 N c1).ownBlock ≠ some b) (fun q hq h => by
              have h1 : wr.heap.size ≤ q := h
              have h2 : (Value.slice A1 N c1).ownBlock ≠ some q := fun e => by have := (HO.out.lt q e).2; omega
              have := HBR.out.size
              exact ⟨⟨.inr (by omega), hne5 q hq h2⟩, h2⟩)).chg c1' (fun q _ h e => h.2 e)
            exact (hold.snoc hnew).mono (fun q _ h => h.1)
          have HRS5 := Lib.hid hrs5
          have HB5 := Lib.hid hb5
          clear hb5 hrs5
          go_roundw
          case rel => exact ⟨j + 1, N + 1, A5, c5, us ++ [v3], by go_num, by omega, rfl, by have := HNN.out; omega, HN5.out, HO5.out, HRS5.out, HB5.out⟩
          case measure => simp [intOf]; omega
        · have hjk : j = k := by omega
          have hNn : N = n := by omega
          have HJK := Lib.hid hjk
          clear hN
          subst hNn
          have hji : ¬ (j : Int) < k := by omega
          clear hjk
          go_wp2_with (first
            | ((with_reducible refine at_store 32 ?_); refine wpList_store_cell rfl _ _ _ rfl rfl w.heap.size 2 _ _ (.slice A1 N c1) rfl rfl HX1.out (by simp [rgC]) (by kernel_rfl) rfl ?_; intro w6 hn6 hg6; have hn6' : Blk w6 w.heap.size 29 (rgC W N A1 c1) := hn6; obtain ⟨z0, z1, z2⟩ := blk3 hn6'; have HX26 := Lib.hid (HX2.out.chg (chg_of_grown hg6) (fun e => by have e' : w.heap.size + 1 = w.heap.size := e; omega)); have HG6 := Lib.hid hg6; clear hn6 hn6' hg6 e0 e1 e2)
            | ((with_reducible refine at_store 4 ?_); refine wpList_store_blk rfl _ _ _ rfl rfl (w.heap.size + 1) 0 _ (rgC 0 0 none 0) (rgC W N A1 c1) rfl rfl HX26.out (by simp [rgC]) rg_size (rgC_one _ _ _ _) ?_; intro w7 hn7 hg7; have hn7' : Blk w7 (w.heap.size + 1) 29 (rgC W N A1 c1) := hn7))
          have hlN : (L.drop k ++ List.replicate j (List.replicate W bl)).length = N := by
            have h1 := HRS.out.1
            have h2 := HO.out.1
            omega
          have hv : RfV wr (fun b => (D b ∧ b < w.heap.size) ∨ w.heap.size + 2 ≤ b) (.agg (rgC W N A1 c1).toArray) W (L.drop k ++ List.replicate j (List.replicate W bl)) := by
            refine ⟨A1, c1, by rw [hlN], HN1.out, by rw [hlN]; exact own_cap HO.out, us, (SlD.own HO.out).mono (fun q _ h => .inr (by have h' : W0.heap.size ≤ q := h; omega)), HRS.out.mono (fun q _ h => h.1)⟩
          have hv6 := hv.chg (chg_of_grown HG6.out) (fun q _ h e => by have e' : q = w.heap.size := e; omega)
          have hbw6 : Below w.heap.size w w6 := HBW.out.grown HG6.out HBW.out.size (fun q hq => by injection hq with hq; omega)
          have hjk := HJK.out
          subst hjk
          exact bodyPost_ret (results_ct rfl rfl rfl hn7'.whole Tryz.underlying29 rfl rg_size) rfl ⟨_, rfl, grid_fin1 hbw6 hv6 (chg_of_grown hg7)⟩
end Go.Proofs.YtfmkeeaenjeneaaGreatDoor

namespace Go.Proofs.YtfmkeeaenjeneaaGreatDoor
open Go.RowKit
set_option linter.unusedVariables false
set_option linter.unusedSimpArgs false

theorem splice_length (cs ds : List Value) (o : Nat) (h : o + ds.length ≤ cs.length) : (splice cs o ds).length = cs.length := by
  unfold splice
  simp
  omega

set_option maxRecDepth 100000 in
set_option maxHeartbeats 8000000 in
theorem rfit_any {w : World} {D : Nat → Prop} {v : Value} {l : List Cl} (h : RowD w D v l) (W : Nat) (hw1 : 1 ≤ W) (hw5 : W ≤ 500) (hl1 : 1 ≤ l.length) (hl5 : l.length ≤ 500) :
    Calls Tryz.prog 58 #[v, .int .i64 W] w fun e w' => ∃ v', e = .returned v' ∧ RowD w' (fun b => w.heap.size ≤ b) v' (fitM l W) ∧ Below w.heap.size w w' := by
  obtain ⟨A, c, rfl, hnil, hS⟩ := h
  obtain ⟨i0, hi0, hz0, hz1, hz2⟩ := info_parts cl_info
  obtain ⟨p, hp⟩ : ∃ p, min l.length W = p + 1 := ⟨min l.length W - 1, by omega⟩
  obtain ⟨b, off, rfl, hbl, _, hbx⟩ := hS.open_ (by rw [rc_length]; omega)
  have htk : Sl w w.heap.size (some ⟨b, off, none⟩) (rc (l.take (p + 1))) := by
    have := hS.sl.take ((p + 1) * 7)
    rwa [rc_take] at this
  have hol : (l.take W).length = p + 1 := by rw [List.length_take]; omega
  have hot : l.take W = l.take (p + 1) := by
    rcases Nat.lt_or_ge l.length W with h' | h'
    · rw [List.take_of_length_le (by omega), List.take_of_length_le (by omega)]
    · have : W = p + 1 := by omega
      rw [this]
  have hpl : p < l.length := by omega
  have hx : (l.take (p + 1))[p]? = some l[p] := by rw [List.getElem?_take, if_pos (by omega), List.getElem?_eq_getElem hpl]
  obtain ⟨o, ho⟩ : ∃ o, o = (if (l[p]).w = 2 then (l.take (p + 1)).set p bl else l.take (p + 1)) := ⟨_, rfl⟩
  have hM : fitM l W = o ++ List.replicate (W - (p + 1)) bl := by
    unfold fitM
    simp only
    rw [hol, hot, show p + 1 - 1 = p by omega, hx]
    simp only
    rw [ho]
  rw [hM]
  generalize l[p] = x at hx ho
  have hol2 : (l.take (p + 1)).length = p + 1 := by rw [← hot]; exact hol
  obtain ⟨n, hn⟩ : ∃ n, n = l.length := ⟨_, rfl⟩
  have hmin : min (n : Int) (W : Int) = (p : Int) + 1 := by omega
  have hpn : p + 1 ≤ n := by omega
  have hpni : (p : Int) + 1 ≤ n := by omega
  have hpW : p + 1 ≤ W := by omega
  have hpc : p + 1 ≤ c := by have := hnil.2; omega
  have hpci : (p : Int) + 1 ≤ c := by omega
  rw [← hn] at hl5 ⊢
  generalize l.take (p + 1) = t at *
  have HI0 := Lib.hid hi0
  have HZ0 := Lib.hid hz0
  have HZ1 := Lib.hid hz1
  have HZ2 := Lib.hid hz2
  have HSL := Lib.hid (htk.alloc (Nat.le_refl _) (.cells #[] 83))
  have HTL := Lib.hid hol2
  have HX := Lib.hid hx
  have HO := Lib.hid ho
  have HLIT := Lib.hid (show (w.alloc (.cells #[] 83)).ownsRow w.heap.size 83 7 (.slice (some ⟨w.heap.size, 0, none⟩) 0 0) 0 [] by have := World.ownsRow_lit (base := w.heap.size) (e := 83) (size := 7) w #[] 0 (Nat.le_refl _) (by simp only [maxLen]; omega) (by simp); simpa using this)
  have hcast : ((p + 1 : Nat) : Int) = (p : Int) + 1 := by omega
  have hp0 : 0 ≤ (p : Int) := by omega
  clear hi0 hz0 hz1 hz2 hS hnil hbx htk hol hot hx ho hM hn hpl hp hol2
  have key : x.w = 2 ∨ x.w ≠ 2 := by omega
  rcases key with h2 | h2
  · have e2 : (x.w == 2) = true := by simp [h2]
    have HO' : Hid (o = t.set p bl) := by have := HO.out; rw [if_pos h2] at this; exact this
    clear h2
    go_enter Tryz.func58, Tryz.ntmps58
    go_upto_region 4 with (first
      | (at_builtin; (refine wpList_append_sl _ rfl (.tmp 6) (.tmp 12) _ rfl w.heap.size 83 i0 _ 7 48 Tryz.underlying78 HI0.out HZ0.out HZ1.out HZ2.out rfl (by omega) (.slice (some ⟨w.heap.size, 0, none⟩) 0 0) 0 [] rfl HLIT.out w.heap.size _ (p + 1) c (rc t) rfl HSL.out (by rw [rc_length, HTL.out]) (fun e => by cases e) (rc_one _) (by simp only [maxLen]; omega) (by omega) (by simp) ?_); intro v' w2 hw hg hat; rw [Nat.zero_add, List.nil_append] at hw; obtain ⟨g, cap, cur, rfl, hbg, hb2, htk, hlc, hre⟩ := own_blk2 hw (by omega); have HB2 := Lib.hid hb2; have HTK := Lib.hid htk; have HLC := Lib.hid hlc; have HRE := Lib.hid hre; have HBG := Lib.hid hbg; have HOW := Lib.hid hw; have HBE := Lib.hid (((Below.refl w.heap.size w).alloc (Nat.le_refl _) (.cells #[] 83)).grown hg (by simp) (fun j hj => by have : some w.heap.size = some j := hj; injection this with this; omega)); have hcx : w2.cell? ⟨g, p * 7 + 1, none⟩ = some (.int .i64 x.w) := (by rw [hb2.cell, ← List.getElem?_take_of_lt (show p * 7 + 1 < (p + 1) * 7 by omega), htk]; exact rc_get HX.out (j := 1) rfl); clear hw hg hat hb2 htk hlc hre hbg)
      | ((with_reducible refine at_store 32 ?_); refine wpList_store_blk rfl _ _ _ rfl rfl g (p * 7) _ cur bl.cells rfl rfl HB2.out (by have := HLC.out; rw [Cl.len]; omega) cl_size bl.one ?_; intro w3 hn3 hg3))
    have HST : Hid (w3.ownsRow w.heap.size 83 7 (.slice (some ⟨g, 0, none⟩) (p + 1) cap) (p + 1) (rc (o ++ List.replicate (p + 1 - (p + 1)) bl))) := by
      have h1 := HRE.out w3 _ hn3 (splice_length _ _ _ (by have := HLC.out; rw [Cl.len]; omega))
      rw [take_splice _ _ _ _ (by rw [Cl.len]; omega) HLC.out, HTK.out, rc_splice _ _ _ (by rw [HTL.out]; omega), ← HO'.out] at h1
      show World.ownsRow _ _ _ _ _ _ _
      rw [Nat.sub_self, List.replicate_zero, List.append_nil]
      exact h1
    have HBS := Lib.hid (HBE.out.grown hg3 HBE.out.size (fun j hj => by injection hj with hj; have := HBG.out; omega))
    clear hn3 hg3
    go_loopw [5] (fun v5 wr => ∃ (k : Nat) (A1 : Option Addr) (c1 : Nat), v5 = .slice A1 k c1 ∧ p + 1 ≤ k ∧ k ≤ W ∧ (A1 = none → c1 = 0) ∧ wr.ownsRow w.heap.size 83 7 (.slice A1 k c1) k (rc (o ++ List.replicate (k - (p + 1)) bl)) ∧ Below w.heap.size w wr) (fun v5 _ => W - lenOf v5)
    case atStart => exact ⟨p + 1, some ⟨g, 0, none⟩, cap, rfl, by omega, hpW, fun e => (by cases e), HST.out, HBS.out⟩
    case round =>
      obtain ⟨k, A1, c1, rfl, hk1, hk2, hn1, ho, hbr⟩ := hrel
      have HO1 := Lib.hid ho
      have HBR := Lib.hid hbr
      have HN1 := Lib.hid hn1
      clear ho hbr hn1 HST HBS hcx
      by_cases hlt : k < W
      · have hki : (k : Int) < W := by omega
        have hws := HBR.out.size
        have e3 : rc (o ++ List.replicate (k - (p + 1)) bl) ++ bl.cells = rc (o ++ List.replicate (k + 1 - (p + 1)) bl) := by
          rw [show k + 1 - (p + 1) = (k - (p + 1)) + 1 by omega, rc_append, rc_append, List.append_assoc, rc_rep_snoc]
        have E3 := Lib.hid e3
        clear e3
        go_wp2_with (at_builtin; (refine wpList_append_sl _ rfl (.tmp 37) (.tmp 39) _ rfl w.heap.size 83 i0 _ 7 48 Tryz.underlying78 HI0.out HZ0.out HZ1.out HZ2.out rfl (by omega) (.slice A1 k c1) k _ rfl (HO1.out.alloc _) (wr.heap.size + 1) (some ⟨wr.heap.size, 0, none⟩) 1 1 bl.cells rfl (Sl.new wr _ _) rfl (fun e => by cases e) bl.one (by simp only [maxLen]; omega) (by omega) (by simp; omega) ?_); intro v' w5 hw hg hat; rw [E3.out] at hw; obtain ⟨A5, c5, rfl, hn5, _⟩ := own_of hw; have HO5 := Lib.hid hw; have HN5 := Lib.hid hn5; have HB5 := Lib.hid ((HBR.out.alloc HBR.out.size _).grown hg (by simp; omega) (fun j hj => (HO1.out.lt j hj).1)); clear hw hg hat hn5)
        go_roundw
        case rel => exact ⟨k + 1, A5, c5, rfl, by omega, by omega, HN5.out, HO5.out, HB5.out⟩
        case measure => simp [lenOf]; omega
      · have hki : ¬ (k : Int) < W := by omega
        obtain rfl : k = W := by omega
        go_wp2
        go_ret
        have hol3 : (o ++ List.replicate (k - (p + 1)) bl).length = k := by
          have := HO1.out.1
          rw [rc_length] at this
          omega
        exact ⟨.slice A1 k c1, rfl, ⟨A1, c1, by rw [hol3], ⟨HN1.out, by rw [hol3]; exact own_cap HO1.out⟩, SlD.own HO1.out⟩, HBR.out⟩
  · have e2 : (x.w == 2) = false := by simp [h2]
    have HO' : Hid (o = t) := by have := HO.out; rw [if_neg h2] at this; exact this
    clear h2
    go_enter Tryz.func58, Tryz.ntmps58
    go_upto_region 4 with (at_builtin; (refine wpList_append_sl _ rfl (.tmp 6) (.tmp 12) _ rfl w.heap.size 83 i0 _ 7 48 Tryz.underlying78 HI0.out HZ0.out HZ1.out HZ2.out rfl (by omega) (.slice (some ⟨w.heap.size, 0, none⟩) 0 0) 0 [] rfl HLIT.out w.heap.size _ (p + 1) c (rc t) rfl HSL.out (by rw [rc_length, HTL.out]) (fun e => by cases e) (rc_one _) (by simp only [maxLen]; omega) (by omega) (by simp) ?_); intro v' w2 hw hg hat; rw [Nat.zero_add, List.nil_append] at hw; obtain ⟨g, cap, cur, rfl, hbg, hb2, htk, hlc, hre⟩ := own_blk2 hw (by omega); have HB2 := Lib.hid hb2; have HTK := Lib.hid htk; have HLC := Lib.hid hlc; have HRE := Lib.hid hre; have HBG := Lib.hid hbg; have HOW := Lib.hid hw; have HBE := Lib.hid (((Below.refl w.heap.size w).alloc (Nat.le_refl _) (.cells #[] 83)).grown hg (by simp) (fun j hj => by have : some w.heap.size = some j := hj; injection this with this; omega)); have hcx : w2.cell? ⟨g, p * 7 + 1, none⟩ = some (.int .i64 x.w) := (by rw [hb2.cell, ← List.getElem?_take_of_lt (show p * 7 + 1 < (p + 1) * 7 by omega), htk]; exact rc_get HX.out (j := 1) rfl); clear hw hg hat hb2 htk hlc hre hbg)
    have HST : Hid (w2.ownsRow w.heap.size 83 7 (.slice (some ⟨g, 0, none⟩) (p + 1) cap) (p + 1) (rc (o ++ List.replicate (p + 1 - (p + 1)) bl))) := by
      show World.ownsRow _ _ _ _ _ _ _
      rw [Nat.sub_self, List.replicate_zero, List.append_nil, HO'.out]
      exact HOW.out
    have HBS := HBE
    go_loopw [5] (fun v5 wr => ∃ (k : Nat) (A1 : Option Addr) (c1 : Nat), v5 = .slice A1 k c1 ∧ p + 1 ≤ k ∧ k ≤ W ∧ (A1 = none → c1 = 0) ∧ wr.ownsRow w.heap.size 83 7 (.slice A1 k c1) k (rc (o ++ List.replicate (k - (p + 1)) bl)) ∧ Below w.heap.size w wr) (fun v5 _ => W - lenOf v5)
    case atStart => exact ⟨p + 1, some ⟨g, 0, none⟩, cap, rfl, by omega, hpW, fun e => (by cases e), HST.out, HBS.out⟩
    case round =>
      obtain ⟨k, A1, c1, rfl, hk1, hk2, hn1, ho, hbr⟩ := hrel
      have HO1 := Lib.hid ho
      have HBR := Lib.hid hbr
      have HN1 := Lib.hid hn1
      clear ho hbr hn1 HST HBS hcx
      by_cases hlt : k < W
      · have hki : (k : Int) < W := by omega
        have hws := HBR.out.size
        have e3 : rc (o ++ List.replicate (k - (p + 1)) bl) ++ bl.cells = rc (o ++ List.replicate (k + 1 - (p + 1)) bl) := by
          rw [show k + 1 - (p + 1) = (k - (p + 1)) + 1 by omega, rc_append, rc_append, List.append_assoc, rc_rep_snoc]
        have E3 := Lib.hid e3
        clear e3
        go_wp2_with (at_builtin; (refine wpList_append_sl _ rfl (.tmp 37) (.tmp 39) _ rfl w.heap.size 83 i0 _ 7 48 Tryz.underlying78 HI0.out HZ0.out HZ1.out HZ2.out rfl (by omega) (.slice A1 k c1) k _ rfl (HO1.out.alloc _) (wr.heap.size + 1) (some ⟨wr.heap.size, 0, none⟩) 1 1 bl.cells rfl (Sl.new wr _ _) rfl (fun e => by cases e) bl.one (by simp only [maxLen]; omega) (by omega) (by simp; omega) ?_); intro v' w5 hw hg hat; rw [E3.out] at hw; obtain ⟨A5, c5, rfl, hn5, _⟩ := own_of hw; have HO5 := Lib.hid hw; have HN5 := Lib.hid hn5; have HB5 := Lib.hid ((HBR.out.alloc HBR.out.size _).grown hg (by simp; omega) (fun j hj => (HO1.out.lt j hj).1)); clear hw hg hat hn5)
        go_roundw
        case rel => exact ⟨k + 1, A5, c5, rfl, by omega, by omega, HN5.out, HO5.out, HB5.out⟩
        case measure => simp [lenOf]; omega
      · have hki : ¬ (k : Int) < W := by omega
        obtain rfl : k = W := by omega
        go_wp2
        go_ret
        have hol3 : (o ++ List.replicate (k - (p + 1)) bl).length = k := by
          have := HO1.out.1
          rw [rc_length] at this
          omega
        exact ⟨.slice A1 k c1, rfl, ⟨A1, c1, by rw [hol3], ⟨HN1.out, by rw [hol3]; exact own_cap HO1.out⟩, SlD.own HO1.out⟩, HBR.out⟩
end Go.Proofs.YtfmkeeaenjeneaaGreatDoor

namespace Go.Proofs.YtfmkeeaenjeneaaGreatDoor
open Go.RowKit
set_option linter.unusedVariables false
set_option linter.unusedSimpArgs false

/-- A grid under construction: its box G, its rows so far. -/
structure Bld (w : World) (G base W H : Nat) (A : Option Addr) (c k : Nat) (us : List Value) (L : List (List Cl)) : Prop where
  box : Blk w G 29 [.int .i64 W, .int .i64 H, .slice A k c]
  own : w.ownsRow base 94 1 (.slice A k c) k us
  rows : RowsD w (fun b => base ≤ b ∧ (Value.slice A k c).ownBlock ≠ some b) us L
  nil : A = none → c = 0
namespace Bld
variable {w w3 w5 : World} {G base W H : Nat} {A : Option Addr} {c k : Nat} {us : List Value} {L : List (List Cl)}
theorem e2 (h : Bld w G base W H A c k us L) : w.cell? ⟨G, 2, none⟩ = some (.slice A k c) := h.box.cell 2
theorem below (h : Bld w G base W H A c k us L) (hb : Below w.heap.size w w3) : Bld w3 G base W H A c k us L :=
  ⟨h.box.below hb h.box.lt, h.own.kept (row := none) (grown_of_below hb) (by cases h : (Value.slice A k c).ownBlock <;> simp), h.rows.below hb, h.nil⟩
theorem step (h : Bld w G base W H A c k us L) (hG : G < base) (hbw : base ≤ w.heap.size) (hb3 : Below w.heap.size w w3) {v3 : Value} {l : List Cl} (hr : RowD w3 (fun b => w.heap.size ≤ b) v3 l) {g cap : Nat}
    (ho : w5.ownsRow base 94 1 (.slice (some ⟨g, 0, none⟩) (k + 1) cap) (k + 1) (us ++ [v3])) (hg : (w3.alloc (.cells #[v3] 94)).grownBy w5 (Value.slice A k c).ownBlock) (hat : (Value.slice A k c).ownBlock = some g ∨ g = w3.heap.size + 1) :
    Bld (w5.setCell ⟨G, 2, none⟩ (.slice (some ⟨g, 0, none⟩) (k + 1) cap)) G base W H (some ⟨g, 0, none⟩) cap (k + 1) (us ++ [v3]) (L ++ [l]) ∧ Below G w (w5.setCell ⟨G, 2, none⟩ (.slice (some ⟨g, 0, none⟩) (k + 1) cap)) := by
  have hs3 := hb3.size
  have hlt := h.own.lt
  have hGw : G < w.heap.size := h.box.lt
  have hb5 : Below base w w5 := by
    have h1 : Below base w (w3.alloc (.cells #[v3] 94)) := (hb3.mono hbw).alloc (by omega) _
    exact h1.grown hg (by simp; omega) (fun q hq => (hlt q hq).1)
  have hgb := (ho.lt g rfl)
  have c1' : Chg (fun q => (Value.slice A k c).ownBlock = some q) w3 w5 := ((Chg.refl (fun q => (Value.slice A k c).ownBlock = some q) w3).alloc (.cells #[v3] 94)).grown hg (fun q hq => .inl hq)
  have cG : Chg (one G) w5 (w5.setCell ⟨G, 2, none⟩ (.slice (some ⟨g, 0, none⟩) (k + 1) cap)) := (Chg.refl (one G) w5).setCell (p := ⟨G, 2, none⟩) (.inl rfl) _
  have hne5 : ∀ q, q < w3.heap.size → (Value.slice A k c).ownBlock ≠ some q → (Value.slice (some ⟨g, 0, none⟩) (k + 1) cap).ownBlock ≠ some q := fun q hq hn e => by
    have e' : g = q := by injection e
    rcases hat with h2 | h2
    · rw [e'] at h2; exact hn h2
    · omega
  have hold := ((h.rows.below hb3).mono (D' := fun b => (base ≤ b ∧ (Value.slice (some ⟨g, 0, none⟩) (k + 1) cap).ownBlock ≠ some b) ∧ (Value.slice A k c).ownBlock ≠ some b) (fun q hq h => ⟨⟨h.1, hne5 q hq h.2⟩, h.2⟩)).chg c1' (fun q _ h e => h.2 e)
  have hnew := (hr.mono (D' := fun b => (base ≤ b ∧ (Value.slice (some ⟨g, 0, none⟩) (k + 1) cap).ownBlock ≠ some b) ∧ (Value.slice A k c).ownBlock ≠ some b) (fun q hq h' => by
    have h1 : w.heap.size ≤ q := h'
    have h2 : (Value.slice A k c).ownBlock ≠ some q := fun e => by have := (hlt q e).2; omega
    exact ⟨⟨by omega, hne5 q hq h2⟩, h2⟩)).chg c1' (fun q _ h e => h.2 e)
  refine ⟨⟨?_, ?_, ?_, fun e => by cases e⟩, ?_⟩
  · have hb : Blk w5 G 29 [.int .i64 W, .int .i64 H, .slice A k c] := h.box.below hb5 hG
    exact hb.set_ 2 _
  · exact ho.kept (row := some G) (by
      exact ⟨rfl, rfl, rfl, by simp [World.setCell], fun q hq hn => Below.heap_setCell _ _ _ _ (fun e => hn (by rw [e]))⟩) (.inr (by
        intro e
        have e' : g = G := by injection e
        omega))
  · exact ((hold.snoc hnew).mono (fun q _ h => h.1)).chg cG (fun q _ h e => by have e' : q = G := e; have := h.1; omega)
  · have hbG : Below G w w5 := hb5.mono (Nat.le_of_lt hG)
    exact hbG.setCell (p := ⟨G, 2, none⟩) (Nat.le_refl _) _
/-- the finished grid -/
theorem fin (h : Bld w G base W H A c k us L) (hk : k = H) (hL : L.length = H) : RfV w (fun b => base ≤ b) (.agg (rgC W H A c).toArray) W L := by
  subst hk
  exact ⟨A, c, by rw [hL], h.nil, by rw [hL]; exact own_cap h.own, us, SlD.own h.own, h.rows.mono (fun q _ h => h.1)⟩
end Bld
theorem chg_of_own {a b : World} {r : Option Nat} (h : a.grownBy b r) : Chg (fun q => r = some q) a b := (Chg.refl (fun q => r = some q) a).grown h (fun q hq => .inl hq)
theorem enters_rblanks : ∀ args w, (callFunc 47 args).run Tryz.prog w = .ok (.enter 47 args) w := enters_of Tryz.func47 (by kernel_rfl) rfl

set_option maxHeartbeats 1000000 in
theorem rsize_any (a b : Int) (w : World) : Calls Tryz.prog 46 #[.int .i64 a, .int .i64 b] w fun e w' => e = .returned (.bool (sideB a && sideB b)) ∧ w = w' := by
  go_enter Tryz.func46, Tryz.ntmps46
  go_wp2
  all_goals
    go_ret
    exact ⟨ret_bool (by unfold sideB; rw [Bool.eq_iff_iff]; simp; omega), rfl⟩

set_option maxRecDepth 100000 in
set_option maxHeartbeats 4000000 in
theorem rnew_no (a b : Int) (hbad : sideB a = false ∨ sideB b = false) (w : World) :
    Calls Tryz.prog 20 #[.int .i64 a, .int .i64 b] w fun e w' => e = .returned (.tuple #[.agg (rgC 0 0 none 0).toArray, .int .i64 40]) ∧ Below w.heap.size w w' := by
  have hz : (sideB a && sideB b) = false := by rcases hbad with h | h <;> simp [h]
  have HZ := Lib.hid hz
  have HN := Lib.hid (Blk.new w 29 (rgC 0 0 none 0))
  clear hz hbad
  go_enter Tryz.func20, Tryz.ntmps20
  go_wp2_with (first
    | (go_at_call 46; refine (rsize_any a b _).mono ?_; rintro e w' ⟨rfl, rfl⟩; rw [HZ.out])
    | ((with_reducible refine at_store 4 ?_); refine wpList_store_blk rfl _ _ _ rfl rfl w.heap.size 0 _ (rgC 0 0 none 0) (rgC 0 0 none 0) rfl rfl HN.out (by simp [rgC]) rg_size (rgC_one _ _ _ _) ?_; intro w2 hn2 hg2; have hn2' : Blk w2 w.heap.size 29 (rgC 0 0 none 0) := hn2))
  exact bodyPost_ret (results_ct rfl rfl rfl hn2'.whole Tryz.underlying29 rfl rg_size) rfl ⟨rfl, ((Below.refl _ _).alloc (Nat.le_refl _) _).grown hg2 (by simp) (fun j hj => by injection hj with hj; omega)⟩

set_option maxRecDepth 100000 in
set_option maxHeartbeats 8000000 in
theorem rnew_ok (W H : Nat) (w1 : 1 ≤ W) (w5 : W ≤ 500) (h1 : 1 ≤ H) (h5 : H ≤ 500) (w : World) :
    Calls Tryz.prog 20 #[.int .i64 W, .int .i64 H] w fun e w' => ∃ V, e = .returned (.tuple #[V, .int .i64 0]) ∧ RfV w' (fun b => w.heap.size ≤ b) V W (blankG W H) ∧ Below w.heap.size w w' := by
  have hz : (sideB W && sideB H) = true := by simp [sideB]; omega
  have HZ := Lib.hid hz
  obtain ⟨i0, hi0, hz0, hz1, hz2⟩ := info_parts rrow_info
  have HI0 := Lib.hid hi0
  have HZ0 := Lib.hid hz0
  have HZ1 := Lib.hid hz1
  have HZ2 := Lib.hid hz2
  have HN := Lib.hid (show Blk ((w.alloc (.cells #[.int .i64 0, .int .i64 0, .slice none 0 0] 29)).alloc (.cells #[.int .i64 0, .int .i64 0, .slice none 0 0] 29)) w.heap.size 29 (rgC 0 0 none 0) from (Blk.new w _ (rgC 0 0 none 0)).alloc _)
  have HM := Lib.hid (show Blk ((w.alloc (.cells #[.int .i64 0, .int .i64 0, .slice none 0 0] 29)).alloc (.cells #[.int .i64 0, .int .i64 0, .slice none 0 0] 29)) (w.heap.size + 1) 29 (rgC 0 0 none 0) from Blk.new1 w _ _ (rgC 0 0 none 0))
  clear hz hi0 hz0 hz1 hz2
  go_enter Tryz.func20, Tryz.ntmps20
  go_wp2_with (first
    | (go_at_call 46; refine (rsize_any W H _).mono ?_; rintro e w' ⟨rfl, rfl⟩; rw [HZ.out])
    | ((with_reducible refine at_store 6 ?_); refine wpList_store_blk rfl _ _ _ rfl rfl (w.heap.size + 1) 0 _ (rgC 0 0 none 0) [.int .i64 W, .int .i64 H, .slice none 0 0] rfl rfl HM.out (by simp [rgC]) rg_size (by intro v hv; simp at hv; rcases hv with rfl | rfl | rfl <;> rfl) ?_; intro w2 hn2 hg2; have HM2 := Lib.hid (show Blk w2 (w.heap.size + 1) 29 [.int .i64 W, .int .i64 H, .slice none 0 0] from hn2); have HN2 := Lib.hid (HN.out.chg (chg_of_grown hg2) (fun e => by have e' : w.heap.size = w.heap.size + 1 := e; omega)); have HB2 := Lib.hid ((((Below.refl _ _).alloc (Nat.le_refl _) _).alloc (by simp) _ : Below w.heap.size w _).grown hg2 (by simp; omega) (fun j hj => by injection hj with hj; omega)); clear hn2 hg2))
  go_loopw [7] (fun v7 wr => ∃ (k : Nat) (A1 : Option Addr) (c1 : Nat) (us : List Value), v7 = .int .i64 k ∧ k ≤ H ∧ Bld wr (w.heap.size + 1) (w.heap.size + 2) W H A1 c1 k us (List.replicate k (List.replicate W bl)) ∧ Blk wr w.heap.size 29 (rgC 0 0 none 0) ∧ Below w.heap.size w wr) (fun v7 _ => H - (intOf v7).toNat)
  case atStart => exact ⟨0, none, 0, [], rfl, by omega, ⟨HM2.out, World.ownsRow_nil _ _ _ _, .nil, fun _ => rfl⟩, HN2.out, HB2.out⟩
  case round =>
    obtain ⟨k, A1, c1, us, rfl, hk, hbd, hx, hbr⟩ := hrel
    have HBD := Lib.hid hbd
    have HX := Lib.hid hx
    have HBR := Lib.hid hbr
    have e2 := hbd.e2
    clear hbd hx hbr HM2 HN2 HB2 HM HN
    by_cases hlt : k < H
    · have hki : (k : Int) < H := by omega
      have hwl := HBD.out.box.lt
      go_upto_region 7 with fail
      go_region_law (first
        | (refine step_call rfl 47 _ _ rfl enters_rblanks #[.int .i64 W] (by simp [Act.eval, Act.put]) (rblanks_any W (by omega) _) ?_; rintro e w3 ⟨v3, rfl, hr3, hb3⟩; refine ⟨_, rfl, ?_⟩; have HR3 := Lib.hid hr3; have HB3 := Lib.hid ((Below.refl _ _).drew.trans hb3); have hv1 : v3.oneCell' = true := hr3.one; have HV1 := Lib.hid hv1; have HD3 := Lib.hid (HBD.out.below HB3.out); have f2 := HD3.out.e2; have f3 : (w3.alloc (.cells #[v3] 94)).cell? ⟨w.heap.size + 1, 2, none⟩ = some (.slice A1 k c1) := (HD3.out.box.alloc _).cell 2; clear hr3 hb3 hv1)
        | (refine step_append_lies _ rfl (.tmp 22) (.tmp 25) _ rfl (w.heap.size + 2) 94 i0 _ 1 24 Tryz.underlying27 HI0.out HZ0.out HZ1.out HZ2.out rfl (by omega) (.slice A1 k c1) k us (by simp [Act.eval, Act.put]) (HD3.out.own.alloc _) ⟨w3.heap.size, 0, none⟩ 1 1 [v3] (by simp [Act.eval, Act.put]) rfl (World.news_of_block (cs := #[v3]) (t := 94) (fr := (0, 0)) (heap_alloc_new w3 _)) (fun v hv => by simp at hv; subst hv; exact HV1.out) (by omega) (by simp only [maxLen]; omega) (by omega) (by have := HB3.out.size; simp; omega) (w3.heap.size + 1) (by simp) ?_; intro g cap w5 ho hg hat hgl; have hstep := HBD.out.step (by omega) (by omega) HB3.out HR3.out ho hg hat; have HST := Lib.hid hstep; have hbx := (HD3.out.box.alloc (.cells #[v3] 94)).chg (chg_of_own hg) (fun e => by have := (HD3.out.own.lt _ e).1; omega); have z2 := hbx.cell 2; have zf2 := hbx.frozen 2; clear ho hg hat hbx hstep))
      all_goals
        go_wp2
        go_roundw
        case rel => exact ⟨k + 1, _, cap, us ++ [v3], by go_num, by omega, by have := HST.out.1; rw [← List.replicate_succ'] at this; exact this, HX.out.below HST.out.2 (by omega), HBR.out.trans (HST.out.2.mono (by omega))⟩
        case measure => simp [intOf]; omega
    · have hki : ¬ (k : Int) < H := by omega
      obtain rfl : k = H := by omega
      obtain ⟨e0, e1, e2'⟩ := blk3 (show Blk wr (w.heap.size + 1) 29 (rgC W k A1 c1) from HBD.out.box)
      go_wp2_with ((with_reducible refine at_store 4 ?_); refine wpList_store_blk rfl _ _ _ rfl rfl w.heap.size 0 _ (rgC 0 0 none 0) (rgC W k A1 c1) rfl rfl HX.out (by simp [rgC]) rg_size (rgC_one _ _ _ _) ?_; intro w6 hn6 hg6; have hn6' : Blk w6 w.heap.size 29 (rgC W k A1 c1) := hn6)
      have hv := HBD.out.fin rfl (by simp)
      refine bodyPost_ret (results_ct rfl rfl rfl hn6'.whole Tryz.underlying29 rfl rg_size) rfl ⟨_, rfl, (hv.chg (chg_of_grown hg6) (fun q _ h e => by have e' : q = w.heap.size := e; have h' : w.heap.size + 2 ≤ q := h; omega)).mono (fun q _ h => by have h' : w.heap.size + 2 ≤ q := h; show w.heap.size ≤ q; omega), HBR.out.grown hg6 HBR.out.size (fun j hj => by injection hj with hj; omega)⟩
end Go.Proofs.YtfmkeeaenjeneaaGreatDoor

namespace Go.Proofs.YtfmkeeaenjeneaaGreatDoor
open Go.RowKit
set_option linter.unusedVariables false
set_option linter.unusedSimpArgs false

theorem enters_rfit : ∀ args w, (callFunc 58 args).run Tryz.prog w = .ok (.enter 58 args) w := enters_of Tryz.func58 (by kernel_rfl) rfl
/-- what Resize comes to: the rows, their width, how many went, what is told -/
def rszM (W : Nat) (L : List (List Cl)) (a b row : Int) : List (List Cl) × Nat × Int × Int :=
  if sideB a = false ∨ sideB b = false then (L, W, 0, 40)
  else if inB row 0 W L.length = false then (L, W, 0, 5)
  else (resizeM L a.toNat b.toNat row, a.toNat, (topM row b.toNat : Int), 0)
/-- every row, whatever was made since -/
theorem RfAt.all_later {w : World} {D : Nat → Prop} {A : Option Addr} {c : Nat} {L : List (List Cl)} (h : RfAt w D A c L) (hn : 1 ≤ L.length) :
    ∃ b off, A = some ⟨b, off, none⟩ ∧ ∀ (j : Nat) l, L[j]? = some l → ∃ Ai ci, ∀ w', Below w.heap.size w w' → w'.cell? ⟨b, off + j, none⟩ = some (.slice Ai l.length ci) ∧ RowD w' D (.slice Ai l.length ci) l := by
  obtain ⟨b, off, Ai, ci, hA, _⟩ := h.row_later (row := 0) (List.getElem?_eq_getElem (by omega))
  refine ⟨b, off, hA, fun j l hl => ?_⟩
  obtain ⟨b', off', Aj, cj, hA', hlat⟩ := h.row_later hl
  rw [hA] at hA'
  injection hA' with hA'
  injection hA' with e1 e2
  subst e1 e2
  exact ⟨Aj, cj, hlat⟩

set_option maxRecDepth 100000 in
set_option maxHeartbeats 4000000 in
theorem rresize_no {w : World} {W n : Nat} {A : Option Addr} {c : Nat} (a b row : Int) (q : Int) (hbad : ((sideB a = false ∨ sideB b = false) ∧ q = 40) ∨ (sideB a = true ∧ sideB b = true ∧ (row < 0 ∨ (n : Int) ≤ row) ∧ q = 5)) :
    Calls Tryz.prog 28 #[.agg #[.int .i64 W, .int .i64 n, .slice A n c], .int .i64 a, .int .i64 b, .int .i64 row] w fun e w' => e = .returned (.tuple #[.agg (rgC W n A c).toArray, .int .i64 0, .int .i64 q]) ∧ Below w.heap.size w w' := by
  obtain ⟨hb0, h1, h2⟩ := erW0_is w W n A c
  have hW0 : erW0 w W n A c = (w.alloc (.cells #[.int .i64 W, .int .i64 n, .slice A n c] 29)).alloc (.cells #[.int .i64 0, .int .i64 0, .slice none 0 0] 29) := rfl
  generalize erW0 w W n A c = W0 at hb0 h1 h2 hW0
  have HB0 := Lib.hid hb0
  have H2 := Lib.hid h2
  have HW0 := Lib.hid hW0
  obtain ⟨e0, e1, e2⟩ := blk3 h1
  clear hb0 h1 h2 hW0
  have key : ((sideB a && sideB b) = false ∧ q = 40) ∨ ((sideB a && sideB b) = true ∧ row < 0 ∧ q = 5) ∨ ((sideB a && sideB b) = true ∧ ¬ row < 0 ∧ (n : Int) ≤ row ∧ q = 5) := by
    rcases hbad with ⟨h, hq⟩ | ⟨h1, h2, h3, hq⟩
    · exact .inl ⟨by rcases h with h | h <;> simp [h], hq⟩
    · rcases h3 with h3 | h3
      · exact .inr (.inl ⟨by simp [h1, h2], h3, hq⟩)
      · exact .inr (.inr ⟨by simp [h1, h2], by omega, h3, hq⟩)
  clear hbad
  rcases key with ⟨hz, rfl⟩ | ⟨hz, hr, rfl⟩ | ⟨hz, hr, hr2, rfl⟩
  all_goals
    have HZ := Lib.hid hz
    clear hz
    go_enter Tryz.func28, Tryz.ntmps28
    go_upto_region 1 with fail
    rw [← HW0.out]
    go_wp2_with (first
      | (go_at_call 46; refine (rsize_any a b _).mono ?_; rintro e w' ⟨rfl, rfl⟩; rw [HZ.out])
      | ((with_reducible refine at_store 8 ?_); refine wpList_store_blk rfl _ _ _ rfl rfl (w.heap.size + 1) 0 _ (rgC 0 0 none 0) (rgC W n A c) rfl rfl H2.out (by simp [rgC]) rg_size (rgC_one _ _ _ _) ?_; intro w2 hn2 hg2; have hn2' : Blk w2 (w.heap.size + 1) 29 (rgC W n A c) := hn2))
    exact bodyPost_ret (results_ctt rfl rfl rfl rfl hn2'.whole Tryz.underlying29 rfl rg_size) rfl ⟨rfl, HB0.out.grown hg2 HB0.out.size (fun j hj => by injection hj with hj; omega)⟩

set_option maxRecDepth 100000 in
set_option maxHeartbeats 16000000 in
theorem rresize_ok {w : World} {D : Nat → Prop} {A : Option Addr} {c W : Nat} {L : List (List Cl)} (h : RfAt w D A c L) (hq : Rws W L) (W' H' row : Nat) (a1 : 1 ≤ W') (a2 : W' ≤ 500) (a3 : 1 ≤ H') (a4 : H' ≤ 500) (hr : row < L.length) :
    Calls Tryz.prog 28 #[.agg #[.int .i64 W, .int .i64 L.length, .slice A L.length c], .int .i64 W', .int .i64 H', .int .i64 row] w fun e w' => ∃ V, e = .returned (.tuple #[V, .int .i64 (topM row H'), .int .i64 0]) ∧ RfV w' (fun b => D b ∨ w.heap.size ≤ b) V W' (resizeM L W' H' row) ∧ Below w.heap.size w w' := by
  obtain ⟨ρ, hρ⟩ : ∃ ρ : Int, (row : Int) = ρ := ⟨_, rfl⟩
  have hρ0 : 0 ≤ ρ := by omega
  have hρ1 : ρ < L.length := by omega
  rw [hρ]
  clear hρ hr
  have hz : (sideB W' && sideB H') = true := by simp [sideB]; omega
  have HZ := Lib.hid hz
  obtain ⟨i0, hi0, hz0, hz1, hz2⟩ := info_parts rrow_info
  have HI0 := Lib.hid hi0
  have HZ0 := Lib.hid hz0
  have HZ1 := Lib.hid hz1
  have HZ2 := Lib.hid hz2
  have hw1 := hq.w1
  have hw5 := hq.w5
  have hh5 := hq.h5
  obtain ⟨b, off, rfl, hlat⟩ := h.all_later hq.h1
  obtain ⟨hb0, h1, h2⟩ := erW0_is w W L.length (some ⟨b, off, none⟩) c
  have hW0 : erW0 w W L.length (some ⟨b, off, none⟩) c = (w.alloc (.cells #[.int .i64 W, .int .i64 L.length, .slice (some ⟨b, off, none⟩) L.length c] 29)).alloc (.cells #[.int .i64 0, .int .i64 0, .slice none 0 0] 29) := rfl
  generalize erW0 w W L.length (some ⟨b, off, none⟩) c = W0 at hb0 h1 h2 hW0
  have HLAT := Lib.hid hlat
  have HQ := Lib.hid hq
  obtain ⟨n, hn⟩ : ∃ n, n = L.length := ⟨_, rfl⟩
  obtain ⟨F, hF⟩ : ∃ F, topM ρ H' = F := ⟨_, rfl⟩
  obtain ⟨kept, hkp⟩ : ∃ kept, (L.drop F).take H' = kept := ⟨_, rfl⟩
  have hM : resizeM L W' H' ρ = kept.map (fitM · W') ++ List.replicate (H' - kept.length) (List.replicate W' bl) := by
    unfold resizeM
    simp only
    rw [hF, hkp]
  rw [hM, hF]
  obtain ⟨K, hK⟩ : ∃ K, K = kept.length := ⟨_, rfl⟩
  have hKe : K = min H' (n - F) := by rw [hK, ← hkp, List.length_take, List.length_drop, hn]
  have hFe : (F : Int) = max 0 (ρ + 1 - H') := by rw [← hF]; unfold topM; omega
  have hget : ∀ i, i < K → kept[i]? = L[F + i]? := fun i hi => by rw [← hkp, List.getElem?_take, if_pos (by omega), List.getElem?_drop]
  rw [← hn] at hρ1 hh5 h1 hW0 ⊢
  rw [← hK]
  obtain ⟨m1, hm1⟩ : ∃ m1, max 0 ((n : Int) - H') = m1 := ⟨_, rfl⟩
  obtain ⟨m2, hm2⟩ : ∃ m2, min m1 ((n : Int) - 1 - ρ) = m2 := ⟨_, rfl⟩
  have hlst : (n : Int) - m2 = (F : Int) + (K : Int) := by omega
  have hmx : max 0 ((F : Int) + (K : Int) - H') = (F : Int) := by omega
  have hFK : F + K ≤ n := by omega
  have hKH : K ≤ H' := by omega
  have hri : ρ < n := by omega
  have hrn : decide (ρ < 0) = false := by simp; omega
  have hrj : ¬ (n : Int) ≤ ρ := by omega
  have HB0 := Lib.hid hb0
  have H1 := Lib.hid h1
  have H2 := Lib.hid h2
  have HW0 := Lib.hid hW0
  have HN := Lib.hid hn
  have HK := Lib.hid hK
  have HGET := Lib.hid hget
  obtain ⟨e0, e1, e2⟩ := blk3 h1
  have HM0 := Lib.hid (Blk.new W0 29 (rgC 0 0 none 0))
  have hws : W0.heap.size = w.heap.size + 2 := by rw [hW0]; simp
  have HWS := Lib.hid hws
  clear hz hi0 hz0 hz1 hz2 h hlat hq hb0 h1 h2 hW0 hn hF hkp hM hK hKe hFe hget hws
  go_enter Tryz.func28, Tryz.ntmps28
  go_upto_region 1 with fail
  rw [← HW0.out]
  go_wp2_with (first
    | (go_at_call 46; refine (rsize_any W' H' _).mono ?_; rintro e w' ⟨rfl, rfl⟩; rw [HZ.out])
    | ((with_reducible refine at_store 11 ?_); refine wpList_store_blk rfl _ _ _ rfl rfl W0.heap.size 0 _ (rgC 0 0 none 0) [.int .i64 W', .int .i64 H', .slice none 0 0] rfl rfl HM0.out (by simp [rgC]) rg_size (by intro v hv; simp at hv; rcases hv with rfl | rfl | rfl <;> rfl) ?_; intro w2 hn2 hg2; have HM2 := Lib.hid (show Blk w2 W0.heap.size 29 [.int .i64 W', .int .i64 H', .slice none 0 0] from hn2); have hb2 : Below W0.heap.size W0 w2 := ((Below.refl _ _).alloc (Nat.le_refl _) _).grown hg2 (by simp) (fun j hj => by injection hj with hj; omega); have HX2 := Lib.hid (H1.out.below hb2 H1.out.lt); have HY2 := Lib.hid (H2.out.below hb2 H2.out.lt); have HB2 := Lib.hid (HB0.out.trans (hb2.mono HB0.out.size)); obtain ⟨g0, g1, g2⟩ := blk3 HX2.out; clear hn2 hg2 hb2))
  clear hlst hmx hm1 hm2 g0 g1 g2 e0 e1 e2
  go_loopw [14] (fun v14 wr => ∃ (k : Nat) (A1 : Option Addr) (c1 : Nat) (us : List Value), v14 = .int .i64 ((F : Int) + (k : Int)) ∧ k ≤ K ∧ Bld wr W0.heap.size (W0.heap.size + 1) W' H' A1 c1 k us ((kept.take k).map (fitM · W')) ∧ Blk wr w.heap.size 29 (rgC W n (some ⟨b, off, none⟩) c) ∧ Blk wr (w.heap.size + 1) 29 (rgC 0 0 none 0) ∧ Below w.heap.size w wr) (fun v14 _ => F + K - (intOf v14).toNat)
  case atStart => exact ⟨0, none, 0, [], by simp, by omega, ⟨HM2.out, World.ownsRow_nil _ _ _ _, .nil, fun _ => rfl⟩, HX2.out, HY2.out, HB2.out⟩
  case round =>
    obtain ⟨k, A1, c1, us, rfl, hk, hbd, hx, hy, hbr⟩ := hrel
    have HBD := Lib.hid hbd
    have HX := Lib.hid hx
    have HY := Lib.hid hy
    have HBR := Lib.hid hbr
    have e2 := hbd.e2
    obtain ⟨g0, g1, g2⟩ := blk3 hx
    clear hbd hx hy hbr HM2 HX2 HY2 HB2 HM0
    have hGw := HBD.out.box.lt
    by_cases hlt : k < K
    · have hki : (F : Int) + (k : Int) < ((F + K : Nat) : Int) := by omega
      have hki2 : (F : Int) + (k : Int) < (F : Int) + (K : Int) := by omega
      have hki3 : (F : Int) + (k : Int) < (n : Int) := by omega
      have hki4 : 0 ≤ (F : Int) + (k : Int) := by omega
      have hkt : ((F : Int) + (k : Int)).toNat = F + k := by omega
      have hlj : L[F + k]? = some (L[F + k]'(by have := HN.out; omega)) := List.getElem?_eq_getElem _
      have hkp : kept.take (k + 1) = kept.take k ++ [L[F + k]'(by have := HN.out; omega)] := by
        have h1 := HGET.out k hlt
        rw [hlj] at h1
        rw [List.take_add_one, h1]
        rfl
      generalize L[F + k]'(by have := HN.out; omega) = l at hlj hkp
      have hll := (HQ.out.wd _ _ hlj).1
      obtain ⟨Ai, ci, hlat⟩ := HLAT.out _ _ hlj
      have hrl := hlat _ (HBR.out.trans ((Below.refl _ _).drew))
      have hcr : wr.cell? ⟨b, off + (F + k), none⟩ = some (.slice Ai l.length ci) := (hlat _ HBR.out).1
      have hfit := rfit_any (w := wr.drew) hrl.2 W' a1 a2 (by omega) (by omega)
      have HFIT := Lib.hid hfit
      have HKP := Lib.hid hkp
      have HLA2 := Lib.hid hlat
      clear hlj hkp hll hlat hrl hfit
      go_upto_region 11 with fail
      go_region_law (first
        | (refine step_call rfl 58 _ _ rfl enters_rfit #[.slice Ai l.length ci, .int .i64 W'] (by simp [Act.eval, Act.put]) HFIT.out ?_; rintro e w3 ⟨v3, rfl, hr3, hb3⟩; obtain ⟨A3, c3, rfl⟩ := hr3.len; rw [fitM_length] at hr3 ⊢; refine ⟨_, rfl, ?_⟩; have HR3 := Lib.hid hr3; have HB3 := Lib.hid ((Below.refl _ _).drew.trans hb3); have HD3 := Lib.hid (HBD.out.below HB3.out); have f2 := HD3.out.e2; have f3 : (w3.alloc (.cells #[.slice A3 W' c3] 94)).cell? ⟨W0.heap.size, 2, none⟩ = some (.slice A1 k c1) := (HD3.out.box.alloc _).cell 2; clear hr3 hb3)
        | (refine step_append_lies _ rfl (.tmp 57) (.tmp 67) _ rfl (W0.heap.size + 1) 94 i0 _ 1 24 Tryz.underlying27 HI0.out HZ0.out HZ1.out HZ2.out rfl (by omega) (.slice A1 k c1) k us (by simp [Act.eval, Act.put]) (HD3.out.own.alloc _) ⟨w3.heap.size, 0, none⟩ 1 1 [.slice A3 W' c3] (by simp [Act.eval, Act.put]) rfl (World.news_of_block (cs := #[.slice A3 W' c3]) (t := 94) (fr := (0, 0)) (heap_alloc_new w3 _)) (fun v hv => by simp at hv; subst hv; rfl) (by omega) (by simp only [maxLen]; omega) (by omega) (by have := HB3.out.size; simp; omega) (w3.heap.size + 1) (by simp) ?_; intro g cap w5 ho hg hat hgl; have hstep := HBD.out.step (by omega) (by omega) HB3.out HR3.out ho hg hat; have HST := Lib.hid hstep; have hbx := (HD3.out.box.alloc (.cells #[.slice A3 W' c3] 94)).chg (chg_of_own hg) (fun e => by have := (HD3.out.own.lt _ e).1; omega); have z2 := hbx.cell 2; have zf2 := hbx.frozen 2; clear ho hg hat hbx hstep))
      all_goals
        go_wp2
        go_roundw
        case rel =>
          first
            | exact ⟨k + 1, _, cap, us ++ [.slice A3 W' c3], by go_num, by omega, by have := HST.out.1; rw [HKP.out, List.map_append]; exact this, HX.out.below HST.out.2 (by have := HWS.out; omega), HY.out.below HST.out.2 (by have := HWS.out; omega), HBR.out.trans (HST.out.2.mono (by have := HWS.out; omega))⟩
            | ((repeat apply Exists.intro); exact ⟨⟨k + 1, _, cap, us ++ [.slice A3 W' c3], by go_num, by omega, by have := HST.out.1; rw [HKP.out, List.map_append]; exact this, HX.out.below HST.out.2 (by have := HWS.out; omega), HY.out.below HST.out.2 (by have := HWS.out; omega), HBR.out.trans (HST.out.2.mono (by have := HWS.out; omega))⟩, rfl⟩)
        case measure => simp [intOf]; omega
    · have hki : ¬ (F : Int) + (k : Int) < (F : Int) + (K : Int) := by omega
      have hkK : k = K := by omega
      have hbd0 : Bld wr W0.heap.size (W0.heap.size + 1) W' H' A1 c1 k us (kept.map (fitM · W') ++ List.replicate (k - K) (List.replicate W' bl)) := by
        have h1 := HBD.out
        rw [hkK] at h1 ⊢
        rw [List.take_of_length_le (by have := HK.out; omega)] at h1
        rw [Nat.sub_self, List.replicate_zero, List.append_nil]
        exact h1
      have HBD0 := Lib.hid hbd0
      have hKk : K ≤ k := by omega
      clear hbd0 hkK g0 g1 g2 e2 HBD
      go_wp2_with (fail)
      go_loopw [72] (fun v72 wx => ∃ (q : Nat) (A2 : Option Addr) (c2 : Nat) (us2 : List Value), K ≤ q ∧ q ≤ H' ∧ wx.cell? ⟨W0.heap.size, 2, none⟩ = some (.slice A2 q c2) ∧ Bld wx W0.heap.size (W0.heap.size + 1) W' H' A2 c2 q us2 (kept.map (fitM · W') ++ List.replicate (q - K) (List.replicate W' bl)) ∧ Blk wx (w.heap.size + 1) 29 (rgC 0 0 none 0) ∧ Below w.heap.size w wx) (fun _ wx => H' - lenOf ((wx.cell? ⟨W0.heap.size, 2, none⟩).getD undef))
      case atStart => exact ⟨k, A1, c1, us, hKk, by omega, HBD0.out.e2, HBD0.out, HY.out, HBR.out⟩
      case round =>
        obtain ⟨q, A2, c2, us2, hq1, hq2, hc2, hbd, hy, hbx⟩ := hrel
        have HBD2 := Lib.hid hbd
        have HY2 := Lib.hid hy
        have HBX := Lib.hid hbx
        have HC2 := Lib.hid hc2
        have e2 := hc2
        have hGw := hbd.box.lt
        clear hbd hy hbx hc2 HBD0 HBR HX HY
        by_cases hlt : q < H'
        · have hqi : (q : Int) < H' := by omega
          go_upto_region 13 with fail
          go_region_law (first
            | (refine step_call rfl 47 _ _ rfl enters_rblanks #[.int .i64 W'] (by simp [Act.eval, Act.put]) (rblanks_any W' (by omega) _) ?_; rintro e w3 ⟨v3, rfl, hr3, hb3⟩; refine ⟨_, rfl, ?_⟩; have HR3 := Lib.hid hr3; have HB3 := Lib.hid ((Below.refl _ _).drew.trans hb3); have hv1 : v3.oneCell' = true := hr3.one; have HV1 := Lib.hid hv1; have HD3 := Lib.hid (HBD2.out.below HB3.out); have f2 := HD3.out.e2; have f3 : (w3.alloc (.cells #[v3] 94)).cell? ⟨W0.heap.size, 2, none⟩ = some (.slice A2 q c2) := (HD3.out.box.alloc _).cell 2; clear hr3 hb3 hv1)
            | (refine step_append_lies _ rfl (.tmp 76) (.tmp 79) _ rfl (W0.heap.size + 1) 94 i0 _ 1 24 Tryz.underlying27 HI0.out HZ0.out HZ1.out HZ2.out rfl (by omega) (.slice A2 q c2) q us2 (by simp [Act.eval, Act.put]) (HD3.out.own.alloc _) ⟨w3.heap.size, 0, none⟩ 1 1 [v3] (by simp [Act.eval, Act.put]) rfl (World.news_of_block (cs := #[v3]) (t := 94) (fr := (0, 0)) (heap_alloc_new w3 _)) (fun v hv => by simp at hv; subst hv; exact HV1.out) (by omega) (by simp only [maxLen]; omega) (by omega) (by have := HB3.out.size; simp; omega) (w3.heap.size + 1) (by simp) ?_; intro g cap w5 ho hg hat hgl; have hstep := HBD2.out.step (by omega) (by omega) HB3.out HR3.out ho hg hat; have HST := Lib.hid hstep; have hbx := (HD3.out.box.alloc (.cells #[v3] 94)).chg (chg_of_own hg) (fun e => by have := (HD3.out.own.lt _ e).1; omega); have z2 := hbx.cell 2; have zf2 := hbx.frozen 2; clear ho hg hat hbx hstep))
          all_goals
            go_wp2
            go_roundw
            case rel =>
              first
                | exact ⟨q + 1, _, cap, us2 ++ [v3], by omega, by omega, HST.out.1.e2, by have := HST.out.1; rw [List.append_assoc, ← List.replicate_succ', show q - K + 1 = q + 1 - K by omega] at this; exact this, HY2.out.below HST.out.2 (by have := HWS.out; omega), HBX.out.trans (HST.out.2.mono (by have := HWS.out; omega))⟩
                | ((repeat apply Exists.intro); exact ⟨⟨q + 1, _, cap, us2 ++ [v3], by omega, by omega, HST.out.1.e2, by have := HST.out.1; rw [List.append_assoc, ← List.replicate_succ', show q - K + 1 = q + 1 - K by omega] at this; exact this, HY2.out.below HST.out.2 (by have := HWS.out; omega), HBX.out.trans (HST.out.2.mono (by have := HWS.out; omega))⟩, rfl⟩)
            case measure =>
              have h1 := HC2.out
              have h2 := HST.out.1.e2
              show H' - lenOf _ < H' - lenOf _
              rw [h1, h2]
              simp [lenOf]
              omega
        · have hqi : ¬ (q : Int) < H' := by omega
          obtain rfl : q = H' := by omega
          obtain ⟨y0, y1, y2⟩ := blk3 (show Blk wr W0.heap.size 29 (rgC W' q A2 c2) from HBD2.out.box)
          go_wp2_with ((with_reducible refine at_store 8 ?_); refine wpList_store_blk rfl _ _ _ rfl rfl (w.heap.size + 1) 0 _ (rgC 0 0 none 0) (rgC W' q A2 c2) rfl rfl HY2.out (by simp [rgC]) rg_size (rgC_one _ _ _ _) ?_; intro w6 hn6 hg6; have hn6' : Blk w6 (w.heap.size + 1) 29 (rgC W' q A2 c2) := hn6)
          have hv := HBD2.out.fin rfl (by simp; have := HK.out; omega)
          refine bodyPost_ret (results_ctt rfl rfl rfl rfl hn6'.whole Tryz.underlying29 rfl rg_size) rfl ⟨_, rfl, (hv.chg (chg_of_grown hg6) (fun z _ h e => by have e' : z = w.heap.size + 1 := e; have h' : W0.heap.size + 1 ≤ z := h; have := HWS.out; omega)).mono (fun z _ h => .inr (by have h' : W0.heap.size + 1 ≤ z := h; have := HWS.out; omega)), HBX.out.grown hg6 HBX.out.size (fun j hj => by injection hj with hj; omega)⟩

theorem rresize_any {w : World} {D : Nat → Prop} {A : Option Addr} {c W : Nat} {L : List (List Cl)} (h : RfAt w D A c L) (hq : Rws W L) (a b row : Int) :
    Calls Tryz.prog 28 #[.agg #[.int .i64 W, .int .i64 L.length, .slice A L.length c], .int .i64 a, .int .i64 b, .int .i64 row] w fun e w' => ∃ V, e = .returned (.tuple #[V, .int .i64 (rszM W L a b row).2.2.1, .int .i64 (rszM W L a b row).2.2.2]) ∧ RfV w' (fun b => D b ∨ w.heap.size ≤ b) V (rszM W L a b row).2.1 (rszM W L a b row).1 ∧ Below w.heap.size w w' := by
  unfold rszM
  by_cases h1 : sideB a = false ∨ sideB b = false
  · rw [if_pos h1]
    exact (rresize_no (W := W) (n := L.length) (A := A) (c := c) a b row 40 (.inl ⟨h1, rfl⟩)).mono fun e w' ⟨he, hb⟩ => ⟨_, he, (h.v.mono (fun b _ h => .inl h)).below hb, hb⟩
  · rw [if_neg h1]
    have ha : sideB a = true := by simpa using fun e => h1 (.inl e)
    have hb : sideB b = true := by simpa using fun e => h1 (.inr e)
    by_cases h2 : inB row 0 W L.length = false
    · rw [if_pos h2]
      have hr : row < 0 ∨ (L.length : Int) ≤ row := by
        have := hq.w1
        simp [inB] at h2
        omega
      exact (rresize_no (W := W) (n := L.length) (A := A) (c := c) a b row 5 (.inr ⟨ha, hb, hr, rfl⟩)).mono fun e w' ⟨he, hb⟩ => ⟨_, he, (h.v.mono (fun b _ h => .inl h)).below hb, hb⟩
    · rw [if_neg h2]
      have a' : inB row 0 W L.length = true := by simpa using h2
      obtain ⟨r0, r1⟩ : 0 ≤ row ∧ row < L.length := by simp [inB] at a'; omega
      obtain ⟨A1, A2⟩ : 1 ≤ a ∧ a ≤ 500 := by simpa [sideB] using ha
      obtain ⟨B1, B2⟩ : 1 ≤ b ∧ b ≤ 500 := by simpa [sideB] using hb
      obtain ⟨r, rfl⟩ := Int.eq_ofNat_of_zero_le r0
      obtain ⟨x, rfl⟩ := Int.eq_ofNat_of_zero_le (show 0 ≤ a by omega)
      obtain ⟨y, rfl⟩ := Int.eq_ofNat_of_zero_le (show 0 ≤ b by omega)
      exact rresize_ok h hq x y r (by omega) (by omega) (by omega) (by omega) (by omega)
end Go.Proofs.YtfmkeeaenjeneaaGreatDoor

namespace Go.Proofs.YtfmkeeaenjeneaaGreatDoor
open Go.RowKit
set_option linter.unusedVariables false
set_option linter.unusedSimpArgs false

set_option maxRecDepth 100000 in
set_option maxHeartbeats 4000000 in
theorem rjoin_no {w : World} {W n : Nat} {A : Option Addr} {c : Nat} (row col : Int) (s : ByteArray) (hbad : inB row col W n = false) :
    Calls Tryz.prog 86 #[.agg #[.int .i64 W, .int .i64 n, .slice A n c], .int .i64 row, .int .i64 col, .string s] w fun e w' => e = .returned (.tuple #[.agg (rgC W n A c).toArray, .bool false, .int .i64 5]) ∧ Below w.heap.size w w' := by
  obtain ⟨hb0, h1, h2⟩ := erW0_is w W n A c
  have hW0 : erW0 w W n A c = (w.alloc (.cells #[.int .i64 W, .int .i64 n, .slice A n c] 29)).alloc (.cells #[.int .i64 0, .int .i64 0, .slice none 0 0] 29) := rfl
  generalize erW0 w W n A c = W0 at hb0 h1 h2 hW0
  have HB0 := Lib.hid hb0
  have H1 := Lib.hid h1
  have H2 := Lib.hid h2
  have HIN := Lib.hid hbad
  clear hb0 h1 h2 hbad
  go_enter Tryz.func86, Tryz.ntmps86
  go_wp2_with (fail)
  rw [← hW0]
  clear hW0
  refine (rthere_any W n A n c row col W0).mono ?_
  rintro e w1 ⟨rfl, hb1⟩
  rw [HIN.out]
  obtain ⟨f0, f1, f2⟩ := blk3 (H1.out.below hb1 H1.out.lt)
  have H2' := Lib.hid (H2.out.below hb1 H2.out.lt)
  have HB1 := Lib.hid (HB0.out.trans (hb1.mono HB0.out.size))
  clear hb1
  go_wp2_with ((with_reducible refine at_store 8 ?_); refine wpList_store_blk rfl _ _ _ rfl rfl (w.heap.size + 1) 0 _ (rgC 0 0 none 0) (rgC W n A c) rfl rfl H2'.out (by simp [rgC]) rg_size (rgC_one _ _ _ _) ?_; intro w2 hn2 hg2; have hn2' : Blk w2 (w.heap.size + 1) 29 (rgC W n A c) := hn2)
  exact bodyPost_ret (results_ctt rfl rfl rfl rfl hn2'.whole Tryz.underlying29 rfl rg_size) rfl ⟨rfl, HB1.out.grown hg2 HB1.out.size (fun j hj => by injection hj with hj; omega)⟩

set_option maxRecDepth 100000 in
set_option maxHeartbeats 16000000 in
theorem rjoin_ok {w : World} {D : Nat → Prop} {A : Option Addr} {c W : Nat} {L : List (List Cl)} (h : RfAt w D A c L) (hq : Rws W L) (row col : Nat) (s : List UInt8) (hs : s.length ≤ 1000000) (l : List Cl) (hl : L[row]? = some l) (hc : col < W) :
    Calls Tryz.prog 86 #[.agg #[.int .i64 W, .int .i64 L.length, .slice A L.length c], .int .i64 row, .int .i64 col, .string ⟨s.toArray⟩] w fun e w' => ∃ V, e = .returned (.tuple #[V, .bool (joinR l col s).2, .int .i64 0]) ∧ RfV w' (fun b => D b ∨ w.heap.size ≤ b) V W (L.set row (joinR l col s).1) ∧ Below w.heap.size w w' := by
  have hr : row < L.length := (List.getElem?_eq_some_iff.1 hl).1
  have hri : (row : Int) < L.length := by omega
  obtain ⟨hlen, hwf⟩ := hq.wd row l hl
  have hw5 := hq.w5
  have hh5 := hq.h5
  have hin1 : inB row col W L.length = true := by unfold inB; simp; omega
  obtain ⟨x, hkc, hcw⟩ := joinK_get hwf (col := col) (by omega)
  have hJ : joinR l col s = if 64 < x.s.length + s.length then (l, false) else (l.set (joinK l col) { x with s := x.s ++ s }, true) := by unfold joinR; rw [hkc]
  have hcol : l[col]? = some (l[col]'(by omega)) := List.getElem?_eq_getElem (by omega)
  have hK : joinK l col = if (l[col]'(by omega)).w = 0 then col - 1 else col := by unfold joinK; rw [hcol]
  have htail := fun h0 => hwf.tail col _ hcol h0
  generalize l[col]'(by omega) = d at hcol hK htail
  have hc64 := hwf.short _ _ hkc
  obtain ⟨kk, hkk⟩ : ∃ kk, joinK l col = kk := ⟨_, rfl⟩
  rw [hkk] at hJ hK hkc
  have hkl : kk < W := by have := (List.getElem?_eq_some_iff.1 hkc).1; omega
  have hcase : (d.w = 0 ∧ col = kk + 1) ∨ (d.w ≠ 0 ∧ col = kk) := by
    by_cases h0 : d.w = 0
    · obtain ⟨j, e, hj, _, _⟩ := htail h0
      rw [if_pos h0] at hK
      exact .inl ⟨h0, by omega⟩
    · rw [if_neg h0] at hK
      exact .inr ⟨h0, by omega⟩
  have hset0 : L.set row l = L := by
    rw [List.getElem?_eq_getElem hr] at hl
    injection hl with hl
    rw [← hl]
    exact List.set_getElem_self hr
  obtain ⟨hb0, h1, h2⟩ := erW0_is w W L.length A c
  have hW0 : erW0 w W L.length A c = (w.alloc (.cells #[.int .i64 W, .int .i64 L.length, .slice A L.length c] 29)).alloc (.cells #[.int .i64 0, .int .i64 0, .slice none 0 0] 29) := rfl
  generalize erW0 w W L.length A c = W0 at hb0 h1 h2 hW0
  have hd1 := h.mono (D' := fun b => (D b ∧ b < w.heap.size) ∨ w.heap.size + 2 ≤ b) (fun b hb h => .inl ⟨h, hb⟩)
  obtain ⟨b, off, Ai, ci, rfl, hlat⟩ := hd1.row_later hl
  have HLAT := Lib.hid hlat
  have HB0 := Lib.hid hb0
  have H1 := Lib.hid h1
  have H2 := Lib.hid h2
  have HW0 := Lib.hid hW0
  have HR := Lib.hid hd1
  have HLEN := Lib.hid hlen
  have HIN := Lib.hid hin1
  have HKC := Lib.hid hkc
  have HKK : Hid (joinK l col = kk) := hkk
  have HCL := Lib.hid hcol
  have HSET0 := Lib.hid hset0
  obtain ⟨R, hRJ⟩ : ∃ R, joinR l col s = R := ⟨_, rfl⟩
  rw [hRJ] at hJ ⊢
  have HJ := Lib.hid hJ
  obtain ⟨n, hn⟩ : ∃ n, n = L.length := ⟨_, rfl⟩
  have HN := Lib.hid hn
  have hcl : col < l.length := by omega
  have hkl2 : kk < l.length := by omega
  have hl5 : l.length ≤ 500 := by omega
  rw [← hn] at hr hri hh5 H1 HW0 HIN ⊢
  have pre : ∀ w1, Below W0.heap.size W0 w1 → Blk w1 w.heap.size 29 (rgC W n (some ⟨b, off, none⟩) c) ∧ Blk w1 (w.heap.size + 1) 29 (rgC 0 0 none 0) ∧ Below w.heap.size w w1 := fun w1 hb => by
    refine ⟨?_, H2.out.below hb H2.out.lt, HB0.out.trans (hb.mono HB0.out.size)⟩
    exact H1.out.below hb H1.out.lt
  have PRE := Lib.hid pre
  have HWS := Lib.hid H2.out.lt
  clear hb0 h1 h2 hW0 h hl hlat hn hq hlen hwf hin1 hkc hJ hcol hK htail hkk hset0 hd1 pre H1 H2 HB0 hcw hRJ
  -- to the row's cells, behind There
  have rowc : ∀ w1, Below W0.heap.size W0 w1 → ∃ bi oi, w1.cell? ⟨b, off + row, none⟩ = some (.slice (some ⟨bi, oi, none⟩) l.length ci) ∧ w1.cell? ⟨bi, oi + col * 7 + 1, none⟩ = some (.int .i64 d.w) ∧ w1.rangeAt bi (oi + kk * 7) x.cells ∧ RowD w1 (fun b => (D b ∧ b < w.heap.size) ∨ w.heap.size + 2 ≤ b) (.slice (some ⟨bi, oi, none⟩) l.length ci) l := fun w1 hb1 => by
    obtain ⟨hcr, hrow⟩ := HLAT.out w1 (PRE.out w1 hb1).2.2
    have hrow' := hrow
    obtain ⟨A1, c1, e3, hnil, hs⟩ := hrow'
    injection e3 with e3 e4 e5
    subst e3 e5
    obtain ⟨bi, oi, rfl, hbi, _, hcx⟩ := hs.open_ (by rw [rc_length]; omega)
    refine ⟨bi, oi, hcr, ?_, fun j v hv => ?_, hrow⟩
    · rw [Nat.add_assoc]; exact hcx _ _ (rc_get HCL.out (j := 1) rfl)
    · rw [Nat.add_assoc]; exact hcx _ v (rc_get HKC.out hv)
  have ROWC := Lib.hid rowc
  clear rowc HLAT HCL
  rcases hcase with ⟨h0, hcc⟩ | ⟨h0, hcc⟩
  · have e0' : (d.w == 0) = true := by simp [h0]
    have hpos : 0 < (col : Int) := by omega
    have hjj : (col : Int) - 1 = (kk : Int) := by omega
    have hkki : (kk : Int) < l.length := by omega
    have hcli : (col : Int) < l.length := by omega
    clear h0 hcc
    go_enter Tryz.func86, Tryz.ntmps86
    go_wp2_with (fail)
    rw [← HW0.out]
    refine (rthere_any W n _ n c row col W0).mono ?_
    rintro e w1 ⟨rfl, hb1⟩
    rw [HIN.out]
    obtain ⟨h1, h2, hbw⟩ := PRE.out w1 hb1
    obtain ⟨f0, f1, f2⟩ := blk3 h1
    obtain ⟨bi, oi, hcr, hcd, hrx, hrow⟩ := ROWC.out w1 hb1
    have HRX := Lib.hid hrx
    have HROW := Lib.hid hrow
    have HB1 := Lib.hid hb1
    have HN1 := Lib.hid (Blk.new w1 83 czero.cells)
    clear h1 h2 hbw hrx hrow hb1
    have hszs : (⟨s.toArray⟩ : ByteArray).size = s.length := by show s.toArray.size = _; simp
    have hszx : (⟨x.s.toArray⟩ : ByteArray).size = x.s.length := by show x.s.toArray.size = _; simp
    have HSZS := Lib.hid hszs
    have HSZX := Lib.hid hszx
    clear hszs hszx
    by_cases h64 : 64 < x.s.length + s.length
    · have hJ := HJ.out
      rw [if_pos h64] at hJ
      have HR1 := Lib.hid hJ
      have h64i : (64 : Int) < (x.s.length : Int) + (s.length : Int) := by omega
      clear hJ h64
      by_cases hs64 : 64 < s.length
      all_goals
        first
          | (have hd64 : decide (64 < (s.length : Int)) = true := (by simp; omega); clear hs64)
          | (have hd64 : decide (64 < (s.length : Int)) = false := (by simp; omega); clear hs64)
        go_wp2_with (first
          | ((with_reducible refine at_dst 40 ?_); refine wpList_load_mid rfl _ _ rfl bi (oi + kk * 7) rfl x.cells _ HRX.out Tryz.underlying83 rfl cl_size ?_)
          | ((with_reducible refine at_store 12 ?_); refine wpList_store_blk rfl _ _ _ rfl rfl w1.heap.size 0 _ czero.cells x.cells rfl rfl HN1.out (by simp [Cl.len]) cl_size x.one ?_; intro w2 hn2 hg2; have hn2' : Blk w2 w1.heap.size 83 x.cells := hn2; have q0 : w2.cell? ⟨w1.heap.size, 0, none⟩ = some (.string ⟨x.s.toArray⟩) := hn2'.cell 0; have hb2 : Below w1.heap.size w1 w2 := ((Below.refl _ _).alloc (Nat.le_refl _) _).grown hg2 (by simp) (fun j hj => by injection hj with hj; omega); have HB2 := Lib.hid (HB1.out.trans (hb2.mono HB1.out.size)); obtain ⟨k1, k2, hbw2⟩ := PRE.out w2 HB2.out; obtain ⟨g0, g1, g2⟩ := blk3 k1; have H22 := Lib.hid k2; have HBW2 := Lib.hid hbw2; clear hn2 hn2' hg2 hb2 k1 k2 hbw2)
          | ((with_reducible refine at_store 8 ?_); refine wpList_store_blk rfl _ _ _ rfl rfl (w.heap.size + 1) 0 _ (rgC 0 0 none 0) (rgC W n (some ⟨b, off, none⟩) c) rfl rfl H22.out (by simp [rgC]) rg_size (rgC_one _ _ _ _) ?_; intro w6 hn6 hg6; have hn6' : Blk w6 (w.heap.size + 1) 29 (rgC W n (some ⟨b, off, none⟩) c) := hn6))
        have hv := (HR.out.below HBW2.out).v (W := W)
        rw [← HN.out] at hv
        obtain rfl := HR1.out
        rw [HSET0.out]
        exact bodyPost_ret (results_ctt rfl rfl rfl rfl hn6'.whole Tryz.underlying29 rfl rg_size) rfl ⟨_, rfl, grid_fin1 HBW2.out hv (chg_of_grown hg6)⟩
    · have hJ := HJ.out
      rw [if_neg h64] at hJ
      have HR1 := Lib.hid hJ
      have hd64 : decide (64 < (s.length : Int)) = false := by simp; omega
      have h64i : ¬ (64 : Int) < (x.s.length : Int) + (s.length : Int) := by omega
      have hst : ∀ w, (Op.stringOp .add ⟨x.s.toArray⟩ ⟨s.toArray⟩).run Tryz.prog w = .ok (.string ⟨(x.s ++ s).toArray⟩) w := fun w => by
        rw [run_string_add_sum w _ _ (by have := HSZS.out; have := HSZX.out; omega)]
        have : (⟨x.s.toArray⟩ : ByteArray) ++ ⟨s.toArray⟩ = ⟨(x.s ++ s).toArray⟩ := by apply ByteArray.ext; simp [ByteArray.data_append]
        rw [this]
      clear hJ h64
      go_upto_region 10 with (first
        | ((with_reducible refine at_dst 40 ?_); refine wpList_load_mid rfl _ _ rfl bi (oi + kk * 7) rfl x.cells _ HRX.out Tryz.underlying83 rfl cl_size ?_)
        | ((with_reducible refine at_store 12 ?_); refine wpList_store_blk rfl _ _ _ rfl rfl w1.heap.size 0 _ czero.cells x.cells rfl rfl HN1.out (by simp [Cl.len]) cl_size x.one ?_; intro w2 hn2 hg2; have hn2' : Blk w2 w1.heap.size 83 x.cells := hn2; have q0 : w2.cell? ⟨w1.heap.size, 0, none⟩ = some (.string ⟨x.s.toArray⟩) := hn2'.cell 0; have hb2 : Below w1.heap.size w1 w2 := ((Below.refl _ _).alloc (Nat.le_refl _) _).grown hg2 (by simp) (fun j hj => by injection hj with hj; omega); have HB2 := Lib.hid (HB1.out.trans (hb2.mono HB1.out.size)); have HX2 := Lib.hid hn2'; have HBX2 := Lib.hid hb2; clear hn2 hn2' hg2 hb2)
        | ((with_reducible refine at_store 58 ?_); refine wpList_store_cell rfl _ _ _ rfl rfl w1.heap.size 0 _ x.cells (.string ⟨(x.s ++ s).toArray⟩) rfl rfl HX2.out (by simp [Cl.len]) (by kernel_rfl) rfl ?_; intro w3 hn3 hg3; have hn3' : Blk w3 w1.heap.size 83 (Cl.cells { x with s := x.s ++ s }) := hn3; have hb3 : Below W0.heap.size w2 w3 := (Below.refl _ _).grown hg3 HB2.out.size (fun j hj => by injection hj with hj; have := HB1.out.size; omega); have HB3 := Lib.hid (HB2.out.trans hb3); have HX3 := Lib.hid hn3'; have HBX3 := Lib.hid (HBX2.out.grown hg3 HBX2.out.size (fun j hj => by injection hj with hj; omega)); clear hn3 hn3' hg3 hb3 q0))
      obtain ⟨y0, y1, y2, y3, y4, y5, y6⟩ := blk7 HX3.out
      obtain ⟨k1, k2, hbw3⟩ := PRE.out w3 HB3.out
      obtain ⟨g0, g1, g2⟩ := blk3 k1
      have H23 := Lib.hid k2
      have HBW3 := Lib.hid hbw3
      have hrow3 : RowD w3 (fun b => (D b ∧ b < w.heap.size) ∨ w.heap.size + 2 ≤ b) (.slice (some ⟨bi, oi, none⟩) l.length ci) l := HROW.out.below HBX3.out
      have hset := rset_any (w := w3.drew) (hrow3.below (Below.refl _ _).drew) kk { x with s := x.s ++ s } hkl2 (by omega)
      have HSET := Lib.hid hset
      clear k1 k2 hbw3 hset hrow3 f0 f1 f2 hcr hcd
      go_region_law (first
        | (refine step_call rfl 126 _ _ rfl enters_rset #[.slice (some ⟨bi, oi, none⟩) l.length ci, .int .i64 kk, .agg #[.string ⟨(x.s ++ s).toArray⟩, .int .i64 x.w, .bool x.y.b, .bool x.y.u, .bool x.y.i, .int .i64 x.y.f, .int .i64 x.y.g]] (by simp [Act.eval, Act.put]) HSET.out ?_; rintro e w5 ⟨v5, rfl, hr5, hb5⟩; refine ⟨_, rfl, ?_⟩; have HR5 := Lib.hid hr5; have HB5 := Lib.hid (HB3.out.trans (((Below.refl _ _).drew.trans hb5).mono HB3.out.size)); obtain ⟨h1, h2, hb0⟩ := PRE.out w5 HB5.out; obtain ⟨x0, x1, x2⟩ := blk3 h1; have H35 := Lib.hid h2; have HBW5 := Lib.hid hb0; have hwith := rwith_any (W := W) (HR.out.below HBW5.out) row (by have := HN.out; omega) (by have := HN.out; omega) (HR5.out.mono (D' := fun b => (D b ∧ b < w.heap.size) ∨ w.heap.size + 2 ≤ b) (fun b _ h => .inr (by have := H23.out.lt; have : w3.heap.size ≤ b := h; omega))); rw [← HN.out] at hwith; have HWITH := Lib.hid hwith; clear h1 h2 hb0 hr5 hb5 hwith)
        | (refine step_call rfl 125 _ _ rfl enters_rwith #[.agg #[.int .i64 W, .int .i64 n, .slice (some ⟨b, off, none⟩) n c], .int .i64 row, v5] (by simp [Act.eval, Act.put]) HWITH.out ?_; rintro e w6 ⟨V, rfl, hv6, hb6⟩; refine ⟨_, rfl, ?_⟩; have HV6 := Lib.hid (hv6.mono (D' := fun b => (D b ∧ b < w.heap.size) ∨ w.heap.size + 2 ≤ b) (fun b _ h => h.elim id (fun h => .inr (by have := H35.out.lt; omega)))); obtain ⟨A6, c6, rfl, _⟩ := hv6; rw [List.length_set, ← HN.out] at HV6 ⊢; have HB6 := Lib.hid (HBW5.out.trans (hb6.mono HBW5.out.size)); have H36 := Lib.hid (H35.out.below hb6 H35.out.lt); obtain ⟨z0, z1, z2⟩ := blk3 H36.out; have zf0 := H36.out.frozen 0; have zf1 := H36.out.frozen 1; have zf2 := H36.out.frozen 2; clear hb6; simp only [rgC]))
      all_goals
        (try simp only [Act.put])
        go_simp
        go_wp2
        have hf := grid_set3 H36.out W n A6 c6
        obtain rfl := HR1.out
        exact bodyPost_ret (results_ctt rfl rfl rfl rfl hf.1.whole Tryz.underlying29 rfl rg_size) rfl ⟨_, rfl, grid_fin1 HB6.out HV6.out hf.2⟩
  · have e0' : (d.w == 0) = false := by simp [h0]
    obtain rfl : kk = col := hcc.symm
    have hkki : (kk : Int) < l.length := by omega
    clear h0 hcc
    go_enter Tryz.func86, Tryz.ntmps86
    go_wp2_with (fail)
    rw [← HW0.out]
    refine (rthere_any W n _ n c row kk W0).mono ?_
    rintro e w1 ⟨rfl, hb1⟩
    rw [HIN.out]
    obtain ⟨h1, h2, hbw⟩ := PRE.out w1 hb1
    obtain ⟨f0, f1, f2⟩ := blk3 h1
    obtain ⟨bi, oi, hcr, hcd, hrx, hrow⟩ := ROWC.out w1 hb1
    have HRX := Lib.hid hrx
    have HROW := Lib.hid hrow
    have HB1 := Lib.hid hb1
    have HN1 := Lib.hid (Blk.new w1 83 czero.cells)
    clear h1 h2 hbw hrx hrow hb1
    have hszs : (⟨s.toArray⟩ : ByteArray).size = s.length := by show s.toArray.size = _; simp
    have hszx : (⟨x.s.toArray⟩ : ByteArray).size = x.s.length := by show x.s.toArray.size = _; simp
    have HSZS := Lib.hid hszs
    have HSZX := Lib.hid hszx
    clear hszs hszx
    by_cases h64 : 64 < x.s.length + s.length
    · have hJ := HJ.out
      rw [if_pos h64] at hJ
      have HR1 := Lib.hid hJ
      have h64i : (64 : Int) < (x.s.length : Int) + (s.length : Int) := by omega
      clear hJ h64
      by_cases hs64 : 64 < s.length
      all_goals
        first
          | (have hd64 : decide (64 < (s.length : Int)) = true := (by simp; omega); clear hs64)
          | (have hd64 : decide (64 < (s.length : Int)) = false := (by simp; omega); clear hs64)
        go_wp2_with (first
          | ((with_reducible refine at_dst 40 ?_); refine wpList_load_mid rfl _ _ rfl bi (oi + kk * 7) rfl x.cells _ HRX.out Tryz.underlying83 rfl cl_size ?_)
          | ((with_reducible refine at_store 12 ?_); refine wpList_store_blk rfl _ _ _ rfl rfl w1.heap.size 0 _ czero.cells x.cells rfl rfl HN1.out (by simp [Cl.len]) cl_size x.one ?_; intro w2 hn2 hg2; have hn2' : Blk w2 w1.heap.size 83 x.cells := hn2; have q0 : w2.cell? ⟨w1.heap.size, 0, none⟩ = some (.string ⟨x.s.toArray⟩) := hn2'.cell 0; have hb2 : Below w1.heap.size w1 w2 := ((Below.refl _ _).alloc (Nat.le_refl _) _).grown hg2 (by simp) (fun j hj => by injection hj with hj; omega); have HB2 := Lib.hid (HB1.out.trans (hb2.mono HB1.out.size)); obtain ⟨k1, k2, hbw2⟩ := PRE.out w2 HB2.out; obtain ⟨g0, g1, g2⟩ := blk3 k1; have H22 := Lib.hid k2; have HBW2 := Lib.hid hbw2; clear hn2 hn2' hg2 hb2 k1 k2 hbw2)
          | ((with_reducible refine at_store 8 ?_); refine wpList_store_blk rfl _ _ _ rfl rfl (w.heap.size + 1) 0 _ (rgC 0 0 none 0) (rgC W n (some ⟨b, off, none⟩) c) rfl rfl H22.out (by simp [rgC]) rg_size (rgC_one _ _ _ _) ?_; intro w6 hn6 hg6; have hn6' : Blk w6 (w.heap.size + 1) 29 (rgC W n (some ⟨b, off, none⟩) c) := hn6))
        have hv := (HR.out.below HBW2.out).v (W := W)
        rw [← HN.out] at hv
        obtain rfl := HR1.out
        rw [HSET0.out]
        exact bodyPost_ret (results_ctt rfl rfl rfl rfl hn6'.whole Tryz.underlying29 rfl rg_size) rfl ⟨_, rfl, grid_fin1 HBW2.out hv (chg_of_grown hg6)⟩
    · have hJ := HJ.out
      rw [if_neg h64] at hJ
      have HR1 := Lib.hid hJ
      have hd64 : decide (64 < (s.length : Int)) = false := by simp; omega
      have h64i : ¬ (64 : Int) < (x.s.length : Int) + (s.length : Int) := by omega
      have hst : ∀ w, (Op.stringOp .add ⟨x.s.toArray⟩ ⟨s.toArray⟩).run Tryz.prog w = .ok (.string ⟨(x.s ++ s).toArray⟩) w := fun w => by
        rw [run_string_add_sum w _ _ (by have := HSZS.out; have := HSZX.out; omega)]
        have : (⟨x.s.toArray⟩ : ByteArray) ++ ⟨s.toArray⟩ = ⟨(x.s ++ s).toArray⟩ := by apply ByteArray.ext; simp [ByteArray.data_append]
        rw [this]
      clear hJ h64
      go_upto_region 10 with (first
        | ((with_reducible refine at_dst 40 ?_); refine wpList_load_mid rfl _ _ rfl bi (oi + kk * 7) rfl x.cells _ HRX.out Tryz.underlying83 rfl cl_size ?_)
        | ((with_reducible refine at_store 12 ?_); refine wpList_store_blk rfl _ _ _ rfl rfl w1.heap.size 0 _ czero.cells x.cells rfl rfl HN1.out (by simp [Cl.len]) cl_size x.one ?_; intro w2 hn2 hg2; have hn2' : Blk w2 w1.heap.size 83 x.cells := hn2; have q0 : w2.cell? ⟨w1.heap.size, 0, none⟩ = some (.string ⟨x.s.toArray⟩) := hn2'.cell 0; have hb2 : Below w1.heap.size w1 w2 := ((Below.refl _ _).alloc (Nat.le_refl _) _).grown hg2 (by simp) (fun j hj => by injection hj with hj; omega); have HB2 := Lib.hid (HB1.out.trans (hb2.mono HB1.out.size)); have HX2 := Lib.hid hn2'; have HBX2 := Lib.hid hb2; clear hn2 hn2' hg2 hb2)
        | ((with_reducible refine at_store 58 ?_); refine wpList_store_cell rfl _ _ _ rfl rfl w1.heap.size 0 _ x.cells (.string ⟨(x.s ++ s).toArray⟩) rfl rfl HX2.out (by simp [Cl.len]) (by kernel_rfl) rfl ?_; intro w3 hn3 hg3; have hn3' : Blk w3 w1.heap.size 83 (Cl.cells { x with s := x.s ++ s }) := hn3; have hb3 : Below W0.heap.size w2 w3 := (Below.refl _ _).grown hg3 HB2.out.size (fun j hj => by injection hj with hj; have := HB1.out.size; omega); have HB3 := Lib.hid (HB2.out.trans hb3); have HX3 := Lib.hid hn3'; have HBX3 := Lib.hid (HBX2.out.grown hg3 HBX2.out.size (fun j hj => by injection hj with hj; omega)); clear hn3 hn3' hg3 hb3 q0))
      obtain ⟨y0, y1, y2, y3, y4, y5, y6⟩ := blk7 HX3.out
      obtain ⟨k1, k2, hbw3⟩ := PRE.out w3 HB3.out
      obtain ⟨g0, g1, g2⟩ := blk3 k1
      have H23 := Lib.hid k2
      have HBW3 := Lib.hid hbw3
      have hrow3 : RowD w3 (fun b => (D b ∧ b < w.heap.size) ∨ w.heap.size + 2 ≤ b) (.slice (some ⟨bi, oi, none⟩) l.length ci) l := HROW.out.below HBX3.out
      have hset := rset_any (w := w3.drew) (hrow3.below (Below.refl _ _).drew) kk { x with s := x.s ++ s } hkl2 (by omega)
      have HSET := Lib.hid hset
      clear k1 k2 hbw3 hset hrow3 f0 f1 f2 hcr hcd
      go_region_law (first
        | (refine step_call rfl 126 _ _ rfl enters_rset #[.slice (some ⟨bi, oi, none⟩) l.length ci, .int .i64 kk, .agg #[.string ⟨(x.s ++ s).toArray⟩, .int .i64 x.w, .bool x.y.b, .bool x.y.u, .bool x.y.i, .int .i64 x.y.f, .int .i64 x.y.g]] (by simp [Act.eval, Act.put]) HSET.out ?_; rintro e w5 ⟨v5, rfl, hr5, hb5⟩; refine ⟨_, rfl, ?_⟩; have HR5 := Lib.hid hr5; have HB5 := Lib.hid (HB3.out.trans (((Below.refl _ _).drew.trans hb5).mono HB3.out.size)); obtain ⟨h1, h2, hb0⟩ := PRE.out w5 HB5.out; obtain ⟨x0, x1, x2⟩ := blk3 h1; have H35 := Lib.hid h2; have HBW5 := Lib.hid hb0; have hwith := rwith_any (W := W) (HR.out.below HBW5.out) row (by have := HN.out; omega) (by have := HN.out; omega) (HR5.out.mono (D' := fun b => (D b ∧ b < w.heap.size) ∨ w.heap.size + 2 ≤ b) (fun b _ h => .inr (by have := H23.out.lt; have : w3.heap.size ≤ b := h; omega))); rw [← HN.out] at hwith; have HWITH := Lib.hid hwith; clear h1 h2 hb0 hr5 hb5 hwith)
        | (refine step_call rfl 125 _ _ rfl enters_rwith #[.agg #[.int .i64 W, .int .i64 n, .slice (some ⟨b, off, none⟩) n c], .int .i64 row, v5] (by simp [Act.eval, Act.put]) HWITH.out ?_; rintro e w6 ⟨V, rfl, hv6, hb6⟩; refine ⟨_, rfl, ?_⟩; have HV6 := Lib.hid (hv6.mono (D' := fun b => (D b ∧ b < w.heap.size) ∨ w.heap.size + 2 ≤ b) (fun b _ h => h.elim id (fun h => .inr (by have := H35.out.lt; omega)))); obtain ⟨A6, c6, rfl, _⟩ := hv6; rw [List.length_set, ← HN.out] at HV6 ⊢; have HB6 := Lib.hid (HBW5.out.trans (hb6.mono HBW5.out.size)); have H36 := Lib.hid (H35.out.below hb6 H35.out.lt); obtain ⟨z0, z1, z2⟩ := blk3 H36.out; have zf0 := H36.out.frozen 0; have zf1 := H36.out.frozen 1; have zf2 := H36.out.frozen 2; clear hb6; simp only [rgC]))
      all_goals
        (try simp only [Act.put])
        go_simp
        go_wp2
        have hf := grid_set3 H36.out W n A6 c6
        obtain rfl := HR1.out
        exact bodyPost_ret (results_ctt rfl rfl rfl rfl hf.1.whole Tryz.underlying29 rfl rg_size) rfl ⟨_, rfl, grid_fin1 HB6.out HV6.out hf.2⟩

theorem rjoin_any {w : World} {D : Nat → Prop} {A : Option Addr} {c W : Nat} {L : List (List Cl)} (h : RfAt w D A c L) (hq : Rws W L) (row col : Int) (s : List UInt8) (hs : s.length ≤ 1000000) :
    Calls Tryz.prog 86 #[.agg #[.int .i64 W, .int .i64 L.length, .slice A L.length c], .int .i64 row, .int .i64 col, .string ⟨s.toArray⟩] w fun e w' => ∃ V, e = .returned (.tuple #[V, .bool (joinM W L row col s).2.1, .int .i64 (joinM W L row col s).2.2]) ∧ RfV w' (fun b => D b ∨ w.heap.size ≤ b) V W (joinM W L row col s).1 ∧ Below w.heap.size w w' := by
  unfold joinM
  by_cases h1 : inB row col W L.length = false
  · rw [if_pos h1]
    exact (rjoin_no (W := W) (n := L.length) (A := A) (c := c) row col ⟨s.toArray⟩ h1).mono fun e w' ⟨he, hb⟩ => ⟨_, he, (h.v.mono (fun b _ h => .inl h)).below hb, hb⟩
  · rw [if_neg h1]
    have a' : inB row col W L.length = true := by simpa using h1
    obtain ⟨a0, a1, a2, a3⟩ : 0 ≤ row ∧ row < L.length ∧ 0 ≤ col ∧ col < W := by simpa [inB] using a'
    obtain ⟨r, rfl⟩ := Int.eq_ofNat_of_zero_le a0
    obtain ⟨k, rfl⟩ := Int.eq_ofNat_of_zero_le a2
    exact rjoin_ok h hq r k s hs _ (getD_some (by omega)) (by omega)
end Go.Proofs.YtfmkeeaenjeneaaGreatDoor

