/-
  The reference's grids as they lie in memory; what its operations do to rows, as plain lists.
  Rows of the call's own that are written in place: as blocks known whole.
  Walks: lines, and the iterator that it hands back.
  Walk: Same.
  Walk: Fork.
  Iterators that keep state of their own in cells and tell of what they have just made: the contract and the law of the range, as in IterP, what holds of an element speaking of the world.
  Iterators that keep state of their own in cells and hand out what they have just made: the contract and the law of the range, as in IterP; what holds of an element speaks of the world and of what the iterator counts to its own.
  Walks: Rows, and the iterator that it hands back.
-/
import Derived.Test.YtaijiapolippaaaDoorGfG
import Derived.RangeFuncNested
import Derived.RangeFuncBound
import Derived.RangeFuncCalls
import Derived.RangeFuncLeaves
import Derived.Shelf.Abstract
import Derived.Shelf.RegionOpen
import Derived.OwnWalkIn
import Derived.TacticsInMore
import Derived.LoopNIn
import Derived.LoopIn
import Derived.IntWalk
import Derived.Stop.RegionWithIn
import Derived.Test.YtaijiapolippaaaDoorGfA
import Derived.RangeFuncWrites
namespace Go.Proofs.YtaijiapolippaaaDoor
open Go.RowKit
set_option linter.unusedVariables false
set_option linter.unusedSimpArgs false

/-- What a slice shows, in a block of D. -/
def SlD (w : World) (D : Nat → Prop) (A : Option Addr) (xs : List Value) : Prop :=
  xs = [] ∨ ∃ b off, A = some ⟨b, off, none⟩ ∧ b < w.heap.size ∧ D b ∧ ∀ (j : Nat) u, xs[j]? = some u → w.cell? ⟨b, off + j, none⟩ = some u
namespace SlD
variable {w w' : World} {D D' : Nat → Prop} {A : Option Addr} {xs : List Value}
theorem empty : SlD w D A [] := .inl rfl
theorem sl (h : SlD w D A xs) : Sl w w.heap.size A xs := by
  rcases h with rfl | ⟨b, off, hA, hb, _, hc⟩
  · exact .inl rfl
  · exact .inr ⟨b, off, hA, hb, hc⟩
theorem chg {S : Nat → Prop} (h : SlD w D A xs) (hc : Chg S w w') (hn : ∀ b, b < w.heap.size → D b → ¬ S b) : SlD w' D A xs := by
  rcases h with rfl | ⟨b, off, hA, hb, hd, hx⟩
  · exact .inl rfl
  · exact .inr ⟨b, off, hA, Nat.lt_of_lt_of_le hb hc.size, hd, fun j u hu => hc.cell (p := ⟨b, off + j, none⟩) (hx j u hu) (hn b hb hd)⟩
theorem below (h : SlD w D A xs) (hb : Below w.heap.size w w') : SlD w' D A xs := h.chg (Chg.of_below (S := noB) hb) (fun _ _ _ h => h)
theorem mono (h : SlD w D A xs) (hd : ∀ b, b < w.heap.size → D b → D' b) : SlD w D' A xs := by
  rcases h with rfl | ⟨b, off, hA, hb, h2, hx⟩
  · exact .inl rfl
  · exact .inr ⟨b, off, hA, hb, hd b hb h2, hx⟩
theorem any (h : SlD w D A xs) : SlD w (fun _ => True) A xs := h.mono (fun _ _ _ => trivial)
theorem of_sl {B : Nat} (h : Sl w B A xs) (hB : B ≤ w.heap.size) : SlD w (fun _ => True) A xs := by
  rcases h with rfl | ⟨b, off, hA, hb, hx⟩
  · exact .inl rfl
  · exact .inr ⟨b, off, hA, by omega, trivial, hx⟩
theorem own {base n c size : Nat} {e : TypeId} (h : w.ownsRow base e size (.slice A n c) n xs) : SlD w (fun b => base ≤ b) A xs := by
  rcases h with ⟨hl, ⟨hv, rfl⟩ | ⟨g, cap, cur, hv, hb, hh, hn, hc, hcur, ht⟩⟩
  · have : xs = [] := List.eq_nil_of_length_eq_zero (by simpa using hl)
    exact .inl this
  · injection hv with hA _ _
    subst hA
    refine .inr ⟨g, 0, rfl, (Array.getElem?_eq_some_iff.1 hh).1, hb, fun j u hu => ?_⟩
    rw [← ht, List.getElem?_take] at hu
    split at hu
    · simp [World.cell?, hh]
      simpa using hu
    · cases hu
/-- What is left behind the first k. -/
theorem drop (h : SlD w D A xs) {k cap : Nat} (hc : xs.length ≤ cap) : SlD w D (if cap = k then A else A.map (·.add k)) (xs.drop k) := by
  rcases Nat.lt_or_ge k xs.length with hk | hk
  · rcases h with rfl | ⟨b, off, rfl, hb, hd, hx⟩
    · simp at hk
    · rw [if_neg (by omega)]
      refine .inr ⟨b, off + k, ?_, hb, hd, fun j u hu => ?_⟩
      · by_cases h0 : k = 0 <;> simp [Addr.add, h0]
      · rw [List.getElem?_drop] at hu
        rw [Nat.add_assoc]
        exact hx _ u hu
  · rw [List.drop_eq_nil_of_le hk]
    exact .inl rfl
theorem take (h : SlD w D A xs) (k : Nat) : SlD w D A (xs.take k) := by
  rcases h with rfl | ⟨b, off, hA, hb, hd, hx⟩
  · simp [SlD]
  · refine .inr ⟨b, off, hA, hb, hd, fun j u hu => hx j u ?_⟩
    rw [List.getElem?_take] at hu
    split at hu
    · exact hu
    · cases hu
theorem open_ (h : SlD w D A xs) (hn : 0 < xs.length) : ∃ b off, A = some ⟨b, off, none⟩ ∧ b < w.heap.size ∧ D b ∧ ∀ (j : Nat) u, xs[j]? = some u → w.cell? ⟨b, off + j, none⟩ = some u := by
  rcases h with rfl | h
  · simp at hn
  · exact h
end SlD

/-- A row's slice stands for its cells. -/
def RowD (w : World) (D : Nat → Prop) (v : Value) (l : List Cl) : Prop := ∃ A c, v = .slice A l.length c ∧ ((A = none → c = 0) ∧ l.length ≤ c) ∧ SlD w D A (rc l)
namespace RowD
variable {w w' : World} {D D' : Nat → Prop} {v : Value} {l : List Cl}
theorem chg {S : Nat → Prop} (h : RowD w D v l) (hc : Chg S w w') (hn : ∀ b, b < w.heap.size → D b → ¬ S b) : RowD w' D v l := by
  obtain ⟨A, c, h1, h2, h3⟩ := h
  exact ⟨A, c, h1, h2, h3.chg hc hn⟩
theorem below (h : RowD w D v l) (hb : Below w.heap.size w w') : RowD w' D v l := h.chg (Chg.of_below (S := noB) hb) (fun _ _ _ h => h)
theorem mono (h : RowD w D v l) (hd : ∀ b, b < w.heap.size → D b → D' b) : RowD w D' v l := by
  obtain ⟨A, c, h1, h2, h3⟩ := h
  exact ⟨A, c, h1, h2, h3.mono hd⟩
theorem one (h : RowD w D v l) : v.oneCell' = true := by
  obtain ⟨A, c, rfl, _⟩ := h
  rfl
end RowD
/-- The rows' slices stand for the rows. -/
def RowsD (w : World) (D : Nat → Prop) (vs : List Value) (L : List (List Cl)) : Prop := vs.length = L.length ∧ ∀ (i : Nat) v l, vs[i]? = some v → L[i]? = some l → RowD w D v l
namespace RowsD
variable {w w' : World} {D D' : Nat → Prop} {vs us : List Value} {L M : List (List Cl)}
theorem chg {S : Nat → Prop} (h : RowsD w D vs L) (hc : Chg S w w') (hn : ∀ b, b < w.heap.size → D b → ¬ S b) : RowsD w' D vs L := ⟨h.1, fun i v l hv hl => (h.2 i v l hv hl).chg hc hn⟩
theorem below (h : RowsD w D vs L) (hb : Below w.heap.size w w') : RowsD w' D vs L := h.chg (Chg.of_below (S := noB) hb) (fun _ _ _ h => h)
theorem mono (h : RowsD w D vs L) (hd : ∀ b, b < w.heap.size → D b → D' b) : RowsD w D' vs L := ⟨h.1, fun i v l hv hl => (h.2 i v l hv hl).mono hd⟩
theorem one (h : RowsD w D vs L) : ∀ v ∈ vs, v.oneCell' = true := by
  intro v hv
  obtain ⟨i, hi⟩ := List.getElem?_of_mem hv
  have hi' := (List.getElem?_eq_some_iff.1 hi).1
  have hl : L[i]? = some (L[i]'(by rw [← h.1]; exact hi')) := List.getElem?_eq_getElem _
  exact (h.2 i v _ hi hl).one
theorem nil : RowsD w D [] [] := ⟨rfl, fun i v l hv => by simp at hv⟩
theorem append (h : RowsD w D vs L) (k : RowsD w D us M) : RowsD w D (vs ++ us) (L ++ M) := by
  refine ⟨by simp [h.1, k.1], fun i v l hv hl => ?_⟩
  by_cases hi : i < vs.length
  · rw [List.getElem?_append_left hi] at hv
    rw [List.getElem?_append_left (by rw [← h.1]; exact hi)] at hl
    exact h.2 i v l hv hl
  · rw [List.getElem?_append_right (by omega)] at hv
    rw [List.getElem?_append_right (by rw [← h.1]; omega), ← h.1] at hl
    exact k.2 _ v l hv hl
theorem single {v : Value} {l : List Cl} (h : RowD w D v l) : RowsD w D [v] [l] := by
  refine ⟨rfl, fun i u m hu hm => ?_⟩
  cases i with
  | zero =>
    simp at hu hm
    subst hu hm
    exact h
  | succ i => simp at hu
theorem snoc {v : Value} {l : List Cl} (h : RowsD w D vs L) (k : RowD w D v l) : RowsD w D (vs ++ [v]) (L ++ [l]) := h.append (.single k)
theorem drop (h : RowsD w D vs L) (k : Nat) : RowsD w D (vs.drop k) (L.drop k) := by
  refine ⟨by simp [h.1], fun i v l hv hl => ?_⟩
  rw [List.getElem?_drop] at hv hl
  exact h.2 _ v l hv hl
theorem set {v : Value} {l : List Cl} (h : RowsD w D vs L) (k : Nat) (hr : RowD w D v l) : RowsD w D (vs.set k v) (L.set k l) := by
  refine ⟨by simp [h.1], fun i u m hu hm => ?_⟩
  by_cases hi : k = i
  · subst hi
    rw [List.getElem?_set] at hu hm
    simp only [if_pos] at hu hm
    split at hu
    · split at hm
      · injection hu with hu
        injection hm with hm
        subst hu hm
        exact hr
      · cases hm
    · cases hu
  · rw [List.getElem?_set_ne hi] at hu hm
    exact h.2 i u m hu hm
theorem get (h : RowsD w D vs L) {k : Nat} {l : List Cl} (hl : L[k]? = some l) : ∃ v, vs[k]? = some v ∧ RowD w D v l := by
  have hk : k < vs.length := by rw [h.1]; exact (List.getElem?_eq_some_iff.1 hl).1
  exact ⟨_, List.getElem?_eq_getElem hk, h.2 k _ l (List.getElem?_eq_getElem hk) hl⟩
end RowsD
/-- A reference's rows: what a slice of rows shows. -/
def RfAt (w : World) (D : Nat → Prop) (A : Option Addr) (c : Nat) (L : List (List Cl)) : Prop := (A = none → c = 0) ∧ L.length ≤ c ∧ ∃ vs, SlD w D A vs ∧ RowsD w D vs L
namespace RfAt
variable {w w' : World} {D D' : Nat → Prop} {A : Option Addr} {c : Nat} {L : List (List Cl)}
theorem chg {S : Nat → Prop} (h : RfAt w D A c L) (hc : Chg S w w') (hn : ∀ b, b < w.heap.size → D b → ¬ S b) : RfAt w' D A c L := by
  obtain ⟨h1, h0, vs, h2, h3⟩ := h
  exact ⟨h1, h0, vs, h2.chg hc hn, h3.chg hc hn⟩
theorem below (h : RfAt w D A c L) (hb : Below w.heap.size w w') : RfAt w' D A c L := h.chg (Chg.of_below (S := noB) hb) (fun _ _ _ h => h)
theorem mono (h : RfAt w D A c L) (hd : ∀ b, b < w.heap.size → D b → D' b) : RfAt w D' A c L := by
  obtain ⟨h1, h0, vs, h2, h3⟩ := h
  exact ⟨h1, h0, vs, h2.mono hd, h3.mono hd⟩
theorem drewN (h : RfAt w D A c L) (n : Nat) : RfAt (w.drewN n) D A c L := h.below (below_drewN w n)
/-- a row of it -/
theorem at_ (h : RfAt w D A c L) {i : Nat} {l : List Cl} (hl : L[i]? = some l) : ∃ b off Ai ci, A = some ⟨b, off, none⟩ ∧ b < w.heap.size ∧ w.cell? ⟨b, off + i, none⟩ = some (.slice Ai l.length ci) ∧ ((Ai = none → ci = 0) ∧ l.length ≤ ci) ∧ SlD w D Ai (rc l) := by
  obtain ⟨_, _, vs, h2, h3⟩ := h
  obtain ⟨v, hv, Ai, ci, rfl, h4, h5⟩ := h3.get hl
  obtain ⟨b, off, rfl, hb, _, hx⟩ := h2.open_ (by have := (List.getElem?_eq_some_iff.1 hv).1; omega)
  exact ⟨b, off, Ai, ci, rfl, hb, hx i _ hv, h4, h5⟩
end RfAt

/-- A position is blanked, as the reference has it. -/
theorem blank_ref (l : List Cl) (k : Nat) (c : Cl) (hc : l[k]? = some c) : blankM l k = if c.w = 2 ∧ k + 1 < l.length then (l.set k bl).set (k + 1) bl else if c.w = 0 ∧ 0 < k then (l.set k bl).set (k - 1) bl else l.set k bl := by
  unfold blankM
  rw [hc]
  simp only
  by_cases h2 : c.w = 2
  · rw [if_pos h2]
    by_cases hk : k + 1 < l.length
    · rw [if_pos ⟨h2, hk⟩, List.set_comm _ _ (by omega)]
    · rw [if_neg (by omega), if_neg (by omega), List.set_eq_of_length_le (i := k + 1) (by omega)]
  · rw [if_neg h2, if_neg (by omega : ¬ (c.w = 2 ∧ k + 1 < l.length))]
    by_cases h0 : c.w = 0
    · rw [if_pos h0]
      by_cases hk : 0 < k
      · rw [if_pos ⟨h0, hk⟩, List.set_comm _ _ (by omega)]
      · rw [if_neg (by omega)]
        obtain rfl : k = 0 := by omega
        rw [show 0 - 1 = 0 from rfl, List.set_set]
    · rw [if_neg h0, if_neg (by omega)]

/-- A row's cells in so many columns. -/
def fitM (l : List Cl) (W : Nat) : List Cl :=
  let o := l.take W
  (match o[o.length - 1]? with | none => o | some c => if c.w = 2 then o.set (o.length - 1) bl else o) ++ List.replicate (W - o.length) bl
theorem fitM_length (l : List Cl) (W : Nat) : (fitM l W).length = W := by
  unfold fitM
  simp only [List.length_append, List.length_replicate]
  split
  · rw [List.length_take]; omega
  · split
    · rw [List.length_set, List.length_take]; omega
    · rw [List.length_take]; omega
/-- the first row that stays -/
def topM (row : Int) (h : Int) : Nat := (max 0 (row + 1 - h)).toNat
/-- the rows that stay, and new ones -/
def resizeM (L : List (List Cl)) (W H : Nat) (row : Int) : List (List Cl) :=
  let kept := (L.drop (topM row H)).take H
  kept.map (fitM · W) ++ List.replicate (H - kept.length) (List.replicate W bl)
end Go.Proofs.YtaijiapolippaaaDoor

namespace Go.Proofs.YtaijiapolippaaaDoor
open Go.RowKit
set_option linter.unusedVariables false

theorem own_blk {w : World} {base n size : Nat} {e : TypeId} {v : Value} {xs : List Value} (h : w.ownsRow base e size v n xs) (hn : 0 < n) :
    ∃ g cap cur, v = .slice (some ⟨g, 0, none⟩) n cap ∧ base ≤ g ∧ Blk w g e cur ∧ cur.take (n * size) = xs ∧ n * size ≤ cur.length := by
  rcases h with ⟨hl, ⟨hv, h0⟩ | ⟨g, cap, cur, hv, hb, hh, hnc, hc, hcur, ht⟩⟩
  · omega
  · refine ⟨g, cap, cur.toList, hv, hb, by unfold Blk; rw [Array.toArray_toList]; exact hh, ht, ?_⟩
    rw [Array.length_toList, hcur]
    exact Nat.mul_le_mul_right _ hnc
theorem own_blk2 {w : World} {base n size : Nat} {e : TypeId} {v : Value} {xs : List Value} (h : w.ownsRow base e size v n xs) (hn : 0 < n) :
    ∃ g cap cur, v = .slice (some ⟨g, 0, none⟩) n cap ∧ base ≤ g ∧ Blk w g e cur ∧ cur.take (n * size) = xs ∧ n * size ≤ cur.length ∧
      ∀ (w' : World) (cur' : List Value), Blk w' g e cur' → cur'.length = cur.length → w'.ownsRow base e size (.slice (some ⟨g, 0, none⟩) n cap) n (cur'.take (n * size)) := by
  rcases h with ⟨hl, ⟨hv, h0⟩ | ⟨g, cap, cur, hv, hb, hh, hnc, hc, hcur, ht⟩⟩
  · omega
  · have hle : n * size ≤ cur.toList.length := by rw [Array.length_toList, hcur]; exact Nat.mul_le_mul_right _ hnc
    refine ⟨g, cap, cur.toList, hv, hb, by unfold Blk; rw [Array.toArray_toList]; exact hh, ht, hle, fun w' cur' hb' hl' => ⟨by rw [List.length_take]; omega, .inr ⟨g, cap, cur'.toArray, rfl, hb, hb', hnc, hc, ?_, by simp⟩⟩⟩
    rw [List.size_toArray, hl', Array.length_toList, hcur]
theorem own_cap {w : World} {base n c size : Nat} {e : TypeId} {A : Option Addr} {xs : List Value} (h : w.ownsRow base e size (.slice A n c) n xs) : n ≤ c := by
  rcases h with ⟨hl, ⟨hv, h0⟩ | ⟨g, cap, cur, hv, hb, hh, hnc, hc, hcur, ht⟩⟩
  · omega
  · injection hv with _ _ e
    omega
theorem take_splice (cs ds : List Value) (o m : Nat) (h1 : o + ds.length ≤ m) (h2 : m ≤ cs.length) : (splice cs o ds).take m = splice (cs.take m) o ds := by
  unfold splice
  have e1 : min o cs.length = o := by omega
  have e2 : (cs.take o ++ (ds ++ cs.drop (o + ds.length))).take m = cs.take o ++ (ds ++ (cs.drop (o + ds.length)).take (m - o - ds.length)) := by
    rw [List.take_append, List.take_append, List.take_take, List.length_take, e1, List.take_of_length_le (l := ds) (by omega), show min m o = o by omega]
  have e3 : (cs.take m).take o = cs.take o := by rw [List.take_take, show min o m = o by omega]
  rw [e2, e3, List.drop_take]
  congr 3
  omega
theorem sld_of_blk {w : World} {g m : Nat} {t : TypeId} {cs xs : List Value} {D : Nat → Prop} (hb : Blk w g t cs) (h : cs.take m = xs) (hD : D g) : SlD w D (some ⟨g, 0, none⟩) xs := by
  refine .inr ⟨g, 0, rfl, hb.lt, hD, fun j u hu => ?_⟩
  rw [Nat.zero_add, hb.cell, ← hu, ← h, List.getElem?_take]
  split
  · rfl
  · next hj =>
    exfalso
    rw [← h, List.getElem?_take, if_neg hj] at hu
    cases hu
theorem Blk.new1 (w : World) (o : Obj) (t : TypeId) (cs : List Value) : Blk ((w.alloc o).alloc (.cells cs.toArray t)) (w.heap.size + 1) t cs := by
  have := Blk.new (w.alloc o) t cs
  simpa using this
theorem Blk.new2 (w : World) (o o' : Obj) (t : TypeId) (cs : List Value) : Blk (((w.alloc o).alloc o').alloc (.cells cs.toArray t)) (w.heap.size + 2) t cs := by
  have := Blk.new1 (w.alloc o) o' t cs
  simpa using this
theorem splice_one (cs : List Value) (k : Nat) (v : Value) (h : k < cs.length) : splice cs k [v] = cs.set k v := by
  unfold splice
  rw [List.set_eq_take_append_cons_drop, if_pos h]
  simp
end Go.Proofs.YtaijiapolippaaaDoor

namespace Go.Proofs.YtaijiapolippaaaDoor
open Go.RowKit Go.Shelf
attribute [local go_sem] Oper.semAt_some
set_option linter.unusedVariables false
set_option linter.unusedSimpArgs false

/-- the rows' numbers and blocks -/
def lns (bs : List Nat) : List (Nat × Nat) := bs.zipIdx.map fun x => (x.2, x.1)
theorem lns_length (bs : List Nat) : (lns bs).length = bs.length := by simp [lns]
theorem lns_get {bs : List Nat} {k : Nat} (h : k < bs.length) : (lns bs)[k]? = some (k, bs[k]) := by
  simp [lns, List.getElem?_zipIdx, List.getElem?_eq_getElem h]
def encL (W : Nat) (x : Nat × Nat) : Array Value := #[.int .i64 x.1, rowV W x.2]

set_option maxHeartbeats 400000 in
theorem lines_any (p : Option Addr) (w : World) : Calls Tryd.prog 154 #[.pointer p] w fun e w' =>
    e = .returned (.func (.func 188) #[] #[.pointer (some ⟨w.heap.size, 0, none⟩)]) ∧ w' = w.alloc (.cells #[.pointer p] 162) := by
  go_enter Tryd.func154, Tryd.ntmps154
  go_wp2
  go_ret
  exact ⟨rfl, rfl⟩

set_option maxRecDepth 100000 in
set_option maxHeartbeats 4000000 in
theorem lines_stops (B g rb WW : Nat) (bs : List Nat) (h5 : bs.length ≤ 500) (f0 : Nat → Prop) (w : World) (hB : w.cell? ⟨B, 0, none⟩ = some (.pointer (some ⟨g, 0, none⟩))) (hg : w.cell? ⟨g, 0, none⟩ = some (.pointer (some ⟨g, 0, none⟩)))
    (hs : w.cell? ⟨g, 1, none⟩ = some (.slice (some ⟨rb, 0, none⟩) bs.length bs.length)) (hr : ∀ (k b : Nat), bs[k]? = some b → w.cell? ⟨rb, k, none⟩ = some (rowV WW b))
    (f1 : f0 B) (f2 : f0 g) (f3 : f0 rb) :
    SeqP Fence.wide 8 Tryd.prog 188 #[.pointer (some ⟨B, 0, none⟩)] (encL WW) f0 (fun x => bs[x.1]? = some x.2) (fun ys => ys = lns bs) (fun pre => pre <+: lns bs) bs.length w := by
  intro l J Jx W hsz hf0 hJ hJx hY h0
  have hfacts : ∀ wr : World, (∀ j, f0 j → wr.heap[j]? = W.heap[j]?) → wr.cell? ⟨B, 0, none⟩ = some (.pointer (some ⟨g, 0, none⟩)) ∧ wr.cell? ⟨g, 0, none⟩ = some (.pointer (some ⟨g, 0, none⟩)) ∧
      wr.cell? ⟨g, 1, none⟩ = some (.slice (some ⟨rb, 0, none⟩) bs.length bs.length) ∧ ∀ (k b : Nat), bs[k]? = some b → wr.cell? ⟨rb, k, none⟩ = some (rowV WW b) := fun wr h => by
    have e : ∀ b o v, f0 b → w.cell? ⟨b, o, none⟩ = some v → wr.cell? ⟨b, o, none⟩ = some v := fun b o v hb hv =>
      (World.cell?_of_block (w := w) (a := ⟨b, o, none⟩) ((h b hb).trans (hf0 b hb))).trans hv
    exact ⟨e _ _ _ f1 hB, e _ _ _ f2 hg, e _ _ _ f2 hs, fun k b hb => e _ _ _ f3 (hr k b hb)⟩
  have HF := Lib.hid hfacts
  have HY := Lib.hid hY
  have H0 := Lib.hid h0
  have HJ := Lib.hid hJ
  clear hfacts hY h0 hJ hJx hf0 hB hg hs hr f1 f2 f3
  refine callsIn_of_wp Tryd.func188 rfl trivial ?_ rfl
  simp only [Tryd.ntmps188, List.size_toArray, List.length_cons, List.length_nil, Nat.reduceAdd, Nat.reduceSub, Array.replicate_succ, Array.replicate_zero, List.push_toArray, List.append_toArray, List.nil_append, List.cons_append]
  obtain ⟨c1, c2, c3, c4⟩ := HF.out W (fun _ _ => rfl)
  gi_wp2_with (refine ⟨trivial, ?_⟩; gi_at_call 149; refine (callsIn_wide.2 (made_yes g _ c2)).mono ?_; rintro e w' ⟨rfl, rfl⟩)
  clear c1 c2 c3 c4
  gi_loopw [13] (fun v13 wr => ∃ k : Nat, v13 = .int .i64 k ∧ k ≤ bs.length ∧ J ((lns bs).take k) f0 wr ∧ (∀ j, f0 j → wr.heap[j]? = W.heap[j]?)) (fun v13 _ => bs.length - (intOf v13).toNat)
  case atStart => exact ⟨0, rfl, by omega, H0.out, fun _ _ => rfl⟩
  case round =>
    obtain ⟨k, rfl, hk, hj, hf⟩ := hrel
    have HJp := Lib.hid hj
    have HFF := Lib.hid hf
    clear hj hf
    by_cases hlt : k < bs.length
    · have hki : (k : Int) < bs.length := by omega
      have hb : bs[k]? = some bs[k] := List.getElem?_eq_getElem hlt
      have hx := lns_get hlt
      obtain ⟨c1, c2, c3, c4⟩ := HF.out _ HFF.out
      have hrow := c4 k _ hb
      have htk : (lns bs).take (k + 1) = (lns bs).take k ++ [(k, bs[k])] := by
        rw [List.take_add_one, hx]; rfl
      have hlk : ((lns bs).take k).length < bs.length := by rw [List.length_take, lns_length]; omega
      have hyy := HY.out _ (k, bs[k]) f0 _ HJp.out hlk hb
      generalize bs[k] = b at hb hx hrow htk hyy
      have HTK := Lib.hid htk
      have HPX : Hid ((lns bs).take k ++ [(k, b)] <+: lns bs) := by show _ <+: _; rw [← htk]; exact List.take_prefix _ _
      obtain ⟨fn, tmps, assign, body, hy, hR⟩ := hyy
      simp only [encL, rowV] at hy
      unfold rowV at hrow
      clear c4 hx htk hlk hb
      gi_wp2
      refine hR.mono ?_
      rintro e W3 (⟨rfl, hJ3, hk3⟩ | ⟨rfl, hJ3, hk3⟩)
      · have hJ4 : J ((lns bs).take (k + 1)) f0 W3 := by rw [HTK.out]; exact hJ3
        have hf4 : ∀ j, f0 j → W3.heap[j]? = W.heap[j]? := fun j hj => (hk3.mine j hj).trans (HFF.out j hj)
        gi_wp2
        exact ⟨⟨k + 1, by go_num, by omega, hJ4, hf4⟩, by simp only [intOf]; omega⟩
      · gi_wp2
        refine bodyPost_ret (results_none rfl _ _ _) rfl ?_
        exact ⟨⟨_, rfl⟩, .inr ⟨_, f0, HPX.out, hJ3⟩⟩
    · have hki : ¬ (k : Int) < bs.length := by omega
      have hfin := HJp.out
      rw [List.take_of_length_le (by rw [lns_length]; omega)] at hfin
      gi_wp2
      go_end0
      first | exact ⟨⟨_, rfl⟩, .inl ⟨_, f0, rfl, hfin⟩⟩ | exact ⟨⟨_, rfl⟩, .inl ⟨f0, hfin⟩⟩
end Go.Proofs.YtaijiapolippaaaDoor

namespace Go.Proofs.YtaijiapolippaaaDoor
open Go.RowKit Go.Shelf
attribute [local go_sem] Oper.semAt_some
set_option linter.unusedVariables false
set_option linter.unusedSimpArgs false

theorem quiet_made (g : Nat) (w : World) (hp : w.cell? ⟨g, 0, none⟩ = some (.pointer (some ⟨g, 0, none⟩))) :
    Calls Tryd.prog 149 #[.pointer (some ⟨g, 0, none⟩)] w fun e w' => e = .returned (.bool true) ∧ w' = w := (made_yes g w hp).mono fun e w' ⟨a, b⟩ => ⟨a, b.symm⟩

end Go.Proofs.YtaijiapolippaaaDoor

namespace Go.Proofs.YtaijiapolippaaaDoor
open Go.RowKit Go.Shelf
attribute [local go_sem] Oper.semAt_some
set_option linter.unusedVariables false
set_option linter.unusedSimpArgs false

theorem Chg.of_turn {b : Nat} {f : Nat → Prop} {A B : World} (h : Turn b f A B) : Chg (fun k => b ≤ k) A B :=
  ⟨h.os, h.tape, h.output, h.size, fun k hk hn => by rw [Array.getElem?_eq_getElem hk]; exact h.block k _ (Array.getElem?_eq_getElem hk) (.inl (by omega))⟩

/-- builtin copy in a round -/
theorem wpListIn_copy_k {F : Fence} {n : Nat} {P : Program} {w : World} {ops : Array Oper} {rest : List Oper} {o : Oper} {a : Act} {Q : Exit → Act → World → Prop} (hgd : o.guard = none) (d s : Operand) (dT sT : TypeId)
    (ho : o.op = .call { callee := .builtin .copy, args := #[d, s], argTypes := #[dT, sT] }) (elem : TypeId) (sz : Nat) (hu : P.underlying dT = some (.slice elem)) (hs : (P.info? elem).map (·.size) = some sz)
    (dp sp : Option Addr) (dLen dCap sLen sCap : Nat) (hd : a.eval d = .slice dp dLen dCap) (hsp : a.eval s = .slice sp sLen sCap) (g off : Nat) (t : TypeId) (cur : List Value) (hb : Blk w g t cur) (cs : List Value) (k : Nat) (hk : k = Nat.min sLen dLen) (hc : cs.length = k * sz)
    (hpos : 0 < k → dp = some ⟨g, off, none⟩ ∧ ∃ ad, sp = some ad ∧ ∀ j v, cs[j]? = some v → w.cell? (ad.add j) = some v) (hfit : off + cs.length ≤ cur.length) (h1 : ∀ v ∈ cs, v.oneCell' = true)
    (h : ∀ w', Blk w' g t (splice cur off cs) → w.grownBy w' (some g) → wpListIn F n P ops Q rest (a.put o.dst (.int .i64 k)) w') : wpListIn F n P ops Q (o :: rest) a w := by
  obtain ⟨w', hrun, h2, h3⟩ := run_copy_any (P := P) w dT sT o.type elem sz hu hs dp sp dLen dCap sLen sCap g off t cur hb cs k hk hc hpos hfit h1
  refine wpListIn_plain hgd fun K hK' => ?_
  unfold Oper.wpIn
  refine ⟨?_, ?_⟩
  · simp [Oper.about, ho, resolve, Target.leads, Sem.run_pure]
  · rw [Oper.semAt_plain F _ _ (by rw [ho]; intro c hc'; cases hc')]
    simp [execOp, ho, resolve, invoke, builtin, hd, hsp, hrun, Result.andThen]
    exact hK' _ _ (h w' h2 h3)

theorem splice_full (l m : List Cl) (h : l.length = m.length) : splice (rc l) 0 (rc m) = rc m := by
  have := rc_splice_list l m 0
  rw [Nat.zero_mul] at this
  rw [this]
  unfold splice
  rw [List.take_zero, List.nil_append, Nat.zero_add, List.drop_eq_nil_of_le (by omega), List.append_nil]

theorem blankG_len (W H : Nat) : (blankG W H).length = H := by simp [blankG]

set_option maxRecDepth 100000 in
set_option maxHeartbeats 4000000 in
theorem fork_any {w : World} {lo g rb W : Nat} {bs : List Nat} {L : List (List Cl)} (h : GrAt w lo g rb bs W L) (hT : BlankT w) :
    Calls Tryd.prog 152 #[.pointer (some ⟨g, 0, none⟩)] w fun e w' => ∃ g2 rb2 bs2, e = .returned (.pointer (some ⟨g2, 0, none⟩)) ∧ GrAt w' w.heap.size g2 rb2 bs2 W L ∧ Below w.heap.size w w' := by
  have hh5 := h.h5
  have hh1 := h.h1
  have hw5 := h.w5
  have hw1 := h.w1
  have HG := Lib.hid h
  have HT := Lib.hid hT
  clear h hT
  refine (callsIn_wide (n := 9)).1 ?_
  refine callsIn_of_wp_marks Tryd.func152 rfl trivial ?_ rfl
  simp only [Tryd.ntmps152, List.size_toArray, List.length_cons, List.length_nil, Nat.reduceAdd, Nat.reduceSub, Array.replicate_succ, Array.replicate_zero, List.push_toArray, List.append_toArray, List.nil_append, List.cons_append]
  refine wpIn_wide.2 ?_
  go_wp2_with (fail)
  refine (size_any HG.out).mono ?_
  rintro e w0 ⟨rfl, n0, rfl⟩
  go_wp2_with (fail)
  refine (new_ok W L.length hw1 hw5 hh1 hh5 (w.drewN n0) (HT.out.bel (below_dN (Below.refl _ w) n0))).mono ?_
  rintro e w1 ⟨g2, rb2, bs2, rfl, hg2, hb1⟩
  have hg2' : GrAt w1 w.heap.size g2 rb2 bs2 W (blankG W L.length) := hg2
  have hb1' : Below w.heap.size w w1 := (below_dN (Below.refl _ w) n0).trans hb1
  have HF := Lib.hid hg2'
  have HB1 := Lib.hid hb1'
  have HX1 := Lib.hid (Boxed.new w1 162 (.pointer (some ⟨g2, 0, none⟩)))
  clear hg2 hg2' hb1 hb1'
  go_wp2_with (go_at_call 154; refine (lines_any _ _).mono ?_; rintro e w' ⟨rfl, rfl⟩)
  refine (wpIn_wide (n := 9)).1 ?_
  have hbv : Below w1.heap.size w1 ((w1.alloc (.cells #[.pointer (some ⟨g2, 0, none⟩)] 162)).alloc (.cells #[.pointer (some ⟨g, 0, none⟩)] 162)) := ((Below.refl _ w1).alloc (Nat.le_refl _) _).alloc (by simp) _
  have hwb : Below w.heap.size w ((w1.alloc (.cells #[.pointer (some ⟨g2, 0, none⟩)] 162)).alloc (.cells #[.pointer (some ⟨g, 0, none⟩)] 162)) := HB1.out.trans (hbv.mono HB1.out.size)
  have hbx : Boxed ((w1.alloc (.cells #[.pointer (some ⟨g2, 0, none⟩)] 162)).alloc (.cells #[.pointer (some ⟨g, 0, none⟩)] 162)) (w1.heap.size + 1) 162 (.pointer (some ⟨g, 0, none⟩)) := by
    have := Boxed.new (w1.alloc (.cells #[.pointer (some ⟨g2, 0, none⟩)] 162)) 162 (.pointer (some ⟨g, 0, none⟩))
    simpa using this
  have hx1 : Boxed ((w1.alloc (.cells #[.pointer (some ⟨g2, 0, none⟩)] 162)).alloc (.cells #[.pointer (some ⟨g, 0, none⟩)] 162)) w1.heap.size 162 (.pointer (some ⟨g2, 0, none⟩)) := Boxed.alloc HX1.out _
  have hgl := HG.out.own_lt g (.inl rfl)
  have hrl := HG.out.own_lt rb (.inr (.inl rfl))
  have HGB := HG.out.below hwb
  have HFB := HF.out.below hbv
  have HOWN := Lib.hid HF.out.own_lt
  have HLOW := Lib.hid HF.out.lo
  have hszw : ((w1.alloc (.cells #[.pointer (some ⟨g2, 0, none⟩)] 162)).alloc (.cells #[.pointer (some ⟨g, 0, none⟩)] 162)).heap.size = w1.heap.size + 2 := by simp
  have HSZ := Lib.hid hszw
  have hws := HB1.out.size
  have hf0lt : ∀ k, (k < w.heap.size ∨ k = w1.heap.size + 1) → k < ((w1.alloc (.cells #[.pointer (some ⟨g2, 0, none⟩)] 162)).alloc (.cells #[.pointer (some ⟨g, 0, none⟩)] 162)).heap.size := fun k hk => by
    have h2 := HSZ.out
    rcases hk with h | h <;> omega
  clear hszw
  refine range_priv rfl (by omega) (gf := 188) (lb := #[.pointer (some ⟨w1.heap.size + 1, 0, none⟩)]) rfl trivial (enters_of Tryd.func188 (by kernel_rfl) rfl)
    (lines_stops (w1.heap.size + 1) g rb W bs (by rw [HG.out.len]; exact hh5) (fun k => k < w.heap.size ∨ k = w1.heap.size + 1) _ hbx.cell HGB.ptr (by rw [HG.out.len]; exact HGB.rws) (fun k b hb => by rw [HGB.rows.cell, List.getElem?_map, hb]; rfl) (.inr rfl) (.inl hgl) (.inl hrl))
    (Nat.le_refl _) (fun k hk => ⟨hf0lt k hk, rfl⟩) (fun _ => rfl)
    (fun pre f X => Boxed X w1.heap.size 162 (.pointer (some ⟨g2, 0, none⟩)) ∧ (∃ L', L'.length = L.length ∧ GrAt X w.heap.size g2 rb2 bs2 W L' ∧ ∀ x ∈ pre, L'[x.1]? = L[x.1]?) ∧ Below w.heap.size w X)
    (fun c pre f X => False ∧ Below w.heap.size w X)
    (AbP.and (AbP.boxed (fun _ => .pointer (some ⟨g2, 0, none⟩)) (by rw [HSZ.out]; omega)) (AbP.and (fun pre f f' A B hp ht _ => by
      obtain ⟨L', h1, h2, h3⟩ := hp
      exact ⟨L', h1, h2.keep (Chg.of_turn ht) (fun k hk => by have := HOWN.out k hk; have := HSZ.out; omega), h3⟩) (AbP.below (by rw [HSZ.out]; omega) (Nat.le_refl _))))
    (fun _ => AbP.and (AbP.none _) (AbP.below (by rw [HSZ.out]; omega) (Nat.le_refl _)))
    ⟨hx1, ⟨blankG W L.length, blankG_len _ _, HFB, fun x hx => by simp at hx⟩, hwb⟩
    (fun x => { tmps := #[.pointer (some ⟨g, 0, none⟩), undef, .pointer none, .pointer (some ⟨w1.heap.size, 0, none⟩), .int .i64 0, .int .i64 x.1, .slice (some ⟨x.2, 0, none⟩) W W,
      .tuple #[.pointer (some ⟨g2, 0, none⟩), .int .i64 0], .pointer (some ⟨g, 0, none⟩), .tuple #[.int .i64 W, .int .i64 L.length], .int .i64 W, .int .i64 L.length, .tuple #[.pointer (some ⟨g2, 0, none⟩), .int .i64 0],
      .pointer (some ⟨g2, 0, none⟩), .int .i64 0, .int .i64 0, .bool false, .pointer (some ⟨g, 0, none⟩), .func (.func 188) #[] #[.pointer (some ⟨w1.heap.size + 1, 0, none⟩)],
      .int .i64 x.1, .slice (some ⟨x.2, 0, none⟩) W W, undef, undef, undef, undef, undef, undef, undef, undef, undef, undef], defers := [] }) ?assign ?body ?done ?stop
  case assign =>
    intro l x X K hK
    simp only [encL, rowV]
    gi_wp2
    exact hK
  case body =>
    rintro l pre x f X hf hz ⟨hb1, ⟨L', hL', hgx, hp⟩, hbW⟩ hlen hel
    have hxl : x.1 < L.length := by have := (List.getElem?_eq_some_iff.1 hel).1; have := HG.out.len; omega
    have HX := HG.out.below hbW
    obtain ⟨b, l1, hbi, hl1, hrv, hlen1, hwf1, hbl⟩ := HX.at_ hxl
    obtain rfl : b = x.2 := by rw [hel] at hbi; injection hbi with hbi; exact hbi.symm
    obtain ⟨b2, l2, hbi2, hl2, hrv2, hlen2, _, hbl2⟩ := hgx.at_ (i := x.1) (by rw [hL']; exact hxl)
    have hs2 := hgx.rws
    unfold rowV at hrv2
    have hx2i : (x.1 : Int) < L'.length := by omega
    have hc := hb1.cell
    have hown2 : GrOwn g2 rb2 bs2 b2 := .inr (.inr (List.mem_of_getElem? hbi2))
    have hnf : ¬ f b2 := fun hk => by
      have h1 := HOWN.out b2 hown2
      have h2 := HLOW.out b2 hown2
      have h3 := HSZ.out
      rcases hf _ hk with h | h
      · rcases h with h | h <;> omega
      · omega
    have hflt : ∀ k, f k → k < X.heap.size := fun k hk => by
      have h2 := HSZ.out
      have h3 := hbW.size
      rcases hf k hk with h | h
      · rcases h with h | h <;> omega
      · omega
    have hne : w1.heap.size ≠ b2 := fun e => by have h1 := HOWN.out b2 hown2; omega
    have hb2w : w.heap.size ≤ b2 := HLOW.out b2 hown2
    have HP := Lib.hid hp
    have HB1 := Lib.hid hb1
    have HBW := Lib.hid hbW
    have HGX := Lib.hid hgx
    have HFF := Lib.hid hflt
    have HNF := Lib.hid hnf
    have HL1 := Lib.hid hl1
    have HL2 := Lib.hid hl2
    have HBI2 := Lib.hid hbi2
    have HBL := Lib.hid hbl
    have HBL2 := Lib.hid hbl2
    have HLL := Lib.hid hL'
    have HEN1 := Lib.hid hlen1
    have HEN2 := Lib.hid hlen2
    have HWF := Lib.hid hwf1
    have HNE := Lib.hid hne
    clear hp hb1 hbW hgx hflt hnf hf hel hbi hbi2 hlen1 hlen2 hbl hbl2 hl1 hl2 HX hrv hlen hL' hown2 hne hwf1
    obtain ⟨w4, hrun, hn4, hg4⟩ := run_copy_any (P := Tryd.prog) X 79 79 3 123 7 Tryd.underlying79 cl_size (some ⟨b2, 0, none⟩) (some ⟨x.2, 0, none⟩) W W W W b2 0 123 (rc l2) HBL2.out (rc l1) W (by show W = min W W; omega) (by rw [rc_length, HEN1.out]) (fun _ => ⟨rfl, _, rfl, fun j v hv => by rw [Addr.add_mid, Nat.zero_add]; exact (HBL.out.cell j).trans hv⟩) (by rw [rc_length, rc_length, HEN1.out, HEN2.out]; omega) (rc_one _)
    rw [splice_full _ _ (by rw [HEN1.out, HEN2.out])] at hn4
    have HN4 := Lib.hid hn4
    have HG4 := Lib.hid hg4
    clear hn4 hg4
    gi_wp2
    have hn4 := HN4.out
    have hg4 := HG4.out
    have hch := chg_of_grown hg4
    refine ⟨Rk.grown (Rk.refl _ f X) hg4 HFF.out (fun k hk => ?_), ?_, ⟨L'.set x.1 l1, by rw [List.length_set]; exact HLL.out, HGX.out.set HBI2.out hch HEN1.out HWF.out hn4, ?_⟩, HBW.out.grown hg4 HBW.out.size (fun k hk => ?_)⟩
    · injection hk with hk
      subst hk
      refine ⟨HNF.out, fun o ho => ?_⟩
      rw [HBL2.out] at ho
      injection ho with ho
      subst ho
      rfl
    · exact (hg4.block _ HB1.out.lt (fun e => HNE.out (Option.some.inj e))).trans HB1.out
    · intro y hy
      rcases List.mem_append.1 hy with hy | hy
      · by_cases e : x.1 = y.1
        · rw [← e, List.getElem?_set_self (by rw [HLL.out]; exact hxl)]
          exact HL1.out.symm
        · rw [List.getElem?_set_ne e]
          exact HP.out y hy
      · simp at hy
        subst hy
        rw [List.getElem?_set_self (by rw [HLL.out]; exact hxl)]
        exact HL1.out.symm
    · injection hk with hk
      omega
  case done =>
    rintro D ys f X hD rfl ⟨hb1, ⟨L', hL', hgx, hp⟩, hbW⟩ hK
    have hLL : L' = L := by
      apply List.ext_getElem?
      intro i
      by_cases hi : i < bs.length
      · exact hp _ (List.mem_of_getElem? (lns_get hi))
      · have e1 := HG.out.len
        rw [List.getElem?_eq_none (by omega), List.getElem?_eq_none (by omega)]
    subst hLL
    have hc := hb1.cell
    have HGX := Lib.hid hgx
    have HBW := Lib.hid hbW
    have HKK := Lib.hid hK
    have hDs : ((w1.alloc (.cells #[.pointer (some ⟨g2, 0, none⟩)] 162)).alloc (.cells #[.pointer (some ⟨g, 0, none⟩)] 162)).heap.size ≤ D := hD
    clear hp hb1 hL' hgx hbW hK
    go_wp2
    refine ⟨by simp, .inl ⟨_, _, rfl, run_takeDeferred HKK.out, ?_⟩⟩
    refine ⟨.pointer (some ⟨g2, 0, none⟩), by simp [results, Tryd.f152, go_sem], g2, rb2, bs2, rfl, HGX.out.keep ((chg_of_grown (grownBy_putObj' X D (.deferred none)))) (fun k hk e => ?_), HBW.out.trans (belowK_b (w := w) (Nat.le_refl _) X D _ _ (by have := HSZ.out; omega) HKK.out rfl rfl)⟩
    have h1 := HOWN.out k hk
    have h2 := HSZ.out
    have e' : k = D := e
    omega
  case stop =>
    rintro D c pre f X hD hpre ⟨h, _⟩ hK
    exact h.elim
end Go.Proofs.YtaijiapolippaaaDoor

namespace Go.Proofs.YtaijiapolippaaaDoor
open Go.RowKit
set_option linter.unusedVariables false

/-- The same contract, what holds of an element speaking of the world. -/
def SeqW {α : Type} (F : Fence) (n : Nat) (P : Program) (g : Nat) (lb : Array Value) (encs : α → Array Value) (f0 : Nat → Prop) (El : α → World → Prop) (S Sp : List α → Prop) (N : Nat) (w : World) : Prop :=
  ∀ (l : Nat) (J Jx : List α → (Nat → Prop) → World → Prop) (W : World), w.heap.size ≤ W.heap.size → (∀ k, f0 k → W.heap[k]? = w.heap[k]?) → AbP W.heap.size J → AbP W.heap.size Jx →
    (∀ pre x f W1, J pre f W1 → pre.length < N → El x W1 → YieldAt F (n - 1) P l (encs x) W1 fun e W' =>
      (e = .returned (.bool true) ∧ J (pre ++ [x]) f W' ∧ Rk W.heap.size f W1 W') ∨ (e = .returned (.bool false) ∧ Jx (pre ++ [x]) f W' ∧ KeepsFrom W.heap.size W1 W')) →
    J [] f0 W →
    CallsIn F n P g (#[.func (.yield l) #[] #[]] ++ lb) W fun e W' => (∃ v, e = .returned v) ∧ ((∃ xs f, S xs ∧ J xs f W') ∨ (∃ pre f, Sp pre ∧ Jx pre f W'))

variable {F : Fence} {n : Nat} {P : Program}

/-- The range over such an iterator, where no round is under way. -/
theorem range_w {α : Type} {g : Operand} {ps : Array Tmp} {assign body : Code} {Q : Exit → Act → World → Prop} {a : Act} {w : World}
    (hro : F.round = none) (h1 : 1 ≤ n) {gf : Nat} {lb : Array Value} (hg : a.eval g = .func (.func gf) #[] lb) (hFg : F.fn gf) (eg : ∀ args w, (callFunc gf args).run P w = .ok (.enter gf args) w)
    {encs : α → Array Value} {f0 : Nat → Prop} {El : α → World → Prop} {S Sp : List α → Prop} {N : Nat} {w0 : World} (hseq : SeqW F (n - 1) P gf lb encs f0 El S Sp N w0)
    (hw0 : w0.heap.size ≤ w.heap.size) (hf0 : ∀ k, f0 k → k < w.heap.size ∧ w.heap[k]? = w0.heap[k]?) (hps : ∀ x, (encs x).size = ps.size) (hEl : ∀ x W l o o', w.heap.size ≤ l → W.heap[l]? = some o → o.isCells = false → El x W → El x (W.putObj l o'))
    (I : List α → (Nat → Prop) → World → Prop) (Ix : Code → List α → (Nat → Prop) → World → Prop) (hI : AbP w.heap.size I) (hIx : ∀ c, AbP w.heap.size (Ix c)) (h0 : I [] f0 w) (a₁ : α → Act)
    (hassign : ∀ (l : Nat) (x : α) (W : World) (K : Act → World → Prop), K (a₁ x) W →
      assign.wpIn (F.inRound l) (n - 1 - 1) P (Exit.then K (fun _ _ _ => False)) { tmps := (ps.zip (encs x)).foldl (fun t (p, v) => t.setIfInBounds p v) a.tmps, defers := [] } W)
    (hbody : ∀ (l : Nat) (pre : List α) (x : α) (f : Nat → Prop) (W : World), (∀ k, f k → f0 k ∨ (w.heap.size + 2 ≤ k ∧ k < W.heap.size)) → w.heap.size + 2 ≤ W.heap.size → I pre f W → pre.length < N → El x W →
      body.wpIn (F.inRound l) (n - 1 - 1) P (postP w.heap.size I Ix f (pre ++ [x]) W) (a₁ x) W)
    (hdone : ∀ (D : Nat) (xs : List α) (f : Nat → Prop) (W : World), w.heap.size ≤ D → S xs → I xs f W → W.heap[D]? = some (.deferred (some [])) → Q .normal { a with defers := { target := .collected D, args := #[] } :: a.defers } W)
    (hstop : ∀ (D : Nat) (c : Code) (pre : List α) (f : Nat → Prop) (W : World), w.heap.size ≤ D → Sp pre → Ix c pre f W → W.heap[D]? = some (.deferred (some [])) → c.wpIn F n P Q { a with defers := { target := .collected D, args := #[] } :: a.defers } W) :
    (Code.rangeFunc g ps assign body).wpIn F n P Q a w := by
  refine wpIn_rangeFunc fun fn hfn => ?_
  rw [hro]
  -- the record as it looks in a state
  let rec' : LoopState → Option Code → Obj := fun st pe => .loop { state := st, pending := pe, fn, tmps := a.tmps, params := ps, assign, body, defers := w.heap.size }
  generalize hW1 : (w.alloc (.deferred (some []))).alloc (rec' .ready none) = W1
  have hs1 : W1.heap.size = w.heap.size + 2 := by rw [← hW1]; simp
  have hb1 : Below w.heap.size w W1 := by rw [← hW1]; exact ((Below.refl _ w).alloc (Nat.le_refl _) _).alloc (by simp) _
  have hD1 : W1.heap[w.heap.size]? = some (.deferred (some [])) := by
    rw [← hW1, Below.heap_alloc _ _ _ (by simp)]; exact World.alloc_heap_new w _
  have hL1 : W1.heap[w.heap.size + 1]? = some (rec' .ready none) := by
    have := World.alloc_heap_new (w.alloc (.deferred (some []))) (rec' .ready none)
    rw [World.size_alloc] at this
    rw [← hW1]; exact this
  refine ⟨w.heap.size + 1, [{ target := .collected w.heap.size, args := #[] }], W1, { target := .fn (.func gf) lb, args := #[.func (.yield (w.heap.size + 1)) #[] #[]] }, W1, gf,
    #[.func (.yield (w.heap.size + 1)) #[] #[]] ++ lb, W1, ?_, ?_, ?_, ?_, fun _ => h1, ?_⟩
  · rw [← hW1]; exact run_enterLoop_outer _ _ _ _ _
  · simp only [resolve, hg]
    simp [go_sem]
  · intro f' hf'
    simp [Target.leads] at hf'
    subst hf'
    exact hFg
  · simp [invoke, go_sem, eg]
  have hfs : ∀ k, f0 k → k < w.heap.size := fun k hk => (hf0 k hk).1
  have lift : ∀ {β : Type} (K : β → (Nat → Prop) → World → Prop) (L : Obj), L.isCells = false → AbP w.heap.size K →
      AbP W1.heap.size (fun s f W => K s f W ∧ (∀ k, f k → f0 k ∨ (w.heap.size + 2 ≤ k ∧ k < W.heap.size)) ∧ W.heap[w.heap.size + 1]? = some L ∧ W.heap[w.heap.size]? = some (.deferred (some []))) := by
    intro β K L hL hK s f f' A B hs ht hf
    refine ⟨hK s f f' A B hs.1 (ht.mono (by omega)) hf, fun k hk => ?_, ht.block _ _ hs.2.2.1 (.inl (by omega)), ht.block _ _ hs.2.2.2 (.inl (by omega))⟩
    have hAs : w.heap.size + 1 < A.heap.size := (Array.getElem?_eq_some_iff.1 hs.2.2.1).1
    have hsz := ht.size
    rcases hf k hk with h | h
    · rcases hs.2.1 k h with h | h
      · exact .inl h
      · exact .inr ⟨h.1, by omega⟩
    · exact .inr ⟨by omega, h.2⟩
  refine (hseq (w.heap.size + 1)
    (fun s f W => I s f W ∧ (∀ k, f k → f0 k ∨ (w.heap.size + 2 ≤ k ∧ k < W.heap.size)) ∧ W.heap[w.heap.size + 1]? = some (rec' .ready none) ∧ W.heap[w.heap.size]? = some (.deferred (some [])))
    (fun s f W => ∃ c, Ix c s f W ∧ (∀ k, f k → f0 k ∨ (w.heap.size + 2 ≤ k ∧ k < W.heap.size)) ∧ W.heap[w.heap.size + 1]? = some (rec' .done (some c)) ∧ W.heap[w.heap.size]? = some (.deferred (some [])))
    W1 (by omega) (fun k hk => (hb1.block k (hfs k hk)).trans (hf0 k hk).2) (lift I _ rfl hI)
    (fun s f f' A B hs ht hf => hs.elim fun c hc => ⟨c, lift (Ix c) _ rfl (hIx c) s f f' A B hc ht hf⟩) ?_
    ⟨hI [] f0 f0 w W1 h0 (Turn.of_below hb1) (fun _ h => .inl h), fun k h => .inl h, hL1, hD1⟩).mono ?_
  · -- one round
    rintro pre x f W ⟨hi, hf, hl, hk⟩ hlen hel
    have hlt : w.heap.size + 1 < W.heap.size := (Array.getElem?_eq_some_iff.1 hl).1
    have hy := run_yield (P := P) (args := encs x) hl (hps x)
    refine ⟨fn, _, assign, body, hy, roundIn_of_wpIn hfn (hassign _ x W _ ⟨_, run_beginRound hl rfl, ?_⟩)⟩
    generalize hWb : W.putObj (w.heap.size + 1) (rec' .busy none) = Wb
    have hlb : Wb.heap[w.heap.size + 1]? = some (rec' .busy none) := by rw [← hWb]; exact World.putObj_heap_same hlt
    have hkb : Wb.heap[w.heap.size]? = some (.deferred (some [])) := by rw [← hWb]; exact (World.putObj_heap_other (by omega)).trans hk
    have hsb : Wb.heap.size = W.heap.size := by rw [← hWb]; simp
    have hib : I pre f Wb := by rw [← hWb]; exact hI.put _ hi (by omega) hl rfl
    have put_rk : ∀ (X : World) (o' : Obj), Rk W1.heap.size f X (X.putObj (w.heap.size + 1) o') := fun X o' =>
      ⟨⟨rfl, rfl, rfl, by simp, fun k hk => by omega⟩, ⟨by simp, fun k o hk ho _ => (World.putObj_heap_other (by omega)).trans ho⟩, fun k hk => World.putObj_heap_other (by
        rcases hf k hk with h | h
        · have := hfs k h; omega
        · omega)⟩
    have hrb : Rk W1.heap.size f W Wb := by rw [← hWb]; exact put_rk W _
    have helb : El x Wb := by rw [← hWb]; exact hEl x W _ _ _ (by omega) hl rfl hel
    refine wpIn_mono (hbody _ pre x f Wb (fun k hk => by rw [hsb]; exact hf k hk) (by omega) hib hlen helb) ?_
    have ends : ∀ (jump : Option Code) (W3 : World), KeepsFrom w.heap.size Wb W3 → ∃ W4, W4 = W3.putObj (w.heap.size + 1) (rec' (if jump.isNone then .ready else .done) jump) ∧
        (Instr.endRound (w.heap.size + 1) jump).run P W3 = .ok (.bool jump.isNone) W4 ∧ W3.heap[w.heap.size + 1]? = some (rec' .busy none) ∧
        W4.heap[w.heap.size + 1]? = some (rec' (if jump.isNone then .ready else .done) jump) ∧ W4.heap[w.heap.size]? = some (.deferred (some [])) ∧ (∀ k, f k → f0 k ∨ (w.heap.size + 2 ≤ k ∧ k < W4.heap.size)) := by
      intro jump W3 hk3
      have hl3 := hk3.same _ _ (by omega) hlb rfl
      have hsz3 := hk3.size
      refine ⟨_, rfl, run_endRound (P := P) jump hl3, hl3, World.putObj_heap_same (Array.getElem?_eq_some_iff.1 hl3).1, (World.putObj_heap_other (by omega)).trans (hk3.same _ _ (Nat.le_refl _) hkb rfl), fun k hk => ?_⟩
      rcases hf k hk with h | h
      · exact .inl h
      · exact .inr ⟨h.1, by simp; omega⟩
    have jx : ∀ (c : Code) (W3 : World), KeepsFrom w.heap.size Wb W3 → Ix c (pre ++ [x]) f W3 → ∃ v W4, (Instr.endRound (w.heap.size + 1) (some c)).run P W3 = .ok v W4 ∧
        ((Ending.returned v = .returned (.bool true) ∧ (I (pre ++ [x]) f W4 ∧ (∀ k, f k → f0 k ∨ (w.heap.size + 2 ≤ k ∧ k < W4.heap.size)) ∧ W4.heap[w.heap.size + 1]? = some (rec' .ready none) ∧ W4.heap[w.heap.size]? = some (.deferred (some []))) ∧ Rk W1.heap.size f W W4) ∨
         (Ending.returned v = .returned (.bool false) ∧ (∃ c, Ix c (pre ++ [x]) f W4 ∧ (∀ k, f k → f0 k ∨ (w.heap.size + 2 ≤ k ∧ k < W4.heap.size)) ∧ W4.heap[w.heap.size + 1]? = some (rec' .done (some c)) ∧ W4.heap[w.heap.size]? = some (.deferred (some []))) ∧ KeepsFrom W1.heap.size W W4)) := by
      intro c W3 hk3 hx3
      obtain ⟨W4, e4, hr, hl3, hl4, hk4, hf4⟩ := ends (some c) W3 hk3
      refine ⟨_, W4, hr, .inr ⟨rfl, ⟨c, ?_, hf4, hl4, hk4⟩, ?_⟩⟩
      · rw [e4]
        exact (hIx c).put _ hx3 (by omega) hl3 rfl
      · rw [e4]
        exact (hrb.keeps.trans ⟨hk3.size, fun k o hk ho hc => hk3.same k o (by omega) ho hc⟩).trans (put_rk W3 _).keeps
    intro e a3 W3 hp
    cases e with
    | normal =>
      obtain ⟨hr3, hi3⟩ := hp
      obtain ⟨W4, e4, hr, hl3, hl4, hk4, hf4⟩ := ends none W3 hr3.keeps
      refine ⟨_, W4, hr, .inl ⟨rfl, ⟨?_, hf4, hl4, hk4⟩, ?_⟩⟩
      · rw [e4]; exact hI.put _ hi3 (by omega) hl3 rfl
      · have h2 : Rk W1.heap.size f Wb W3 := ⟨hr3.below, ⟨hr3.keeps.size, fun k o hk ho hc => hr3.keeps.same k o (by omega) ho hc⟩, hr3.mine⟩
        rw [e4]
        exact (hrb.trans h2).trans (put_rk W3 _)
    | ret => exact jx .ret W3 hp.1 hp.2
    | exit id => exact jx (.exit id) W3 hp.1 hp.2
    | goto t => exact jx (.goto t) W3 hp.1 hp.2
    | panic ch => exact hp.elim
    | outgrown => exact hp.elim
  · -- behind the iterator
    rintro e W2 ⟨⟨v, rfl⟩, (⟨xs, f, hS, hi, hf, hl, hk⟩ | ⟨pre, f, hSp, c, hi, hf, hl, hk⟩)⟩
    · exact ⟨none, _, run_endLoop (P := P) hl (fun h => by cases h), hdone _ xs f _ (Nat.le_refl _) hS (hI.put _ hi (by omega) hl rfl) ((World.putObj_heap_other (by omega)).trans hk)⟩
    · exact ⟨some c, _, run_endLoop (P := P) hl (fun h => by cases h), hstop _ c pre f _ (Nat.le_refl _) hSp ((hIx c).put _ hi (by omega) hl rfl) ((World.putObj_heap_other (by omega)).trans hk)⟩
end Go.Proofs.YtaijiapolippaaaDoor

namespace Go.Proofs.YtaijiapolippaaaDoor
open Go.RowKit
set_option linter.unusedVariables false

/-- The same contract, what holds of an element speaking of the world. -/
def SeqF {α : Type} (F : Fence) (n : Nat) (P : Program) (g : Nat) (lb : Array Value) (encs : α → Array Value) (f0 : Nat → Prop) (El : α → (Nat → Prop) → World → Prop) (S Sp : List α → Prop) (N : Nat) (w : World) : Prop :=
  ∀ (l : Nat) (J Jx : List α → (Nat → Prop) → World → Prop) (W : World), w.heap.size ≤ W.heap.size → (∀ k, f0 k → W.heap[k]? = w.heap[k]?) → AbP W.heap.size J → AbP W.heap.size Jx →
    (∀ pre x f W1, J pre f W1 → pre.length < N → El x f W1 → YieldAt F (n - 1) P l (encs x) W1 fun e W' =>
      (e = .returned (.bool true) ∧ J (pre ++ [x]) f W' ∧ Rk W.heap.size f W1 W') ∨ (e = .returned (.bool false) ∧ Jx (pre ++ [x]) f W' ∧ KeepsFrom W.heap.size W1 W')) →
    J [] f0 W →
    CallsIn F n P g (#[.func (.yield l) #[] #[]] ++ lb) W fun e W' => (∃ v, e = .returned v) ∧ ((∃ xs f, S xs ∧ J xs f W') ∨ (∃ pre f, Sp pre ∧ Jx pre f W'))

variable {F : Fence} {n : Nat} {P : Program}

/-- The range over such an iterator, where no round is under way. -/
theorem range_f {α : Type} {g : Operand} {ps : Array Tmp} {assign body : Code} {Q : Exit → Act → World → Prop} {a : Act} {w : World}
    (hro : F.round = none) (h1 : 1 ≤ n) {gf : Nat} {lb : Array Value} (hg : a.eval g = .func (.func gf) #[] lb) (hFg : F.fn gf) (eg : ∀ args w, (callFunc gf args).run P w = .ok (.enter gf args) w)
    {encs : α → Array Value} {f0 : Nat → Prop} {El : α → (Nat → Prop) → World → Prop} {S Sp : List α → Prop} {N : Nat} {w0 : World} (hseq : SeqF F (n - 1) P gf lb encs f0 El S Sp N w0)
    (hw0 : w0.heap.size ≤ w.heap.size) (hf0 : ∀ k, f0 k → k < w.heap.size ∧ w.heap[k]? = w0.heap[k]?) (hps : ∀ x, (encs x).size = ps.size) (hEl : ∀ x f W l o o', w.heap.size ≤ l → W.heap[l]? = some o → o.isCells = false → El x f W → El x f (W.putObj l o'))
    (I : List α → (Nat → Prop) → World → Prop) (Ix : Code → List α → (Nat → Prop) → World → Prop) (hI : AbP w.heap.size I) (hIx : ∀ c, AbP w.heap.size (Ix c)) (h0 : I [] f0 w) (a₁ : α → Act)
    (hassign : ∀ (l : Nat) (x : α) (W : World) (K : Act → World → Prop), K (a₁ x) W →
      assign.wpIn (F.inRound l) (n - 1 - 1) P (Exit.then K (fun _ _ _ => False)) { tmps := (ps.zip (encs x)).foldl (fun t (p, v) => t.setIfInBounds p v) a.tmps, defers := [] } W)
    (hbody : ∀ (l : Nat) (pre : List α) (x : α) (f : Nat → Prop) (W : World), (∀ k, f k → f0 k ∨ (w.heap.size + 2 ≤ k ∧ k < W.heap.size)) → w.heap.size + 2 ≤ W.heap.size → I pre f W → pre.length < N → El x f W →
      body.wpIn (F.inRound l) (n - 1 - 1) P (postP w.heap.size I Ix f (pre ++ [x]) W) (a₁ x) W)
    (hdone : ∀ (D : Nat) (xs : List α) (f : Nat → Prop) (W : World), w.heap.size ≤ D → S xs → I xs f W → W.heap[D]? = some (.deferred (some [])) → Q .normal { a with defers := { target := .collected D, args := #[] } :: a.defers } W)
    (hstop : ∀ (D : Nat) (c : Code) (pre : List α) (f : Nat → Prop) (W : World), w.heap.size ≤ D → Sp pre → Ix c pre f W → W.heap[D]? = some (.deferred (some [])) → c.wpIn F n P Q { a with defers := { target := .collected D, args := #[] } :: a.defers } W) :
    (Code.rangeFunc g ps assign body).wpIn F n P Q a w := by
  refine wpIn_rangeFunc fun fn hfn => ?_
  rw [hro]
  -- the record as it looks in a state
  let rec' : LoopState → Option Code → Obj := fun st pe => .loop { state := st, pending := pe, fn, tmps := a.tmps, params := ps, assign, body, defers := w.heap.size }
  generalize hW1 : (w.alloc (.deferred (some []))).alloc (rec' .ready none) = W1
  have hs1 : W1.heap.size = w.heap.size + 2 := by rw [← hW1]; simp
  have hb1 : Below w.heap.size w W1 := by rw [← hW1]; exact ((Below.refl _ w).alloc (Nat.le_refl _) _).alloc (by simp) _
  have hD1 : W1.heap[w.heap.size]? = some (.deferred (some [])) := by
    rw [← hW1, Below.heap_alloc _ _ _ (by simp)]; exact World.alloc_heap_new w _
  have hL1 : W1.heap[w.heap.size + 1]? = some (rec' .ready none) := by
    have := World.alloc_heap_new (w.alloc (.deferred (some []))) (rec' .ready none)
    rw [World.size_alloc] at this
    rw [← hW1]; exact this
  refine ⟨w.heap.size + 1, [{ target := .collected w.heap.size, args := #[] }], W1, { target := .fn (.func gf) lb, args := #[.func (.yield (w.heap.size + 1)) #[] #[]] }, W1, gf,
    #[.func (.yield (w.heap.size + 1)) #[] #[]] ++ lb, W1, ?_, ?_, ?_, ?_, fun _ => h1, ?_⟩
  · rw [← hW1]; exact run_enterLoop_outer _ _ _ _ _
  · simp only [resolve, hg]
    simp [go_sem]
  · intro f' hf'
    simp [Target.leads] at hf'
    subst hf'
    exact hFg
  · simp [invoke, go_sem, eg]
  have hfs : ∀ k, f0 k → k < w.heap.size := fun k hk => (hf0 k hk).1
  have lift : ∀ {β : Type} (K : β → (Nat → Prop) → World → Prop) (L : Obj), L.isCells = false → AbP w.heap.size K →
      AbP W1.heap.size (fun s f W => K s f W ∧ (∀ k, f k → f0 k ∨ (w.heap.size + 2 ≤ k ∧ k < W.heap.size)) ∧ W.heap[w.heap.size + 1]? = some L ∧ W.heap[w.heap.size]? = some (.deferred (some []))) := by
    intro β K L hL hK s f f' A B hs ht hf
    refine ⟨hK s f f' A B hs.1 (ht.mono (by omega)) hf, fun k hk => ?_, ht.block _ _ hs.2.2.1 (.inl (by omega)), ht.block _ _ hs.2.2.2 (.inl (by omega))⟩
    have hAs : w.heap.size + 1 < A.heap.size := (Array.getElem?_eq_some_iff.1 hs.2.2.1).1
    have hsz := ht.size
    rcases hf k hk with h | h
    · rcases hs.2.1 k h with h | h
      · exact .inl h
      · exact .inr ⟨h.1, by omega⟩
    · exact .inr ⟨by omega, h.2⟩
  refine (hseq (w.heap.size + 1)
    (fun s f W => I s f W ∧ (∀ k, f k → f0 k ∨ (w.heap.size + 2 ≤ k ∧ k < W.heap.size)) ∧ W.heap[w.heap.size + 1]? = some (rec' .ready none) ∧ W.heap[w.heap.size]? = some (.deferred (some [])))
    (fun s f W => ∃ c, Ix c s f W ∧ (∀ k, f k → f0 k ∨ (w.heap.size + 2 ≤ k ∧ k < W.heap.size)) ∧ W.heap[w.heap.size + 1]? = some (rec' .done (some c)) ∧ W.heap[w.heap.size]? = some (.deferred (some [])))
    W1 (by omega) (fun k hk => (hb1.block k (hfs k hk)).trans (hf0 k hk).2) (lift I _ rfl hI)
    (fun s f f' A B hs ht hf => hs.elim fun c hc => ⟨c, lift (Ix c) _ rfl (hIx c) s f f' A B hc ht hf⟩) ?_
    ⟨hI [] f0 f0 w W1 h0 (Turn.of_below hb1) (fun _ h => .inl h), fun k h => .inl h, hL1, hD1⟩).mono ?_
  · -- one round
    rintro pre x f W ⟨hi, hf, hl, hk⟩ hlen hel
    have hlt : w.heap.size + 1 < W.heap.size := (Array.getElem?_eq_some_iff.1 hl).1
    have hy := run_yield (P := P) (args := encs x) hl (hps x)
    refine ⟨fn, _, assign, body, hy, roundIn_of_wpIn hfn (hassign _ x W _ ⟨_, run_beginRound hl rfl, ?_⟩)⟩
    generalize hWb : W.putObj (w.heap.size + 1) (rec' .busy none) = Wb
    have hlb : Wb.heap[w.heap.size + 1]? = some (rec' .busy none) := by rw [← hWb]; exact World.putObj_heap_same hlt
    have hkb : Wb.heap[w.heap.size]? = some (.deferred (some [])) := by rw [← hWb]; exact (World.putObj_heap_other (by omega)).trans hk
    have hsb : Wb.heap.size = W.heap.size := by rw [← hWb]; simp
    have hib : I pre f Wb := by rw [← hWb]; exact hI.put _ hi (by omega) hl rfl
    have put_rk : ∀ (X : World) (o' : Obj), Rk W1.heap.size f X (X.putObj (w.heap.size + 1) o') := fun X o' =>
      ⟨⟨rfl, rfl, rfl, by simp, fun k hk => by omega⟩, ⟨by simp, fun k o hk ho _ => (World.putObj_heap_other (by omega)).trans ho⟩, fun k hk => World.putObj_heap_other (by
        rcases hf k hk with h | h
        · have := hfs k h; omega
        · omega)⟩
    have hrb : Rk W1.heap.size f W Wb := by rw [← hWb]; exact put_rk W _
    have helb : El x f Wb := by rw [← hWb]; exact hEl x f W _ _ _ (by omega) hl rfl hel
    refine wpIn_mono (hbody _ pre x f Wb (fun k hk => by rw [hsb]; exact hf k hk) (by omega) hib hlen helb) ?_
    have ends : ∀ (jump : Option Code) (W3 : World), KeepsFrom w.heap.size Wb W3 → ∃ W4, W4 = W3.putObj (w.heap.size + 1) (rec' (if jump.isNone then .ready else .done) jump) ∧
        (Instr.endRound (w.heap.size + 1) jump).run P W3 = .ok (.bool jump.isNone) W4 ∧ W3.heap[w.heap.size + 1]? = some (rec' .busy none) ∧
        W4.heap[w.heap.size + 1]? = some (rec' (if jump.isNone then .ready else .done) jump) ∧ W4.heap[w.heap.size]? = some (.deferred (some [])) ∧ (∀ k, f k → f0 k ∨ (w.heap.size + 2 ≤ k ∧ k < W4.heap.size)) := by
      intro jump W3 hk3
      have hl3 := hk3.same _ _ (by omega) hlb rfl
      have hsz3 := hk3.size
      refine ⟨_, rfl, run_endRound (P := P) jump hl3, hl3, World.putObj_heap_same (Array.getElem?_eq_some_iff.1 hl3).1, (World.putObj_heap_other (by omega)).trans (hk3.same _ _ (Nat.le_refl _) hkb rfl), fun k hk => ?_⟩
      rcases hf k hk with h | h
      · exact .inl h
      · exact .inr ⟨h.1, by simp; omega⟩
    have jx : ∀ (c : Code) (W3 : World), KeepsFrom w.heap.size Wb W3 → Ix c (pre ++ [x]) f W3 → ∃ v W4, (Instr.endRound (w.heap.size + 1) (some c)).run P W3 = .ok v W4 ∧
        ((Ending.returned v = .returned (.bool true) ∧ (I (pre ++ [x]) f W4 ∧ (∀ k, f k → f0 k ∨ (w.heap.size + 2 ≤ k ∧ k < W4.heap.size)) ∧ W4.heap[w.heap.size + 1]? = some (rec' .ready none) ∧ W4.heap[w.heap.size]? = some (.deferred (some []))) ∧ Rk W1.heap.size f W W4) ∨
         (Ending.returned v = .returned (.bool false) ∧ (∃ c, Ix c (pre ++ [x]) f W4 ∧ (∀ k, f k → f0 k ∨ (w.heap.size + 2 ≤ k ∧ k < W4.heap.size)) ∧ W4.heap[w.heap.size + 1]? = some (rec' .done (some c)) ∧ W4.heap[w.heap.size]? = some (.deferred (some []))) ∧ KeepsFrom W1.heap.size W W4)) := by
      intro c W3 hk3 hx3
      obtain ⟨W4, e4, hr, hl3, hl4, hk4, hf4⟩ := ends (some c) W3 hk3
      refine ⟨_, W4, hr, .inr ⟨rfl, ⟨c, ?_, hf4, hl4, hk4⟩, ?_⟩⟩
      · rw [e4]
        exact (hIx c).put _ hx3 (by omega) hl3 rfl
      · rw [e4]
        exact (hrb.keeps.trans ⟨hk3.size, fun k o hk ho hc => hk3.same k o (by omega) ho hc⟩).trans (put_rk W3 _).keeps
    intro e a3 W3 hp
    cases e with
    | normal =>
      obtain ⟨hr3, hi3⟩ := hp
      obtain ⟨W4, e4, hr, hl3, hl4, hk4, hf4⟩ := ends none W3 hr3.keeps
      refine ⟨_, W4, hr, .inl ⟨rfl, ⟨?_, hf4, hl4, hk4⟩, ?_⟩⟩
      · rw [e4]; exact hI.put _ hi3 (by omega) hl3 rfl
      · have h2 : Rk W1.heap.size f Wb W3 := ⟨hr3.below, ⟨hr3.keeps.size, fun k o hk ho hc => hr3.keeps.same k o (by omega) ho hc⟩, hr3.mine⟩
        rw [e4]
        exact (hrb.trans h2).trans (put_rk W3 _)
    | ret => exact jx .ret W3 hp.1 hp.2
    | exit id => exact jx (.exit id) W3 hp.1 hp.2
    | goto t => exact jx (.goto t) W3 hp.1 hp.2
    | panic ch => exact hp.elim
    | outgrown => exact hp.elim
  · -- behind the iterator
    rintro e W2 ⟨⟨v, rfl⟩, (⟨xs, f, hS, hi, hf, hl, hk⟩ | ⟨pre, f, hSp, c, hi, hf, hl, hk⟩)⟩
    · exact ⟨none, _, run_endLoop (P := P) hl (fun h => by cases h), hdone _ xs f _ (Nat.le_refl _) hS (hI.put _ hi (by omega) hl rfl) ((World.putObj_heap_other (by omega)).trans hk)⟩
    · exact ⟨some c, _, run_endLoop (P := P) hl (fun h => by cases h), hstop _ c pre f _ (Nat.le_refl _) hSp ((hIx c).put _ hi (by omega) hl rfl) ((World.putObj_heap_other (by omega)).trans hk)⟩
end Go.Proofs.YtaijiapolippaaaDoor

namespace Go.Proofs.YtaijiapolippaaaDoor
open Go.RowKit Go.Shelf
attribute [local go_sem] Oper.semAt_some
set_option linter.unusedVariables false
set_option linter.unusedSimpArgs false

theorem YieldAt.deepG {m : Nat} (m' : Nat) {P : Program} {l : Nat} {args : Array Value} {W : World} {R : Ending → World → Prop} (h : YieldAt Fence.wide m P l args W R) : YieldAt Fence.wide m' P l args W R := by
  obtain ⟨fn, tmps, assign, body, hy, hR⟩ := h
  exact ⟨fn, tmps, assign, body, hy, hR.1, fun c cs _ => hR.2 c cs (fun d h => by cases h)⟩
theorem RoundIn.inRG {F : Fence} {m : Nat} {P : Program} {l : Nat} {f : FuncId} {tmps : Array Value} {assign body : Code} {w : World} {R : Ending → World → Prop} (l' : Nat) (h : RoundIn F m P l f tmps assign body w R) : RoundIn (F.inRound l') m P l f tmps assign body w R := h

theorem GrAt.same {w w' : World} {lo g rb W : Nat} {bs : List Nat} {L : List (List Cl)} (h : GrAt w lo g rb bs W L) (he : ∀ k, GrOwn g rb bs k → w'.heap[k]? = w.heap[k]?) : GrAt w' lo g rb bs W L :=
  ⟨(he _ (.inl rfl)).trans h.head, (he _ (.inr (.inl rfl))).trans h.rows, h.len, h.nd, fun i b hb => by
    obtain ⟨l, h1, h2, h3, h4⟩ := h.row i b hb
    exact ⟨l, h1, h2, h3, (he _ (.inr (.inr (List.mem_of_getElem? hb)))).trans h4⟩, h.lo, h.w1, h.w5, h.h1, h.h5⟩

def encF (W : Nat) (bs : List Nat) (i : Fin bs.length) : Array Value := #[.int .i64 (i.val : Int), rowV W bs[i.val]]
theorem fin_get (n k : Nat) (h : k < n) : (List.finRange n)[k]? = some ⟨k, h⟩ := by
  rw [List.getElem?_eq_getElem (by simpa using h)]
  simp
/-- so far as is told -/
theorem fin_take (n k : Nat) (h : k < n) : (List.finRange n).take (k + 1) = (List.finRange n).take k ++ [⟨k, h⟩] := by
  rw [List.take_add_one, fin_get n k h]
  rfl
def KpF (f0 : Nat → Prop) (A B : World) : Prop := ∀ j, f0 j → B.heap[j]? = A.heap[j]?

set_option maxRecDepth 100000 in
set_option maxHeartbeats 4000000 in
theorem lines_keeps (B g rb WW : Nat) (bs : List Nat) (h5 : bs.length ≤ 500) (f0 : Nat → Prop) (w : World) (hB : w.cell? ⟨B, 0, none⟩ = some (.pointer (some ⟨g, 0, none⟩))) (hg : w.cell? ⟨g, 0, none⟩ = some (.pointer (some ⟨g, 0, none⟩)))
    (hs : w.cell? ⟨g, 1, none⟩ = some (.slice (some ⟨rb, 0, none⟩) bs.length bs.length)) (hr : ∀ (k b : Nat), bs[k]? = some b → w.cell? ⟨rb, k, none⟩ = some (rowV WW b))
    (f1 : f0 B) (f2 : f0 g) (f3 : f0 rb) (hlt : ∀ k, f0 k → k < w.heap.size) :
    SeqStopsK Fence.wide 7 Tryd.prog 188 #[.pointer (some ⟨B, 0, none⟩)] (encF WW bs) (KpF f0) (fun ys => ys = List.finRange bs.length) (fun pre => pre <+: List.finRange bs.length) bs.length w := by
  intro l J Jx W hW hJ hJx hY h0
  have hfacts : ∀ wr : World, (∀ j, f0 j → wr.heap[j]? = W.heap[j]?) → wr.cell? ⟨B, 0, none⟩ = some (.pointer (some ⟨g, 0, none⟩)) ∧ wr.cell? ⟨g, 0, none⟩ = some (.pointer (some ⟨g, 0, none⟩)) ∧
      wr.cell? ⟨g, 1, none⟩ = some (.slice (some ⟨rb, 0, none⟩) bs.length bs.length) ∧ ∀ (k b : Nat), bs[k]? = some b → wr.cell? ⟨rb, k, none⟩ = some (rowV WW b) := fun wr h => by
    have e : ∀ b o v, f0 b → w.cell? ⟨b, o, none⟩ = some v → wr.cell? ⟨b, o, none⟩ = some v := fun b o v hb hv =>
      (World.cell?_of_block (w := w) (a := ⟨b, o, none⟩) ((h b hb).trans (hW.block b (hlt b hb)))).trans hv
    exact ⟨e _ _ _ f1 hB, e _ _ _ f2 hg, e _ _ _ f2 hs, fun k b hb => e _ _ _ f3 (hr k b hb)⟩
  have HF := Lib.hid hfacts
  have HY := Lib.hid hY
  have H0 := Lib.hid h0
  clear hfacts hY h0 hJ hJx hB hg hs hr f1 f2 f3 hW hlt
  refine callsIn_of_wp Tryd.func188 rfl trivial ?_ rfl
  simp only [Tryd.ntmps188, List.size_toArray, List.length_cons, List.length_nil, Nat.reduceAdd, Nat.reduceSub, Array.replicate_succ, Array.replicate_zero, List.push_toArray, List.append_toArray, List.nil_append, List.cons_append]
  obtain ⟨c1, c2, c3, c4⟩ := HF.out W (fun _ _ => rfl)
  gi_wp2_with (refine ⟨trivial, ?_⟩; gi_at_call 149; refine (callsIn_wide.2 (made_yes g _ c2)).mono ?_; rintro e w' ⟨rfl, rfl⟩)
  clear c1 c2 c3 c4
  gi_loopw [13] (fun v13 wr => ∃ k : Nat, v13 = .int .i64 k ∧ k ≤ bs.length ∧ J ((List.finRange bs.length).take k) wr ∧ (∀ j, f0 j → wr.heap[j]? = W.heap[j]?)) (fun v13 _ => bs.length - (intOf v13).toNat)
  case atStart => exact ⟨0, rfl, by omega, H0.out, fun _ _ => rfl⟩
  case round =>
    obtain ⟨k, rfl, hk, hj, hf⟩ := hrel
    have HJp := Lib.hid hj
    have HFF := Lib.hid hf
    clear hj hf
    by_cases hlt : k < bs.length
    · have hki : (k : Int) < bs.length := by omega
      have hb : bs[k]? = some bs[k] := List.getElem?_eq_getElem hlt
      obtain ⟨c1, c2, c3, c4⟩ := HF.out _ HFF.out
      have hrow := c4 k _ hb
      have htk := fin_take bs.length k hlt
      have hlk : ((List.finRange bs.length).take k).length < bs.length := by rw [List.length_take, List.length_finRange]; omega
      have hyy := HY.out _ ⟨k, hlt⟩ _ HJp.out hlk
      have HTK := Lib.hid htk
      have HPX : Hid ((List.finRange bs.length).take k ++ [⟨k, hlt⟩] <+: List.finRange bs.length) := by show _ <+: _; rw [← htk]; exact List.take_prefix _ _
      obtain ⟨fn, tmps, assign, body, hy, hR⟩ := hyy
      simp only [encF, rowV] at hy
      unfold rowV at hrow
      clear c4 htk hlk hb
      gi_wp2
      refine hR.mono ?_
      rintro e W3 (⟨rfl, hJ3, hk3⟩ | ⟨rfl, hJ3⟩)
      · have hJ4 : J ((List.finRange bs.length).take (k + 1)) W3 := by rw [HTK.out]; exact hJ3
        have hf4 : ∀ j, f0 j → W3.heap[j]? = W.heap[j]? := fun j hj => (hk3 j hj).trans (HFF.out j hj)
        gi_wp2
        exact ⟨⟨k + 1, by go_num, by omega, hJ4, hf4⟩, by simp only [intOf]; omega⟩
      · gi_wp2
        refine bodyPost_ret (results_none rfl _ _ _) rfl ?_
        exact ⟨⟨_, rfl⟩, .inr ⟨_, HPX.out, hJ3⟩⟩
    · have hki : ¬ (k : Int) < bs.length := by omega
      have hfin := HJp.out
      rw [List.take_of_length_le (by rw [List.length_finRange]; omega)] at hfin
      gi_wp2
      go_end0
      first | exact ⟨⟨_, rfl⟩, .inl hfin⟩ | exact ⟨⟨_, rfl⟩, .inl ⟨_, rfl, hfin⟩⟩

set_option maxHeartbeats 400000 in
theorem rows_any {w : World} {lo g rb W : Nat} {bs : List Nat} {L : List (List Cl)} (h : GrAt w lo g rb bs W L) (hT : BlankT w) :
    Calls Tryd.prog 114 #[.pointer (some ⟨g, 0, none⟩)] w fun e w' => ∃ B g2 rb2 bs2, e = .returned (.func (.func 153) #[] #[.pointer (some ⟨B, 0, none⟩)]) ∧
      Boxed w' B 162 (.pointer (some ⟨g2, 0, none⟩)) ∧ GrAt w' w.heap.size g2 rb2 bs2 W L ∧ Below w.heap.size w w' ∧ w.heap.size ≤ B := by
  have H := Lib.hid h
  have HT := Lib.hid hT
  clear h hT
  go_enter Tryd.func114, Tryd.ntmps114
  go_wp2_with (fail)
  refine (fork_any H.out HT.out).mono ?_
  rintro e w1 ⟨g2, rb2, bs2, rfl, hg, hb⟩
  have HG := Lib.hid hg
  have HB := Lib.hid hb
  clear hg hb
  go_wp2_with (fail)
  go_ret
  exact ⟨_, g2, rb2, bs2, rfl, Boxed.new _ _ _, HG.out.below ((Below.refl _ _).alloc (Nat.le_refl _) _), HB.out.alloc HB.out.size _, HB.out.size⟩
end Go.Proofs.YtaijiapolippaaaDoor

