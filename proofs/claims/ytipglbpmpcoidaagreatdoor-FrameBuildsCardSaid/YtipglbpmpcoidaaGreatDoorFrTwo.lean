/-
  The program's builder and the document's, side by side.
-/
import Derived.Test.YtipglbpmpcoidaaGreatDoorFrAwake
import Derived.Test.YtipglbpmpcoidaaGreatDoorFrFill
import Derived.Test.YtipglbpmpcoidaaGreatDoorFrRefX
import Derived.Test.YtipglbpmpcoidaaGreatDoorFrRefF
import Derived.Test.YtipglbpmpcoidaaGreatDoorFrRefS
import Derived.Test.YtipglbpmpcoidaaGreatDoorFrCheck
import Derived.Test.YtipglbpmpcoidaaGreatDoorLawOps9
namespace Go.Proofs.YtipglbpmpcoidaaGreatDoor
open Go.RowKit
set_option linter.unusedVariables false
set_option linter.unusedSimpArgs false

theorem fbs_short {L : List (List Cl)} {W : Nat} (hq : Rws W L) : ∀ l ∈ L, l.length ≤ 100000 ∧ ∀ x ∈ l, x.s.length ≤ 1000000 := by
  intro l hl
  obtain ⟨i, hi, he⟩ := List.getElem_of_mem hl
  obtain ⟨h1, h2⟩ := hq.wd i l (by rw [List.getElem?_eq_getElem hi, he])
  have := hq.w5
  refine ⟨by omega, fun x hx => ?_⟩
  obtain ⟨k, hk, hke⟩ := List.getElem_of_mem hx
  have := h2.short k x (by rw [List.getElem?_eq_getElem hk, hke])
  omega

/-- The program's builder and the document's, between two calls. -/
structure Two (w : World) (b g rb : Nat) (bs : List Nat) (box W H : Nat) (X : World) (L : List (List Cl)) (row col : Int) (sn : Bool) (A : Option Addr) (c : Nat) : Prop where
  bd : BdAt X w.heap.size b g rb bs W L row col sn
  bx : Blk X box 31 (rbC W H A c row col sn)
  rf : RfAt X (fun k => ¬ BdOwn b g rb bs k ∧ k ≠ box) A c L
  len : L.length = H
  bel : Below w.heap.size w X
  nb : ¬ BdOwn b g rb bs box
  lob : w.heap.size ≤ box
namespace Two
variable {w X Y Z V : World} {b g rb box W H : Nat} {bs : List Nat} {L L' : List (List Cl)} {row col row' col' : Int} {sn sn' : Bool} {A A' : Option Addr} {c c' : Nat}
theorem below (h : Two w b g rb bs box W H X L row col sn A c) (hb : Below X.heap.size X Y) : Two w b g rb bs box W H Y L row col sn A c :=
  ⟨h.bd.below hb, h.bx.below hb h.bx.lt, h.rf.below hb, h.len, h.bel.trans (hb.mono h.bel.size), h.nb, h.lob⟩
/-- The program's builder has turned. -/
theorem mid {S : Nat → Prop} (h : Two w b g rb bs box W H X L row col sn A c) (hc : Chg S X Y) (hS : ∀ k, S k → BdOwn b g rb bs k) :
    Blk Y box 31 (rbC W H A c row col sn) ∧ RfAt Y (fun k => ¬ BdOwn b g rb bs k ∧ k ≠ box) A c L ∧ Below w.heap.size w Y :=
  ⟨h.bx.chg hc (fun e => h.nb (hS _ e)), h.rf.chg hc (fun k _ hk e => hk.1 (hS _ e)), h.bel.trans (hc.below h.bel.size (fun j hj => h.bd.lo_le j (hS j hj)))⟩
/-- And the document's behind it. -/
theorem done {S : Nat → Prop} (h : Two w b g rb bs box W H X L row col sn A c) (hc : Chg S X Y) (hS : ∀ k, S k → BdOwn b g rb bs k) (hbd : BdAt Y w.heap.size b g rb bs W L' row' col' sn')
    (hr : RfAt Z (fun k => (¬ BdOwn b g rb bs k ∧ k ≠ box) ∨ Y.heap.size ≤ k) A' c' L') (hb : Below Y.heap.size Y Z) (hl : L'.length = H) (hg : Z.grownBy V (some box)) (hn : Blk V box 31 (rbC W H A' c' row' col' sn')) :
    Two w b g rb bs box W H V L' row' col' sn' A' c' := by
  obtain ⟨m1, m2, m3⟩ := h.mid hc hS
  have hcz := chg_of_grown hg
  have hbl := m1.lt
  have hown := hbd.own_lt
  refine ⟨(hbd.below hb).keep hcz (fun k hk e => h.nb ((show k = box from e) ▸ hk)), hn, ?_, hl, ?_, h.nb, h.lob⟩
  · have h1 := hr.mono (D' := fun k => ¬ BdOwn b g rb bs k ∧ k ≠ box) (fun k hk hd => by
      rcases hd with hd | hd
      · exact hd
      · exact ⟨fun e => by have := hown k e; omega, by omega⟩)
    exact h1.chg hcz (fun k _ hk e => hk.2 e)
  · exact (m3.trans (hb.mono m3.size)).trans (hcz.below (by have := m3.size; have := hb.size; omega) (fun j hj => by have e : j = box := hj; rw [e]; exact h.lob))
/-- Both are new. -/
theorem new {X1 X2 : World} (hbd : BdAt X1 w.heap.size b g rb bs W L row col sn) (hb1 : Below w.heap.size w X1) (hr : RfAt X2 (fun k => X1.heap.size ≤ k) A c L) (hb2 : Below X1.heap.size X1 X2) (hl : L.length = H)
    (hb3 : Below X2.heap.size X2 V) (hn : Blk V X2.heap.size 31 (rbC W H A c row col sn)) : Two w b g rb bs X2.heap.size W H V L row col sn A c := by
  have hown := hbd.own_lt
  have h2 := hb2.size
  have h1 := hb1.size
  have hr' : RfAt X2 (fun k => ¬ BdOwn b g rb bs k ∧ k ≠ X2.heap.size) A c L := hr.mono (fun k hk hd => ⟨fun e => by have := hown k e; omega, by omega⟩)
  exact ⟨(hbd.below hb2).below hb3, hn, hr'.below hb3, hl, (hb1.trans (hb2.mono hb1.size)).trans (hb3.mono (by omega)), fun e => by have := hown _ e; omega, by omega⟩
end Two
theorem ftxt_length {W : Nat} {L : List (List Cl)} {row col : Int} {s : List UInt8} {y : Sty} : (ftxt W L row col s y).1.length = L.length := by
  unfold ftxt
  split
  · rfl
  · next h =>
    split
    · rfl
    · have h' : (fwithB row L.length && fwithB col (W + 1)) = true := by simpa using h
      rw [Bool.and_eq_true] at h'
      have := fwith_yes h'.2
      exact (ftextM_length ⟨this.1, by omega⟩ (fcs_is s)).1
theorem ffil_length {W : Nat} {L : List (List Cl)} {row a z : Int} {y : Sty} : (ffil W L row a z y).1.length = L.length := by
  unfold ffil
  split
  · rfl
  · split
    · rfl
    · exact fillG_length _ _ _ _ _ _
/-- What two builders side by side give the comparison. -/
theorem fb_good {w X : World} {lo b g rb W : Nat} {bs : List Nat} {L : List (List Cl)} {row col : Int} {sn : Bool} (h : BdAt X lo b g rb bs W L row col sn) : fvalB L row col = true :=
  have hq := h.grid.rws_
  fvalB_of hq.wd h.ok hq.w1 hq.w5 hq.h1 h.h60 h.r0 h.c0
end Go.Proofs.YtipglbpmpcoidaaGreatDoor
