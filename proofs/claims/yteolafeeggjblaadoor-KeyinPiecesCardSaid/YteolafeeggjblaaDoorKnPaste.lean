/-
  Walks: what is pasted: ends, text, count, fork.
-/
import Derived.Test.YteolafeeggjblaaDoorKnFork
import Derived.Test.YteolafeeggjblaaDoorRnText
import Derived.Deep.QuietTactic
import Derived.BigQuiet
namespace Go.Proofs.YteolafeeggjblaaDoor
open Go.RowKit Go.Sort
set_option linter.unusedVariables false
set_option linter.unusedSimpArgs false

/-- what is pasted, in memory: the slice of its bytes, how many bytes of the end came last -/
abbrev PBlk (w : World) (P : Nat) (A : Option Addr) (n c : Nat) (m : Nat) : Prop := Blk w P 65 [.slice A n c, .int .i64 (m : Int)]
/-- a row's block is no block of other things -/
theorem ob_ne {w : World} {g : Nat} {t : TypeId} {cs : List Value} {base n c : Nat} {A : Option Addr} {l : List UInt8} (h : Blk w g t cs) (ho : OB w base A n c l) (hne : t ≠ 5) : blk A ≠ some g := by
  intro e
  obtain ⟨hl, ⟨hv, hn⟩ | ⟨g', cap, cur, hv, h1, h2, h3⟩⟩ := ho.1
  · injection hv with hA; subst hA; cases e
  · injection hv with hA; subst hA
    have : g' = g := by simpa [blk] using e
    subst this
    unfold Blk at h
    rw [h] at h2
    injection h2 with h2
    injection h2 with _ he
    exact hne he
theorem pasted_u8 : 65 ≠ 5 := by decide
theorem ob_same {w w' : World} {base n c : Nat} {A : Option Addr} {l : List UInt8} (h : OB w base A n c l) (hs : ∀ g, blk A = some g → w'.heap[g]? = w.heap[g]?) : OB w' base A n c l := by
  refine ⟨?_, h.2⟩
  obtain ⟨hl, ⟨hv, hn⟩ | ⟨g, cap, cur, hv, h1, h2, h3⟩⟩ := h.1
  · exact ⟨hl, .inl ⟨hv, hn⟩⟩
  · exact ⟨hl, .inr ⟨g, cap, cur, hv, h1, by rw [hs g (by injection hv with hA; subst hA; rfl)]; exact h2, h3⟩⟩
theorem ob_cap {w : World} {base n c : Nat} {A : Option Addr} {l : List UInt8} (h : OB w base A n c l) : n ≤ c := by
  obtain ⟨hl, ⟨hv, hn⟩ | ⟨g, cap, cur, hv, h1, h2, h3, h4⟩⟩ := h.1
  · injection hv with _ _ hc; omega
  · injection hv with _ _ hc; omega
/-- where what is pasted lies -/
def pset (P : Nat) (A : Option Addr) : Nat → Prop := fun j => j = P ∨ blk A = some j
/-- what ends leaves behind -/
structure PEnd (w w' : World) (P : Nat) (A : Option Addr) (M : Nat) (l : List UInt8) : Prop where
  ex : ∃ A' c', PBlk w' P A' l.length c' M ∧ OB w' 0 A' l.length c' l ∧ (∀ j, blk A' = some j → blk A = some j ∨ w.heap.size ≤ j)
  chg : Chg (pset P A) w w'
def pnext (p : List UInt8) (b : UInt8) : List UInt8 := if p.length < 65541 then p ++ [b] else p

theorem pend_blk {w1 w2 : World} {P : Nat} {A : Option Addr} {n c M : Nat} {p : List UInt8} {o : Obj} (hB : PBlk w1 P A n c M) (hO : OB w1 0 A n c p) (hg : (w1.alloc o).grownBy w2 (blk A)) : PBlk w2 P A n c M := by
  have hne := ob_ne hB hO pasted_u8
  have := hB.alloc o
  exact (hg.block P this.lt (fun e => hne e.symm)).trans this
theorem pend_app {w w1 w2 : World} {P : Nat} {A A' : Option Addr} {n c c' M : Nat} {p : List UInt8} {b : UInt8} {o : Obj} (hC : Chg (pset P A) w w1) (hB : PBlk w1 P A n c M) (hO : OB w1 0 A n c p)
    (ho : OB w2 0 A' (n + 1) c' (p ++ [b])) (hg : (w1.alloc o).grownBy w2 (blk A)) (hat : blk A' = blk A ∨ blk A' = some (w1.alloc o).heap.size) (hl : p.length < 65541) :
    PEnd w (w2.setCell ⟨P, 0, none⟩ (.slice A' (n + 1) c')) P A M (pnext p b) := by
  have hn := hO.len
  have hne := ob_ne hB hO pasted_u8
  have hb2 : PBlk w2 P A n c M := by
    have := hB.alloc o
    exact (hg.block P this.lt (fun e => hne e.symm)).trans this
  have e : pnext p b = p ++ [b] := by unfold pnext; rw [if_pos hl]
  have hne2 : blk A' ≠ some P := ob_ne hb2 ho pasted_u8
  refine ⟨⟨A', c', ?_, ?_, ?_⟩, ?_⟩
  · rw [e, List.length_append, List.length_singleton, ← hn]; exact hb2.set_ 0 _
  · rw [e, List.length_append, List.length_singleton, ← hn]
    exact ob_same ho (fun g hg' => Below.heap_setCell _ _ _ _ (fun e => hne2 (by rw [hg']; exact congrArg some e)))
  · intro j hj
    rcases hat with h | h
    · exact .inl (by rw [← h]; exact hj)
    · rw [h] at hj; injection hj with hj; have := hC.size; simp at hj; exact .inr (by omega)
  · have h1 : Chg (pset P A) w w2 := (hC.alloc o).grown hg (fun k hk => .inl (.inr hk))
    exact h1.setCell (p := ⟨P, 0, none⟩) (.inl (.inl rfl)) _
theorem pend_full {w w1 : World} {P : Nat} {A : Option Addr} {n c M : Nat} {p : List UInt8} {b : UInt8} (hC : Chg (pset P A) w w1) (hB : PBlk w1 P A n c M) (hO : OB w1 0 A n c p) (hl : ¬ p.length < 65541) : PEnd w w1 P A M (pnext p b) := by
  have hn := hO.len
  have e : pnext p b = p := by unfold pnext; rw [if_neg hl]
  refine ⟨⟨A, c, ?_, ?_, fun j hj => .inl hj⟩, hC⟩
  · rw [e, ← hn]; exact hB
  · rw [e, ← hn]; exact hO

set_option maxRecDepth 100000 in
set_option maxHeartbeats 8000000 in
theorem ends_any (P : Nat) (A : Option Addr) (n c : Nat) (p : List UInt8) (m : Nat) (b : UInt8) (w : World) (hB : PBlk w P A n c m) (hO : OB w 0 A n c p) (hm : m ≤ 5) (hp : p.length ≤ 65541) :
    Calls Tryd.prog 48 #[.pointer (some ⟨P, 0, none⟩), .int .u8 b.toNat] w fun e w' => e = .returned (.bool (decide (matP m b = 6))) ∧ PEnd w w' P A (matP m b) (if matP m b = 6 then p else pnext p b) := by
  have hk : (⟨#[27, 91, 50, 48, 49, 126]⟩ : ByteArray)[m]'(show m < 6 by omega) = endP.getD m 0 := by
    have : m = 0 ∨ m = 1 ∨ m = 2 ∨ m = 3 ∨ m = 4 ∨ m = 5 := by omega
    rcases this with rfl | rfl | rfl | rfl | rfl | rfl <;> rfl
  have hk0 : (⟨#[27, 91, 50, 48, 49, 126]⟩ : ByteArray)[0]'(show 0 < 6 by omega) = 27 := rfl
  have hM : matP m b = if b = endP.getD m 0 then m + 1 else if b = 27 then 1 else 0 := rfl
  generalize endP.getD m 0 = ee at hk hM
  have hlt : (m : Int) < ((⟨#[27, 91, 50, 48, 49, 126]⟩ : ByteArray).size : Int) := by show (m : Int) < 6; omega
  have x1 : w.cell? ⟨P, 1, none⟩ = some (.int .i64 (m : Int)) := hB.cell 1
  have f1 := hB.frozen 1
  have HB := Lib.hid hB
  have HO := Lib.hid hO
  have HN := Lib.hid hO.len
  generalize matP m b = M at hM ⊢
  have HM := Lib.hid hM
  clear hB hO hM
  by_cases h1 : b = ee
  · subst h1
    obtain rfl : M = m + 1 := by have := HM.out; rwa [if_pos rfl] at this
    clear HM
    have wr : IntKind.i64.wrap ((m : Int) + 1) = (m : Int) + 1 := IntWalk.i64_in _ (by omega)
    have y1 : (w.setCell ⟨P, 1, none⟩ (.int .i64 ((m : Int) + 1))).cell? ⟨P, 1, none⟩ = some (.int .i64 ((m : Int) + 1)) := (HB.out.set_ 1 _).cell 1
    by_cases h5 : m = 5
    · subst h5
      have HE : Hid (PEnd w (w.setCell ⟨P, 1, none⟩ (.int .i64 6)) P A 6 p) := Lib.hid ⟨⟨A, c, by have := HB.out.set_ 1 (.int .i64 6); rw [HN.out] at this; exact this, by
        have := HO.out
        rw [HN.out] at this
        exact ob_same this (fun g hg => Below.heap_setCell _ _ _ _ (fun e => ob_ne HB.out HO.out pasted_u8 (by rw [hg]; exact congrArg some e))), fun j hj => .inl hj⟩, (Chg.refl _ w).setCell (p := ⟨P, 1, none⟩) (.inl (.inl rfl)) _⟩
      go_enter Tryd.func48, Tryd.ntmps48
      go_wp2
      go_ret
      exact ⟨rfl, HE.out⟩
    · have h6 : ¬ m + 1 = 6 := by omega
      have h6' : ((m : Int) + 1 == 6) = false := by simp; omega
      rw [if_neg h6, decide_eq_false h6]
      have hb1 := HB.out.set_ 1 (.int .i64 ((m : Int) + 1))
      have ho1 : OB (w.setCell ⟨P, 1, none⟩ (.int .i64 ((m : Int) + 1))) 0 A n c p := ob_same HO.out (fun g hg => Below.heap_setCell _ _ _ _ (fun e => ob_ne HB.out HO.out pasted_u8 (by rw [hg]; exact congrArg some e)))
      have hc1 : Chg (pset P A) w (w.setCell ⟨P, 1, none⟩ (.int .i64 ((m : Int) + 1))) := (Chg.refl _ w).setCell (p := ⟨P, 1, none⟩) (.inl (.inl rfl)) _
      go_enter Tryd.func48, Tryd.ntmps48
      go_upto_region 9 with fail
      generalize w.setCell ⟨P, 1, none⟩ (.int .i64 ((m : Int) + 1)) = w1 at *
      have HB1 : Hid (PBlk w1 P A n c (m + 1)) := Lib.hid hb1
      have HO1 := Lib.hid ho1
      have HC1 := Lib.hid hc1
      have x0 : w1.cell? ⟨P, 0, none⟩ = some (.slice A n c) := hb1.cell 0
      clear hb1 ho1 hc1 x1 f1 y1
      by_cases hl : p.length < 65541
      · have hni : (n : Int) < 65541 := by have := HN.out; omega
        go_wp2_with (first
          | (at_builtin; (refine wpList_app_u8 _ rfl (.tmp 44) (.tmp 46) rfl 0 A n c p rfl (HO1.out.alloc _) (some ⟨w1.heap.size, 0, none⟩) 1 1 [b] (w1.heap.size + 1) rfl (Sl.new w1 _ _) rfl (fun e => by cases e) (n + 1) rfl (by have := HN.out; omega) (Nat.zero_le _) ?_); intro A' c' w2 ho hg hat; have HE := Lib.hid (pend_app HC1.out HB1.out HO1.out ho hg hat hl); have f0 := (pend_blk HB1.out HO1.out hg).frozen 0; have y0 : w2.cell? ⟨P, 0, none⟩ = some (.slice A n c) := (pend_blk HB1.out HO1.out hg).cell 0; clear ho hg hat))
        go_ret
        exact ⟨rfl, HE.out⟩
      · have hni : ¬ (n : Int) < 65541 := by have := HN.out; omega
        have HE : Hid (PEnd w w1 P A (m + 1) (pnext p b)) := Lib.hid (pend_full HC1.out HB1.out HO1.out hl)
        go_wp2
        go_ret
        exact ⟨rfl, HE.out⟩
  · by_cases h2 : b = 27
    · subst h2
      obtain rfl : M = 1 := by have := HM.out; rwa [if_neg h1, if_pos rfl] at this
      clear HM
      have he : ((27 : Int) == (ee.toNat : Int)) = false := by
        simp
        intro e
        exact h1 (UInt8.toNat_inj.1 (by show 27 = ee.toNat; omega))
      have y1 : (w.setCell ⟨P, 1, none⟩ (.int .i64 1)).cell? ⟨P, 1, none⟩ = some (.int .i64 1) := (HB.out.set_ 1 _).cell 1
      rw [if_neg (by omega), decide_eq_false (by omega)]
      clear h1
      have hb1 := HB.out.set_ 1 (.int .i64 (1))
      have ho1 : OB (w.setCell ⟨P, 1, none⟩ (.int .i64 (1))) 0 A n c p := ob_same HO.out (fun g hg => Below.heap_setCell _ _ _ _ (fun e => ob_ne HB.out HO.out pasted_u8 (by rw [hg]; exact congrArg some e)))
      have hc1 : Chg (pset P A) w (w.setCell ⟨P, 1, none⟩ (.int .i64 (1))) := (Chg.refl _ w).setCell (p := ⟨P, 1, none⟩) (.inl (.inl rfl)) _
      go_enter Tryd.func48, Tryd.ntmps48
      go_upto_region 9 with fail
      generalize w.setCell ⟨P, 1, none⟩ (.int .i64 (1)) = w1 at *
      have HB1 : Hid (PBlk w1 P A n c (1)) := Lib.hid hb1
      have HO1 := Lib.hid ho1
      have HC1 := Lib.hid hc1
      have x0 : w1.cell? ⟨P, 0, none⟩ = some (.slice A n c) := hb1.cell 0
      clear hb1 ho1 hc1 x1 f1 y1
      by_cases hl : p.length < 65541
      · have hni : (n : Int) < 65541 := by have := HN.out; omega
        go_wp2_with (first
          | (at_builtin; (refine wpList_app_u8 _ rfl (.tmp 44) (.tmp 46) rfl 0 A n c p rfl (HO1.out.alloc _) (some ⟨w1.heap.size, 0, none⟩) 1 1 [27] (w1.heap.size + 1) rfl (Sl.new w1 _ _) rfl (fun e => by cases e) (n + 1) rfl (by have := HN.out; omega) (Nat.zero_le _) ?_); intro A' c' w2 ho hg hat; have HE := Lib.hid (pend_app HC1.out HB1.out HO1.out ho hg hat hl); have f0 := (pend_blk HB1.out HO1.out hg).frozen 0; have y0 : w2.cell? ⟨P, 0, none⟩ = some (.slice A n c) := (pend_blk HB1.out HO1.out hg).cell 0; clear ho hg hat))
        go_ret
        exact ⟨rfl, HE.out⟩
      · have hni : ¬ (n : Int) < 65541 := by have := HN.out; omega
        have HE : Hid (PEnd w w1 P A (1) (pnext p 27)) := Lib.hid (pend_full HC1.out HB1.out HO1.out hl)
        go_wp2
        go_ret
        exact ⟨rfl, HE.out⟩
    · obtain rfl : M = 0 := by have := HM.out; rwa [if_neg h1, if_neg h2] at this
      clear HM
      have he : ((b.toNat : Int) == (ee.toNat : Int)) = false := by
        simp
        intro e
        exact h1 (UInt8.toNat_inj.1 (by omega))
      have he2 : ((b.toNat : Int) == 27) = false := by
        simp
        intro e
        exact h2 (UInt8.toNat_inj.1 (by show b.toNat = 27; omega))
      have y1 : (w.setCell ⟨P, 1, none⟩ (.int .i64 0)).cell? ⟨P, 1, none⟩ = some (.int .i64 0) := (HB.out.set_ 1 _).cell 1
      rw [if_neg (by omega), decide_eq_false (by omega)]
      clear h1 h2
      have hb1 := HB.out.set_ 1 (.int .i64 (0))
      have ho1 : OB (w.setCell ⟨P, 1, none⟩ (.int .i64 (0))) 0 A n c p := ob_same HO.out (fun g hg => Below.heap_setCell _ _ _ _ (fun e => ob_ne HB.out HO.out pasted_u8 (by rw [hg]; exact congrArg some e)))
      have hc1 : Chg (pset P A) w (w.setCell ⟨P, 1, none⟩ (.int .i64 (0))) := (Chg.refl _ w).setCell (p := ⟨P, 1, none⟩) (.inl (.inl rfl)) _
      go_enter Tryd.func48, Tryd.ntmps48
      go_upto_region 9 with fail
      generalize w.setCell ⟨P, 1, none⟩ (.int .i64 (0)) = w1 at *
      have HB1 : Hid (PBlk w1 P A n c (0)) := Lib.hid hb1
      have HO1 := Lib.hid ho1
      have HC1 := Lib.hid hc1
      have x0 : w1.cell? ⟨P, 0, none⟩ = some (.slice A n c) := hb1.cell 0
      clear hb1 ho1 hc1 x1 f1 y1
      by_cases hl : p.length < 65541
      · have hni : (n : Int) < 65541 := by have := HN.out; omega
        go_wp2_with (first
          | (at_builtin; (refine wpList_app_u8 _ rfl (.tmp 44) (.tmp 46) rfl 0 A n c p rfl (HO1.out.alloc _) (some ⟨w1.heap.size, 0, none⟩) 1 1 [b] (w1.heap.size + 1) rfl (Sl.new w1 _ _) rfl (fun e => by cases e) (n + 1) rfl (by have := HN.out; omega) (Nat.zero_le _) ?_); intro A' c' w2 ho hg hat; have HE := Lib.hid (pend_app HC1.out HB1.out HO1.out ho hg hat hl); have f0 := (pend_blk HB1.out HO1.out hg).frozen 0; have y0 : w2.cell? ⟨P, 0, none⟩ = some (.slice A n c) := (pend_blk HB1.out HO1.out hg).cell 0; clear ho hg hat))
        go_ret
        exact ⟨rfl, HE.out⟩
      · have hni : ¬ (n : Int) < 65541 := by have := HN.out; omega
        have HE : Hid (PEnd w w1 P A (0) (pnext p b)) := Lib.hid (pend_full HC1.out HB1.out HO1.out hl)
        go_wp2
        go_ret
        exact ⟨rfl, HE.out⟩
end Go.Proofs.YteolafeeggjblaaDoor
