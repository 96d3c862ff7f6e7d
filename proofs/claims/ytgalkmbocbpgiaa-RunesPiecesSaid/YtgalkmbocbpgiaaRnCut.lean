/-
  Walks: runes.clone, runes.Cut, and the reference's Cut.
-/
import Derived.Test.YtgalkmbocbpgiaaRnRNext
import Derived.Test.YtgalkmbocbpgiaaRnRunes
import Derived.Test.YtgalkmbocbpgiaaRnCutM
import Derived.Deep.RegionHeld3
namespace Go.Proofs.Ytgalkmbocbpgiaa
open Go.RowKit
set_option linter.unusedVariables false

set_option maxHeartbeats 400000 in
theorem clone_any (A : Option Addr) (n cap : Nat) (l : List UInt8) (B : Nat) (w : World) (hn : n = l.length) (hm : l.length ≤ 100000) (hnil : A = none → cap = 0) (hS : Sl w B A (bv l)) :
    Calls Try.prog 31 #[.slice A n cap] w fun e w' => ∃ A' c', e = .returned (.slice A' n c') ∧ OB w' w.heap.size A' n c' l ∧ Below w.heap.size w w' := by
  have HS := Lib.hid hS
  have HN := Lib.hid hnil
  have Hn := Lib.hid hn
  have hn1 : n ≤ 100000 := by omega
  clear hS hnil hn hm
  go_enter Try.func31, Try.ntmps31
  go_wp2_with (at_builtin
               refine wpList_app_u8 _ rfl (.const (.slice none 0 0)) (.tmp 3) rfl w.heap.size none 0 0 [] rfl (OB.none_ _ _) A n cap l B rfl HS.out Hn.out HN.out n (by omega) (by omega) (Nat.le_refl _) ?_
               intro A1 c1 w1 h1 hg1 hat1)
  go_ret
  exact ⟨A1, c1, rfl, by simpa using h1, (Below.refl _ _).grown hg1 (Nat.le_refl _) (fun g hg => by cases hg)⟩

theorem cutW_none {l : List UInt8} (h : cutAt l = none) : cutW l = l ∧ cutR l = [] := by unfold cutW cutR; rw [h]; exact ⟨rfl, rfl⟩
theorem cutW_some {l : List UInt8} {b : Nat} (h : cutAt l = some b) : cutW l = l.take b ∧ cutR l = l.drop b := by unfold cutW cutR; rw [h]; exact ⟨rfl, rfl⟩

set_option maxRecDepth 100000 in
set_option maxHeartbeats 2000000 in
theorem cut2_any (A : Option Addr) (n cap : Nat) (l : List UInt8) (w : World) (hn : n = l.length) (hm : l.length ≤ 100000) (hcap : n ≤ cap) (hcm : cap ≤ maxLen) (hnil : A = none → cap = 0) (hS : Sl w w.heap.size A (bv l)) :
    Calls Try.prog 21 #[.slice A n cap] w fun e w' => ∃ A1 c1 A2 c2, e = .returned (.tuple #[.slice A1 (cutW l).length c1, .slice A2 (cutR l).length c2]) ∧
      OB w' w.heap.size A1 (cutW l).length c1 (cutW l) ∧ OB w' w.heap.size A2 (cutR l).length c2 (cutR l) ∧ Below w.heap.size w w' := by
  subst hn
  have HS := Lib.hid hS
  have HN := Lib.hid hnil
  unfold maxLen at hcm
  clear hS hnil
  by_cases h3 : l.length ≤ 3
  all_goals
    go_enter Try.func21, Try.ntmps21
    go_wp2
    go_loopw [4] (fun v4 wr => ∃ k : Nat, v4 = .int .i64 k ∧ l.length - 3 ≤ k ∧ k ≤ l.length ∧ cutAt l = cutFrom (l.length - k) k l ∧ Below w.heap.size w wr) (fun v4 _ => l.length - (intOf v4).toNat)
    case atStart => exact ⟨l.length - 3, by first | (rw [show l.length - 3 = 0 from by omega]; rfl) | go_num | (congr 1; omega), by omega, by omega, rfl, Below.refl _ _⟩
    case round =>
      obtain ⟨k, rfl, hk1, hk2, hcut, hbw⟩ := hrel
      have HC := Lib.hid hcut
      clear hcut
      by_cases hlt : k < l.length
      · have hlt' : (k : Int) < (l.length : Int) := by omega
        obtain ⟨b, off, rfl, _, _⟩ := HS.out.open_ (by simp [bv_length]; omega)
        have hci : ¬ cap = k := by omega
        have hS2 := (HS.out.below hbw).more hbw.size
        have hSd := hS2.drop (k := k) (cap := cap) (by simp [bv_length]; omega)
        rw [if_neg hci, bv_drop, add_plain] at hSd
        have hSt := hS2.take k
        rw [bv_take] at hSt
        have hld : l.length - k = (l.drop k).length := by simp
        have hlt2 : k = (l.take k).length := by simp; omega
        have HSd := Lib.hid hSd
        have HSt := Lib.hid hSt
        have Hld := Lib.hid hld
        have Hlt2 := Lib.hid hlt2
        clear hSd hSt hld hlt2 hS2
        go_wp2_with (fail)
        refine (next_any _ _ _ (l.drop k) wr.heap.size wr Hld.out (by simp; omega) HSd.out).mono ?_
        rintro e w2 ⟨rfl, hb⟩
        simp only [nv]
        have hb2 : Below w.heap.size w w2 := hbw.trans (hb.mono hbw.size)
        by_cases hmo : (nx (l.drop k)).2.2 = true
        · rw [hmo]
          have hat : cutAt l = some k := by
            rw [HC.out]
            obtain ⟨j, hj⟩ : ∃ j, l.length - k = j + 1 := ⟨l.length - k - 1, by omega⟩
            rw [hj, cutFrom, if_pos hmo]
          have HW := Lib.hid (cutW_some hat)
          have HSt2 := Lib.hid (HSt.out.below hb)
          have HSd2 := Lib.hid (HSd.out.below hb)
          have hs12 := hb.size
          clear hmo hat hb hbw
          go_wp2_with (fail)
          have hS3 : Sl w2.drew wr.heap.size (some ⟨b, off, none⟩) (bv (l.take k)) := HSt2.out.drew
          have hS4 : ∀ w3, Below w2.drew.heap.size w2.drew w3 → Sl w3 wr.heap.size (some ⟨b, off + k, none⟩) (bv (l.drop k)) := fun w3 h => HSd2.out.drew.below (h.mono hs12)
          have H3 := Lib.hid hS3
          have H4 := Lib.hid hS4
          have hl1 : (l.take k).length ≤ 100000 := by simp; omega
          have hl2 : (l.drop k).length ≤ 100000 := by simp; omega
          have Hl1 := Lib.hid hl1
          have Hl2 := Lib.hid hl2
          have hn1 : (some (⟨b, off, none⟩ : Addr)) = none → cap = 0 := fun h => by cases h
          have hn2 : (some (⟨b, off + k, none⟩ : Addr)) = none → cap - k = 0 := fun h => by cases h
          have Hn1 := Lib.hid hn1
          have Hn2 := Lib.hid hn2
          clear hS3 hS4 hl1 hl2 hn1 hn2
          go_region_held (fun _ => True) (trivial)
            (first
              | (go_at_call 31; with_reducible refine (clone_any (some ⟨b, off, none⟩) k cap (l.take k) wr.heap.size w2.drew Hlt2.out Hl1.out Hn1.out H3.out).mono ?_; rintro e w3 ⟨A1, c1, rfl, h1, hb3⟩)
              | (go_at_call 31; with_reducible refine (clone_any (some ⟨b, off + k, none⟩) (l.length - k) (cap - k) (l.drop k) wr.heap.size w3 Hld.out Hl2.out Hn2.out (H4.out w3 hb3)).mono ?_; rintro e w4 ⟨A2, c2, rfl, h2, hb4⟩))
          go_wp2
          go_ret2
          have hs2 : wr.heap.size ≤ w2.drew.heap.size := hs12
          have hws : w.heap.size ≤ w2.drew.heap.size := hb2.size
          have h1' := (h1.below hb4 (fun g hg => (h1.blk_lt g hg).2)).weaken hws
          have h2' := h2.weaken (Nat.le_trans hws hb3.size)
          rw [HW.out.1, HW.out.2, ← Hlt2.out, ← Hld.out]
          exact ⟨A1, c1, A2, c2, rfl, h1', h2', (hb2.drew.trans (hb3.mono hws)).trans (hb4.mono (Nat.le_trans hws hb3.size))⟩
        · have hmo' : (nx (l.drop k)).2.2 = false := by simpa using hmo
          rw [hmo']
          have hstep : cutAt l = cutFrom (l.length - (k + 1)) (k + 1) l := by
            rw [HC.out]
            obtain ⟨j, hj⟩ : ∃ j, l.length - k = j + 1 := ⟨l.length - k - 1, by omega⟩
            rw [hj, cutFrom, if_neg hmo]
            congr 1
            omega
          have HS2 := Lib.hid hstep
          clear hmo hmo' hstep
          go_wp2
          exact ⟨⟨k + 1, by go_num, by omega, by omega, HS2.out, hb2⟩, by simp only [intOf]; omega⟩
      · have hge : ¬ (k : Int) < (l.length : Int) := by omega
        have hno : cutAt l = none := by
          rw [HC.out, show l.length - k = 0 from by omega]; rfl
        have HW := Lib.hid (cutW_none hno)
        have hSw := (HS.out.below hbw)
        have HSw := Lib.hid hSw
        clear hno hSw
        go_wp2_with (fail)
        refine (clone_any A l.length cap l w.heap.size wr rfl hm HN.out HSw.out).mono ?_
        rintro e w3 ⟨A1, c1, rfl, h1, hb⟩
        go_wp2
        go_ret2
        refine ⟨A1, c1, none, 0, ?_, ?_, ?_, hbw.trans (hb.mono hbw.size)⟩
        · rw [HW.out.1, HW.out.2]; rfl
        · rw [HW.out.1]; exact h1.weaken hbw.size
        · rw [HW.out.2]; exact OB.none_ _ _

def RCutPost (l : List UInt8) (w : World) (e : Ending) (w' : World) : Prop := ∃ A1 c1 A2 c2, e = .returned (.tuple #[.slice A1 (cutW l).length c1, .slice A2 (cutR l).length c2]) ∧
      Sl w' w'.heap.size A1 (bv (cutW l)) ∧ Sl w' w'.heap.size A2 (bv (cutR l)) ∧ Below w.heap.size w w'

set_option maxRecDepth 100000 in
set_option maxHeartbeats 2000000 in
theorem rcut_any (A : Option Addr) (n cap : Nat) (l : List UInt8) (w : World) (hn : n = l.length) (hm : l.length ≤ 100000) (hcap : n ≤ cap) (hcm : cap ≤ maxLen) (hnil : A = none → cap = 0) (hS : Sl w w.heap.size A (bv l)) :
    Calls Try.prog 22 #[.slice A n cap] w (RCutPost l w) := by
  subst hn
  have HS := Lib.hid hS
  unfold maxLen at hcm
  clear hS hnil
  by_cases h3 : l.length ≤ 3
  all_goals
    go_enter Try.func22, Try.ntmps22
    go_wp2
    go_loopw [4] (fun v4 wr => ∃ k : Nat, v4 = .int .i64 k ∧ l.length - 3 ≤ k ∧ k ≤ l.length ∧ cutAt l = cutFrom (l.length - k) k l ∧ Below w.heap.size w wr) (fun v4 _ => l.length - (intOf v4).toNat)
    case atStart => exact ⟨l.length - 3, by first | (rw [show l.length - 3 = 0 from by omega]; rfl) | go_num | (congr 1; omega), by omega, by omega, rfl, Below.refl _ _⟩
    case round =>
      obtain ⟨k, rfl, hk1, hk2, hcut, hbw⟩ := hrel
      have HC := Lib.hid hcut
      clear hcut
      by_cases hlt : k < l.length
      · have hlt' : (k : Int) < (l.length : Int) := by omega
        obtain ⟨b, off, rfl, _, _⟩ := HS.out.open_ (by simp [bv_length]; omega)
        have hci : ¬ cap = k := by omega
        have hS2 := (HS.out.below hbw).more hbw.size
        have hSd := hS2.drop (k := k) (cap := cap) (by simp [bv_length]; omega)
        rw [if_neg hci, bv_drop, add_plain] at hSd
        have hSt := hS2.take k
        rw [bv_take] at hSt
        have hld : l.length - k = (l.drop k).length := by simp
        have hlt2 : k = (l.take k).length := by simp; omega
        have hcu : (k : Int) ≤ (cap : Int) := by omega
        have HSd := Lib.hid hSd
        have HSt := Lib.hid hSt
        have Hld := Lib.hid hld
        have Hlt2 := Lib.hid hlt2
        clear hSd hSt hld hlt2 hS2
        go_wp2_with (fail)
        refine (rnext_any _ _ _ (l.drop k) wr Hld.out (by simp; omega) (by simp; omega) HSd.out).mono ?_
        rintro e w2 ⟨rfl, hb⟩
        simp only [nv]
        have hb2 : Below w.heap.size w w2 := hbw.trans (hb.mono hbw.size)
        by_cases hmo : (nx (l.drop k)).2.2 = true
        · rw [hmo]
          have hat : cutAt l = some k := by
            rw [HC.out]
            obtain ⟨j, hj⟩ : ∃ j, l.length - k = j + 1 := ⟨l.length - k - 1, by omega⟩
            rw [hj, cutFrom, if_pos hmo]
          have HW := Lib.hid (cutW_some hat)
          have HSt2 := Lib.hid ((HSt.out.below hb).more hb.size)
          have HSd2 := Lib.hid ((HSd.out.below hb).more hb.size)
          clear hmo hat hb hbw
          go_wp2_with (fail)
          go_quiet (fail)
          go_wp2
          go_ret2
          unfold RCutPost
          rw [HW.out.1, HW.out.2, ← Hlt2.out, ← Hld.out]
          exact ⟨_, _, _, _, rfl, HSt2.out.drewN _, HSd2.out.drewN _, below_drewN hb2 _⟩
        · have hmo' : (nx (l.drop k)).2.2 = false := by simpa using hmo
          rw [hmo']
          have hstep : cutAt l = cutFrom (l.length - (k + 1)) (k + 1) l := by
            rw [HC.out]
            obtain ⟨j, hj⟩ : ∃ j, l.length - k = j + 1 := ⟨l.length - k - 1, by omega⟩
            rw [hj, cutFrom, if_neg hmo]
            congr 1
            omega
          have HS2 := Lib.hid hstep
          clear hmo hmo' hstep
          go_wp2
          exact ⟨⟨k + 1, by go_num, by omega, by omega, HS2.out, hb2⟩, by simp only [intOf]; omega⟩
      · have hge : ¬ (k : Int) < (l.length : Int) := by omega
        have hno : cutAt l = none := by
          rw [HC.out, show l.length - k = 0 from by omega]; rfl
        have HW := Lib.hid (cutW_none hno)
        have hSw := (HS.out.below hbw).more hbw.size
        have HSw := Lib.hid hSw
        clear hno hSw
        go_wp2
        go_ret2
        unfold RCutPost
        rw [HW.out.1, HW.out.2]
        exact ⟨A, cap, none, 0, rfl, HSw.out, .inl rfl, hbw⟩
end Go.Proofs.Ytgalkmbocbpgiaa
