/-
  Walks: the document's need, every, first.
-/
import Derived.Test.YtdodogehlnchlaaLyRow
namespace Go.Proofs.Ytdodogehlnchlaa
open Go.RowKit Go.Shelf Go.Sort
attribute [local go_sem] Oper.semAt_some
set_option linter.unusedVariables false
set_option linter.unusedSimpArgs false

def oI : Option Nat → Int
  | none => -1
  | some j => (j : Int)
theorem need_congr {gap : Int} {f g : Nat → Int} {l : List Nat} (h : ∀ i ∈ l, f i = g i) : need gap f l = need gap g l := by
  by_cases hl : l = []
  · subst hl; rfl
  · rw [(need_val gap f hl).1, (need_val gap g hl).1, sumL_congr h]

set_option maxRecDepth 100000 in
set_option maxHeartbeats 4000000 in
theorem rneed_any (gap : Int) (ab off n c : Nat) (P : Nat → Pt) (B : Option Addr) (m d : Nat) (b : Nat → Bool) (w : World) (hn : n ≤ 64) (hm : m = n) (hg0 : 0 ≤ gap) (hg9 : gap ≤ 9) (hP : ∀ i, i < n → (P i).Ok) (hS : Sl w w.heap.size (some ⟨ab, off, none⟩) (ptB P n)) (hB : Sl w w.heap.size B (rw1 (fun i => .bool (b i)) n)) :
    Calls Try.prog 28 #[.int .i64 gap, .slice (some ⟨ab, off, none⟩) n c, .slice B m d] w fun e w' => e = .returned (.int .i64 (need gap (fun i => (P i).mn) (ki b n))) ∧ Below w.heap.size w w' := by
  subst hm
  have HS := Lib.hid hS
  have HB := Lib.hid hB
  have HP := Lib.hid hP
  clear hS hB hP
  obtain ⟨vr, hvr⟩ : ∃ v, need gap (fun i => (P i).mn) (ki b m) = v := ⟨_, rfl⟩
  rw [hvr]
  have HV := Lib.hid hvr
  clear hvr
  go_enter Try.func28, Try.ntmps28
  go_wp2_with (fail)
  go_loopw [7, 8, 9] (fun v7 v8 v9 wr => ∃ k : Nat, v9 = .int .i64 k ∧ k ≤ m ∧ v7 = .int .i64 (sumL (fun i => (P i).mn) (ki b k)) ∧ v8 = .int .i64 ((ki b k).length : Nat) ∧ Below w.heap.size w wr) (fun _ _ v _ => m - (intOf v).toNat)
  case atStart => exact ⟨0, rfl, by omega, rfl, rfl, Below.refl _ _⟩
  case round =>
    obtain ⟨k, rfl, hk, rfl, rfl, hrb⟩ := hrel
    have HR := Lib.hid hrb
    have hsb : 0 ≤ sumL (fun i => (P i).mn) (ki b k) ∧ sumL (fun i => (P i).mn) (ki b k) ≤ 500 * ((ki b k).length : Int) := sumL_bd (fun i hi => by
      have := HP.out i (by have := (mem_ki.1 hi).1; omega)
      have h1 := this.a; have h2 := this.b; have h3 := this.c
      exact ⟨h1, by omega⟩)
    have hkl := ki_len b k
    obtain ⟨s0, hs0⟩ : ∃ s, sumL (fun i => (P i).mn) (ki b k) = s := ⟨_, rfl⟩
    obtain ⟨m0, hm0⟩ : ∃ s, (ki b k).length = s := ⟨_, rfl⟩
    by_cases hlt : k < m
    · have hki : (k : Int) < m := by omega
      obtain ⟨b1, o1, rfl, hb1, hc1⟩ := rw1_at HB.out hlt
      have c1 := (hrb.cell (p := ⟨b1, o1 + k, none⟩) hb1).trans hc1
      have c2 := (pt_cellR (j := 0) HS.out hlt rfl).2
      have c3 := (hrb.cell (p := ⟨ab, off + k * 4 + 0, none⟩) (pt_cellR HS.out hlt (j := 0) rfl).1).trans c2
      simp only [Nat.add_zero] at c3
      have hpk := HP.out k hlt
      have hp1 := hpk.a
      have hp2 := hpk.b
      have hp3 := hpk.c
      rw [hs0, hm0] at hsb
      rw [hm0] at hkl
      rw [hs0, hm0]
      obtain ⟨hsb1, hsb2⟩ := hsb
      have HS0 := Lib.hid hs0
      have HM0 := Lib.hid hm0
      clear hrb hc1 c2 hpk hs0 hm0
      cases hbk : b k with
      | true =>
        rw [hbk] at c1
        have HFK : Hid (sumL (fun i => (P i).mn) (ki b (k + 1)) = s0 + (P k).mn) := by show _ = _; rw [ki_yes hbk, sumL_snoc, HS0.out]
        have HLK : Hid ((ki b (k + 1)).length = m0 + 1) := by show _ = _; rw [ki_yes hbk, List.length_append, List.length_singleton, HM0.out]
        obtain ⟨mn, hmn⟩ : ∃ x, (P k).mn = x := ⟨_, rfl⟩
        rw [hmn] at c3 hp1 hp2 HFK
        have hp4 : mn ≤ 500 := by omega
        clear hmn hbk
        go_wp2_with (fail)
        go_roundw
        case rel => exact ⟨k + 1, by go_num, by omega, by rw [HFK.out], by rw [HLK.out]; go_num, HR.out⟩
        case measure => simp [intOf]; omega
      | false =>
        rw [hbk] at c1
        have HFK : Hid (sumL (fun i => (P i).mn) (ki b (k + 1)) = s0) := by show _ = _; rw [ki_no hbk, HS0.out]
        have HLK : Hid ((ki b (k + 1)).length = m0) := by show _ = _; rw [ki_no hbk, HM0.out]
        clear hbk c3
        go_wp2_with (fail)
        go_roundw
        case rel => exact ⟨k + 1, by go_num, by omega, by rw [HFK.out], by rw [HLK.out], HR.out⟩
        case measure => simp [intOf]; omega
    · have hki : ¬ (k : Int) < m := by omega
      obtain rfl : k = m := by omega
      have HV2 : Hid (vr = if m0 = 0 then 0 else s0 + gap * ((m0 : Int) - 1)) := by
        show vr = _
        rw [← HV.out]
        by_cases hz : m0 = 0
        · rw [if_pos hz]
          have : ki b k = [] := List.eq_nil_of_length_eq_zero (by rw [hm0]; exact hz)
          rw [this, need_nil]
        · rw [if_neg hz, (need_val gap _ (fun e => hz (by rw [← hm0, e]; rfl))).1, hs0, hm0]
      have HZ : Hid (m0 = 0 → s0 = 0) := fun hz => by
        have : ki b k = [] := List.eq_nil_of_length_eq_zero (by rw [hm0]; exact hz)
        rw [← hs0, this]; rfl
      rw [hs0, hm0] at hsb
      rw [hm0] at hkl
      rw [hs0, hm0]
      obtain ⟨hsb1, hsb2⟩ := hsb
      clear hs0 hm0 hrb
      by_cases hone : (m0 : Int) > 1
      · obtain ⟨L1, hL1⟩ : ∃ x : Int, (m0 : Int) - 1 = x := ⟨_, rfl⟩
        have hl0 : 0 ≤ L1 ∧ L1 ≤ 64 := by omega
        have hmul : 0 ≤ gap * L1 ∧ gap * L1 ≤ 576 := by
          have := mul_bd (g := gap) (x := 9) (n := L1.toNat) hg0 hg9
          have e : ((L1.toNat : Nat) : Int) = L1 := by omega
          rw [e] at this
          omega
        have hv := HV2.out
        rw [if_neg (by omega), hL1] at hv
        obtain ⟨q, hq⟩ : ∃ x : Int, gap * L1 = x := ⟨_, rfl⟩
        rw [hq] at hmul hv
        obtain ⟨hq1, hq2⟩ := hmul
        obtain ⟨hl01, hl02⟩ := hl0
        have HV3 := Lib.hid hv
        clear hv
        go_wp2_with (fail)
        go_ret
        exact ⟨by rw [HV3.out]; rfl, HR.out⟩
      · have hv : vr = s0 := by
          have := HV2.out
          by_cases hz : m0 = 0
          · rw [if_pos hz] at this; rw [this, HZ.out hz]
          · rw [if_neg hz, show (m0 : Int) - 1 = 0 by omega, Int.mul_zero] at this; omega
        have HV3 := Lib.hid hv
        clear hv
        go_wp2_with (fail)
        go_ret
        exact ⟨by rw [HV3.out]; rfl, HR.out⟩

set_option maxRecDepth 100000 in
set_option maxHeartbeats 4000000 in
theorem revery_any (A : Option Addr) (n c : Nat) (hn : n ≤ 65) (w : World) :
    Calls Try.prog 29 #[.slice A n c] w fun e w' => ∃ S d, e = .returned (.slice S n d) ∧ OR w' w.heap.size 4 S n d (rw1 (fun _ => .bool true) n) ∧ Below w.heap.size w w' := by
  go_enter Try.func29, Try.ntmps29
  go_wp2_with (fail)
  go_loopw [3, 4] (fun v3 v4 wr => ∃ (k : Nat) (S : Option Addr) (d : Nat), v4 = .int .i64 k ∧ k ≤ n ∧ v3 = .slice S k d ∧ OR wr w.heap.size 4 S k d (rw1 (fun _ => .bool true) k) ∧ Below w.heap.size w wr) (fun _ v _ => n - (intOf v).toNat)
  case atStart => exact ⟨0, none, 0, rfl, by omega, rfl, OR.none_ _ _ _, Below.refl _ _⟩
  case round =>
    obtain ⟨k, S, d, rfl, hkm, rfl, hor, hb⟩ := hrel
    have HOR := Lib.hid hor
    have HB := Lib.hid hb
    clear hor hb
    by_cases hlt : k < n
    · have hki : (k : Int) < n := by omega
      obtain ⟨A', c', w5, hr, ho, hb5, _⟩ := app_one Try.underlying28 stay_info rfl (by omega) HOR.out HB.out.size HB.out (.bool true) rfl (by omega)
      rw [← rw1_succ (fun _ => Value.bool true)] at ho
      have HR := Lib.hid hr
      have HO := Lib.hid ho
      have HB5 := Lib.hid hb5
      clear hr ho hb5
      go_wp2_with ((with_reducible refine at_dst 13 ?_); refine lyList_run 28 28 rfl (.tmp 11) (.tmp 12) rfl _ _ _ _ rfl rfl HR.out ?_)
      go_roundw
      case rel => exact ⟨k + 1, A', c', by go_num, by omega, rfl, HO.out, HB5.out⟩
      case measure => simp [intOf]; omega
    · have hki : ¬ (k : Int) < n := by omega
      have hkn : k = n := by omega
      subst hkn
      go_wp2_with (fail)
      go_ret
      exact ⟨S, d, rfl, HOR.out, HB.out⟩
end Go.Proofs.Ytdodogehlnchlaa
