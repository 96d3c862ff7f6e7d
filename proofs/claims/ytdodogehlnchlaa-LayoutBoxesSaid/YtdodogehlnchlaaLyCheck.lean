/-
  Walks: Check, and the document's Check.
-/
import Derived.Test.YtdodogehlnchlaaLyLay
namespace Go.Proofs.Ytdodogehlnchlaa
open Go.RowKit Go.Shelf Go.Sort
attribute [local go_sem] Oper.semAt_some
set_option linter.unusedVariables false
set_option linter.unusedSimpArgs false

def okD (p : Pt) : Bool := decide (0 ≤ p.mx ∧ p.mx ≤ 500) && (decide (0 ≤ p.mn ∧ p.mn ≤ p.mx) && (decide (0 ≤ p.wt ∧ p.wt ≤ 100) && decide (0 ≤ p.kp ∧ p.kp ≤ 9)))
theorem okD_iff (p : Pt) : okD p = true ↔ p.Ok := by
  simp only [okD, Bool.and_eq_true, decide_eq_true_eq]
  exact ⟨fun h => ⟨h.2.1.1, h.2.1.2, h.1.2, h.2.2.1.1, h.2.2.1.2, h.2.2.2.1, h.2.2.2.2⟩, fun h => ⟨⟨by have := h.a; have := h.b; omega, h.c⟩, ⟨h.a, h.b⟩, ⟨h.d, h.e⟩, h.f, h.g⟩⟩
def allOk (P : Nat → Pt) (n : Nat) : Bool := (List.range n).all fun i => okD (P i)
theorem allOk_iff (P : Nat → Pt) (n : Nat) : allOk P n = true ↔ ∀ i, i < n → okD (P i) = true := by simp [allOk]
def chkV (room gap : Int) (n : Nat) (P : Nat → Pt) : Int :=
  if 0 ≤ room ∧ room ≤ 500 ∧ 0 ≤ gap ∧ gap ≤ 9 then (if 1 ≤ n ∧ n ≤ 64 then (if allOk P n then 0 else 1) else 3) else 160
theorem chkV_ok {room gap : Int} {n : Nat} {P : Nat → Pt} (h : chkV room gap n P = 0) : (0 ≤ room ∧ room ≤ 500 ∧ 0 ≤ gap ∧ gap ≤ 9) ∧ (1 ≤ n ∧ n ≤ 64) ∧ ∀ i, i < n → (P i).Ok := by
  unfold chkV at h
  split at h
  · rename_i h1
    split at h
    · rename_i h2
      split at h
      · rename_i h3
        exact ⟨h1, h2, fun i hi => (okD_iff _).1 ((allOk_iff P n).1 h3 i hi)⟩
      · omega
    · omega
  · omega

set_option maxHeartbeats 1000000 in
theorem isTo_any (m x : Int) (w : World) : Calls Try.prog 33 #[.int .i64 m, .int .i64 x] w fun e w' => e = .returned (.bool (decide (0 ≤ x ∧ x ≤ m))) ∧ w = w' := by
  by_cases h1 : x ≥ 0
  · by_cases h2 : x ≤ m
    · rw [decide_eq_true (p := 0 ≤ x ∧ x ≤ m) ⟨h1, h2⟩]
      go_enter Try.func33, Try.ntmps33
      go_wp2
      go_ret
      exact ⟨ret_bool (by simp), rfl⟩
    · rw [decide_eq_false (p := 0 ≤ x ∧ x ≤ m) (fun h => h2 h.2)]
      go_enter Try.func33, Try.ntmps33
      go_wp2
      go_ret
      exact ⟨ret_bool (by simp), rfl⟩
  · rw [decide_eq_false (p := 0 ≤ x ∧ x ≤ m) (fun h => h1 h.1)]
    go_enter Try.func33, Try.ntmps33
    go_wp2
    go_ret
    exact ⟨ret_bool (by simp), rfl⟩
set_option maxHeartbeats 1000000 in
theorem within_any (x lo hi : Int) (w : World) : Calls Try.prog 36 #[.int .i64 x, .int .i64 lo, .int .i64 hi] w fun e w' => e = .returned (.bool (decide (lo ≤ x ∧ x ≤ hi))) ∧ w = w' := by
  by_cases h1 : x ≥ lo
  · by_cases h2 : x ≤ hi
    · rw [decide_eq_true (p := lo ≤ x ∧ x ≤ hi) ⟨h1, h2⟩]
      go_enter Try.func36, Try.ntmps36
      go_wp2
      go_ret
      exact ⟨ret_bool (by simp), rfl⟩
    · rw [decide_eq_false (p := lo ≤ x ∧ x ≤ hi) (fun h => h2 h.2)]
      go_enter Try.func36, Try.ntmps36
      go_wp2
      go_ret
      exact ⟨ret_bool (by simp), rfl⟩
  · rw [decide_eq_false (p := lo ≤ x ∧ x ≤ hi) (fun h => h1 h.1)]
    go_enter Try.func36, Try.ntmps36
    go_wp2
    go_ret
    exact ⟨ret_bool (by simp), rfl⟩

set_option maxHeartbeats 4000000 in
theorem isWrong_any (p : Pt) (w : World) : Calls Try.prog 35 #[.agg (ptC p).toArray] w fun e w' => e = .returned (.bool (!okD p)) ∧ Below w.heap.size w w' := by
  unfold okD
  obtain ⟨mn, mx, wt, kp⟩ := p
  simp only
  obtain ⟨c1, h1⟩ : ∃ c, decide (0 ≤ mx ∧ mx ≤ 500) = c := ⟨_, rfl⟩
  obtain ⟨c2, h2⟩ : ∃ c, decide (0 ≤ mn ∧ mn ≤ mx) = c := ⟨_, rfl⟩
  obtain ⟨c3, h3⟩ : ∃ c, decide (0 ≤ wt ∧ wt ≤ 100) = c := ⟨_, rfl⟩
  obtain ⟨c4, h4⟩ : ∃ c, decide (0 ≤ kp ∧ kp ≤ 9) = c := ⟨_, rfl⟩
  rw [h1, h2, h3, h4]
  have H1 := Lib.hid h1
  have H2 := Lib.hid h2
  have H3 := Lib.hid h3
  have H4 := Lib.hid h4
  have HB : Hid (Below w.heap.size w (w.alloc (.cells #[.int .i64 mn, .int .i64 mx, .int .i64 wt, .int .i64 kp] 43))) := (Below.refl _ w).alloc (Nat.le_refl _) _
  clear h1 h2 h3 h4
  unfold ptC
  simp only
  cases c1 with
  | false =>
    go_enter Try.func35, Try.ntmps35
    go_wp2_with (go_at_call 33; refine (isTo_any _ _ _).mono ?_; rintro e w' ⟨rfl, rfl⟩; first | rw [H1.out] | rw [H2.out] | rw [H3.out] | rw [H4.out])
    go_ret
    exact ⟨rfl, HB.out⟩
  | true =>
    cases c2 with
    | false =>
      go_enter Try.func35, Try.ntmps35
      go_wp2_with (go_at_call 33; refine (isTo_any _ _ _).mono ?_; rintro e w' ⟨rfl, rfl⟩; first | rw [H1.out] | rw [H2.out] | rw [H3.out] | rw [H4.out])
      go_ret
      exact ⟨rfl, HB.out⟩
    | true =>
      cases c3 with
      | false =>
        go_enter Try.func35, Try.ntmps35
        go_wp2_with (go_at_call 33; refine (isTo_any _ _ _).mono ?_; rintro e w' ⟨rfl, rfl⟩; first | rw [H1.out] | rw [H2.out] | rw [H3.out] | rw [H4.out])
        go_ret
        exact ⟨rfl, HB.out⟩
      | true =>
        cases c4 with
        | false =>
          go_enter Try.func35, Try.ntmps35
          go_wp2_with (go_at_call 33; refine (isTo_any _ _ _).mono ?_; rintro e w' ⟨rfl, rfl⟩; first | rw [H1.out] | rw [H2.out] | rw [H3.out] | rw [H4.out])
          go_ret
          exact ⟨rfl, HB.out⟩
        | true =>
          go_enter Try.func35, Try.ntmps35
          go_wp2_with (go_at_call 33; refine (isTo_any _ _ _).mono ?_; rintro e w' ⟨rfl, rfl⟩; first | rw [H1.out] | rw [H2.out] | rw [H3.out] | rw [H4.out])
          go_ret
          exact ⟨rfl, HB.out⟩

set_option maxRecDepth 100000 in
set_option maxHeartbeats 4000000 in
theorem index_any (A : Option Addr) (n c : Nat) (P : Nat → Pt) (w : World) (hn : n ≤ 65) (hS : Sl w w.heap.size A (ptB P n)) :
    Calls Try.prog 44 #[.slice A n c, .func (.func 35) #[] #[]] w fun e w' => (∃ r : Int, e = .returned (.int .i64 r) ∧ decide (r ≥ 0) = !allOk P n) ∧ Below w.heap.size w w' := by
  have HS := Lib.hid hS
  clear hS
  go_enter Try.func44, Try.ntmps44
  go_wp2_with (fail)
  go_loopw [8] (fun v wr => ∃ k : Nat, v = .int .i64 k ∧ k ≤ n ∧ Hid (∀ i, i < k → okD (P i) = true) ∧ Below w.heap.size w wr) (fun v _ => n - (intOf v).toNat)
  case atStart => exact ⟨0, rfl, by omega, fun i hi => absurd hi (by omega), Below.refl _ _⟩
  case round =>
    obtain ⟨k, rfl, hk, HA, hf⟩ := hrel
    have HF := Lib.hid hf
    clear hf
    by_cases hlt : k < n
    · have hki : (k : Int) < n := by omega
      obtain ⟨ab, off, rfl, hab, hcell⟩ := HS.out.open_ (by rw [ptB_len]; omega)
      have hrg : wr.rangeAt ab (off + k * 4) (ptC (P k)) := fun j v hv => by
        have hj4 : j < 4 := by have := (List.getElem?_eq_some_iff.1 hv).1; rw [ptC_len] at this; exact this
        rw [Nat.add_assoc]
        exact (HF.out.cell (p := ⟨ab, off + (k * 4 + j), none⟩) hab).trans (hcell _ v (by rw [ptB_get hlt hj4]; exact hv))
      have HRG := Lib.hid hrg
      obtain ⟨b, hb⟩ : ∃ b, okD (P k) = b := ⟨_, rfl⟩
      have HW := Lib.hid (hb ▸ isWrong_any (P k) wr)
      have HOB := Lib.hid hb
      clear hrg hcell hb
      cases b with
      | true =>
        go_wp2_with (first
          | ((with_reducible refine at_dst 15 ?_); refine wpList_load_mid rfl _ _ rfl ab (off + k * 4) rfl (ptC (P k)) _ HRG.out Try.underlying43 rfl part_size ?_)
          | (go_at_call 35; refine HW.out.mono ?_; rintro e w2 ⟨rfl, hb2⟩; have HB2 := Lib.hid hb2; clear hb2))
        go_roundw
        case rel => exact ⟨k + 1, by go_num, by omega, fun i hi => by
          by_cases h : i < k
          · exact HA.out i h
          · obtain rfl : i = k := by omega
            exact HOB.out, HF.out.trans (HB2.out.mono HF.out.size)⟩
        case measure => simp [intOf]; omega
      | false =>
        go_wp2_with (first
          | ((with_reducible refine at_dst 15 ?_); refine wpList_load_mid rfl _ _ rfl ab (off + k * 4) rfl (ptC (P k)) _ HRG.out Try.underlying43 rfl part_size ?_)
          | (go_at_call 35; refine HW.out.mono ?_; rintro e w2 ⟨rfl, hb2⟩; have HB2 := Lib.hid hb2; clear hb2))
        go_ret
        refine ⟨⟨k, rfl, ?_⟩, HF.out.trans (HB2.out.mono HF.out.size)⟩
        have : allOk P n = false := by
          cases h : allOk P n with
          | false => rfl
          | true => have := (allOk_iff P n).1 h k hlt; rw [HOB.out] at this; cases this
        rw [this]
        simp
    · have hki : ¬ (k : Int) < n := by omega
      obtain rfl : k = n := by omega
      go_wp2_with (fail)
      go_ret
      refine ⟨⟨-1, rfl, ?_⟩, HF.out⟩
      rw [(allOk_iff P k).2 HA.out]
      rfl
set_option maxHeartbeats 1000000 in
theorem contains_any (A : Option Addr) (n c : Nat) (P : Nat → Pt) (w : World) (hn : n ≤ 65) (hS : Sl w w.heap.size A (ptB P n)) :
    Calls Try.prog 34 #[.slice A n c, .func (.func 35) #[] #[]] w fun e w' => e = .returned (.bool (!allOk P n)) ∧ Below w.heap.size w w' := by
  have HI := Lib.hid (index_any A n c P w hn hS)
  clear hS
  go_enter Try.func34, Try.ntmps34
  go_wp2_with (go_at_call 44; refine HI.out.mono ?_; rintro e w2 ⟨⟨r, rfl, hr⟩, hb2⟩; have HR := Lib.hid hr; have HB2 := Lib.hid hb2; clear hb2 hr)
  go_ret
  exact ⟨ret_bool (by have := HR.out; simpa using this), HB2.out⟩

set_option maxRecDepth 100000 in
set_option maxHeartbeats 4000000 in
theorem check_any (room gap : Int) (A : Option Addr) (n c : Nat) (P : Nat → Pt) (w : World) (hn : n ≤ 65) (hS : Sl w w.heap.size A (ptB P n)) :
    Calls Try.prog 18 #[.int .i64 room, .int .i64 gap, .slice A n c] w fun e w' => e = .returned (.int .i64 (chkV room gap n P)) ∧ Below w.heap.size w w' := by
  have HC := Lib.hid (contains_any A n c P w hn hS)
  have HV : Hid (chkV room gap n P = if decide (0 ≤ room ∧ room ≤ 500) && decide (0 ≤ gap ∧ gap ≤ 9) then (if 1 ≤ n ∧ n ≤ 64 then (if allOk P n then 0 else 1) else 3) else 160) := by
    show _ = _
    unfold chkV
    by_cases h : 0 ≤ room ∧ room ≤ 500 ∧ 0 ≤ gap ∧ gap ≤ 9
    · have e : (decide (0 ≤ room ∧ room ≤ 500) && decide (0 ≤ gap ∧ gap ≤ 9)) = true := by
        rw [Bool.and_eq_true, decide_eq_true_eq, decide_eq_true_eq]
        exact ⟨⟨h.1, h.2.1⟩, h.2.2⟩
      rw [if_pos h, e]
      simp only [if_true]
    · have e : (decide (0 ≤ room ∧ room ≤ 500) && decide (0 ≤ gap ∧ gap ≤ 9)) = false := by
        cases hq : (decide (0 ≤ room ∧ room ≤ 500) && decide (0 ≤ gap ∧ gap ≤ 9)) with
        | false => rfl
        | true =>
          rw [Bool.and_eq_true, decide_eq_true_eq, decide_eq_true_eq] at hq
          exact absurd ⟨hq.1.1, hq.1.2, hq.2⟩ h
      rw [if_neg h, e]
      simp only [Bool.false_eq_true, if_false]
  obtain ⟨c1, h1⟩ : ∃ c, decide (0 ≤ room ∧ room ≤ 500) = c := ⟨_, rfl⟩
  obtain ⟨c2, h2⟩ : ∃ c, decide (0 ≤ gap ∧ gap ≤ 9) = c := ⟨_, rfl⟩
  rw [h1, h2] at HV
  have T1 := Lib.hid h1
  have T2 := Lib.hid h2
  clear h1 h2
  generalize chkV room gap n P = v at *
  clear hS
  have HB0 := Lib.hid (Below.refl w.heap.size w)
  cases c1 with
  | false =>
    obtain rfl : v = 160 := by have := HV.out; simpa using this
    go_enter Try.func18, Try.ntmps18
    go_wp2_with (first
      | (go_at_call 33; refine (isTo_any _ _ _).mono ?_; rintro e w' ⟨rfl, rfl⟩; first | rw [T1.out] | rw [T2.out]))
    go_ret
    exact ⟨rfl, HB0.out⟩
  | true =>
    cases c2 with
    | false =>
      obtain rfl : v = 160 := by have := HV.out; simpa using this
      go_enter Try.func18, Try.ntmps18
      go_wp2_with (first
        | (go_at_call 33; refine (isTo_any _ _ _).mono ?_; rintro e w' ⟨rfl, rfl⟩; first | rw [T1.out] | rw [T2.out]))
      go_ret
      exact ⟨rfl, HB0.out⟩
    | true =>
      by_cases h1 : (n : Int) < 1
      · obtain rfl : v = 3 := by
          have := HV.out
          rw [if_pos (by rfl), if_neg (by omega)] at this
          exact this
        go_enter Try.func18, Try.ntmps18
        go_wp2_with (first
          | (go_at_call 33; refine (isTo_any _ _ _).mono ?_; rintro e w' ⟨rfl, rfl⟩; first | rw [T1.out] | rw [T2.out]))
        go_ret
        exact ⟨rfl, HB0.out⟩
      · by_cases h2 : (n : Int) > 64
        · obtain rfl : v = 3 := by
            have := HV.out
            rw [if_pos (by rfl), if_neg (by omega)] at this
            exact this
          go_enter Try.func18, Try.ntmps18
          go_wp2_with (first
            | (go_at_call 33; refine (isTo_any _ _ _).mono ?_; rintro e w' ⟨rfl, rfl⟩; first | rw [T1.out] | rw [T2.out]))
          go_ret
          exact ⟨rfl, HB0.out⟩
        · have hv : v = if allOk P n then 0 else 1 := by
            have := HV.out
            rw [if_pos (by rfl), if_pos (by omega)] at this
            exact this
          generalize allOk P n = ao at *
          cases ao with
          | true =>
            obtain rfl : v = 0 := by simpa using hv
            clear hv HV
            go_enter Try.func18, Try.ntmps18
            go_wp2_with (first
              | (go_at_call 33; refine (isTo_any _ _ _).mono ?_; rintro e w' ⟨rfl, rfl⟩; first | rw [T1.out] | rw [T2.out])
              | (go_at_call 34; refine HC.out.mono ?_; rintro e w2 ⟨rfl, hb2⟩; have HB2 := Lib.hid hb2; clear hb2))
            go_ret
            exact ⟨rfl, HB2.out⟩
          | false =>
            obtain rfl : v = 1 := by simpa using hv
            clear hv HV
            go_enter Try.func18, Try.ntmps18
            go_wp2_with (first
              | (go_at_call 33; refine (isTo_any _ _ _).mono ?_; rintro e w' ⟨rfl, rfl⟩; first | rw [T1.out] | rw [T2.out])
              | (go_at_call 34; refine HC.out.mono ?_; rintro e w2 ⟨rfl, hb2⟩; have HB2 := Lib.hid hb2; clear hb2))
            go_ret
            exact ⟨rfl, HB2.out⟩
end Go.Proofs.Ytdodogehlnchlaa
