/-
  Walk: Places.
-/
import Derived.Test.YtdodogehlnchlaaLySizes
namespace Go.Proofs.Ytdodogehlnchlaa
open Go.RowKit Go.Shelf Go.Sort
attribute [local go_sem] Oper.semAt_some
set_option linter.unusedVariables false
set_option linter.unusedSimpArgs false

set_option maxRecDepth 100000 in
set_option maxHeartbeats 8000000 in
theorem places_any (room gap al : Int) (A : Option Addr) (n c : Nat) (P : Nat → Pt) (w : World) (hn : n ≤ 65) (hS : Sl w w.heap.size A (ptB P n)) :
    Calls Try.prog 21 #[.int .i64 room, .int .i64 gap, .int .i64 al, .slice A n c] w fun e w' => ((chkV room gap n P ≠ 0 ∧ e = .returned (.tuple #[.slice none 0 0, .int .i64 (chkV room gap n P)])) ∨ (chkV room gap n P = 0 ∧ ¬ (0 ≤ al ∧ al ≤ 2) ∧ e = .returned (.tuple #[.slice none 0 0, .int .i64 5])) ∨ (chkV room gap n P = 0 ∧ (0 ≤ al ∧ al ≤ 2) ∧ ∃ S, w.heap.size ≤ S ∧ e = .returned (.tuple #[.slice (some ⟨S, 0, none⟩) n n, .int .i64 0]) ∧ Blk w' S 3 (rw1 (fun i => .int .i64 (l3 gap room al P n i).a) n))) ∧ Below w.heap.size w w' := by
  have HCK := Lib.hid (check_any room gap A n c P w hn hS)
  have HS := Lib.hid hS
  clear hS
  by_cases hv : chkV room gap n P = 0
  · obtain ⟨⟨r0, r5, g0, g9⟩, ⟨n1, n64⟩, hok⟩ := chkV_ok hv
    have HOK := Lib.hid hok
    have HV := Lib.hid hv
    rw [hv] at HCK
    clear hok hv
    by_cases hal : 0 ≤ al ∧ al ≤ 2
    case neg =>
      have HAL := Lib.hid hal
      by_cases h1 : al < 0
      · go_enter Try.func21, Try.ntmps21
        go_wp2_with (go_at_call 18; refine HCK.out.mono ?_; rintro e w1 ⟨rfl, hb1⟩; have HB1 := Lib.hid hb1; clear hb1)
        go_ret2
        exact ⟨.inr (.inl ⟨HV.out, HAL.out, rfl⟩), HB1.out⟩
      · have h2 : al > 2 := by omega
        clear hal
        go_enter Try.func21, Try.ntmps21
        go_wp2_with (go_at_call 18; refine HCK.out.mono ?_; rintro e w1 ⟨rfl, hb1⟩; have HB1 := Lib.hid hb1; clear hb1)
        go_ret2
        exact ⟨.inr (.inl ⟨HV.out, HAL.out, rfl⟩), HB1.out⟩
    have HAL := Lib.hid hal
    have ha1 : ¬ al < 0 := by omega
    have ha2 : ¬ al > 2 := by omega
    clear hal
    obtain ⟨i0, hi0, hz0, hz1, hz2⟩ := info_parts sizes_info
    have hb1 : i0.bytes * n ≤ 281474976710656 := by rw [hz2]; omega
    have HI0 := Lib.hid hi0
    have HZ0 := Lib.hid hz0
    have HZ1 := Lib.hid hz1
    have HBY := Lib.hid hb1
    have HM := Lib.hid (made_one (.int .i64 0) n)
    clear hi0 hz0 hz1 hz2 hb1
    go_enter Try.func21, Try.ntmps21
    go_upto_region 7 with (first
      | (go_at_call 18; refine HCK.out.mono ?_; rintro e w1 ⟨rfl, hb1⟩; have HB1 := Lib.hid hb1; clear hb1)
      | ((with_reducible refine at_dst 29 ?_); refine wpList_make_blk rfl _ _ _ rfl 3 i0 _ 1 Try.underlying32 HI0.out HZ0.out HZ1.out .i64 .i64 n n n rfl rfl rfl rfl HBY.out (by simp only [maxLen]; omega) ?_))
    obtain ⟨W1, hW1⟩ : ∃ W1, W1 = w1.alloc (.cells (madeCells #[.int .i64 0] (n * 1)) 3) := ⟨_, rfl⟩
    have hW1' : Blk W1 w1.heap.size 3 (rw1 (half (fun i => .int .i64 (l3 gap room al P n i).a) (.int .i64 0) 0) n) := by rw [half_zero, ← HM.out, hW1]; exact Blk.new _ _ _
    have hbw1 : Below w1.heap.size w1 W1 := by rw [hW1]; exact (Below.refl _ w1).alloc (Nat.le_refl _) _
    first | rw [← hW1] | (rw [Nat.mul_one] at hW1; rw [← hW1])
    clear hW1 HI0 HZ0 HZ1 HBY HM HCK
    have HW1 := Lib.hid hW1'
    have HBW1 := Lib.hid (HB1.out.trans (hbw1.mono HB1.out.size))
    have HS1 := Lib.hid ((HS.out.below HBW1.out).more (Nat.le_trans HBW1.out.size (Nat.le_refl _)))
    have hSl : w.heap.size ≤ w1.heap.size := HB1.out.size
    have hWl : w1.heap.size < W1.heap.size := hW1'.lt
    have HLAY := Lib.hid (lay_any room gap al A n c P W1 n1 n64 r0 r5 g0 g9 HOK.out HS1.out)
    clear hW1' hbw1 HS HB1
    generalize w1.heap.size = S at *
    obtain ⟨σ, hσ⟩ : ∃ σ, σ = l3 gap room al P n := ⟨_, rfl⟩
    rw [← hσ] at HLAY HW1
    have HSG := Lib.hid hσ
    clear hσ
    go_wp2_with (go_at_call 30; refine HLAY.out.mono ?_; rintro e w2 ⟨B, hBl, rfl, hbb, hb2⟩; have HB := Lib.hid hbb; have HW2 := Lib.hid (HW1.out.below hb2 hWl); have HBW2 := Lib.hid (HBW1.out.trans (hb2.mono HBW1.out.size)); clear hbb hb2)
    have hSB : S < B := by omega
    have hBw := HB.out.lt
    clear HLAY HW1 HBW1 HS1
    go_loopw [36] (fun v wr => ∃ k : Nat, v = .int .i64 k ∧ k ≤ n ∧ Blk wr B 62 (slB σ n) ∧ Blk wr S 3 (rw1 (half (fun i => .int .i64 (σ i).a) (.int .i64 0) k) n) ∧ Below w.heap.size w wr) (fun v _ => n - (intOf v).toNat)
    case atStart => exact ⟨0, rfl, by omega, HB.out, HW2.out, HBW2.out⟩
    case round =>
      obtain ⟨k, rfl, hk, h1, h2, h3⟩ := hrel
      have H1 := Lib.hid h1
      have H2 := Lib.hid h2
      have H3 := Lib.hid h3
      clear h1 h2 h3 HB HW2 HBW2
      by_cases hlt : k < n
      · have hki : (k : Int) < n := by omega
        have hrg : wr.rangeAt B (k * 7) (slC (σ k)) := fun j v hv => by
          have hj7 : j < 7 := by have := (List.getElem?_eq_some_iff.1 hv).1; rw [slC_len] at this; exact this
          rw [H1.out.cell, slB_get hlt hj7]; exact hv
        have HRG := Lib.hid hrg
        have HN0 := Lib.hid (Blk.new wr 62 (slC slZ))
        clear hrg
        go_upto_region 10 with (first
          | ((with_reducible refine at_dst 40 ?_); refine wpList_load_mid rfl _ _ rfl B (k * 7) rfl (slC (σ k)) _ HRG.out Try.underlying62 rfl slot_size ?_)
          | ((with_reducible refine at_store 13 ?_); refine wpList_store_blk rfl _ _ _ rfl rfl wr.heap.size 0 62 (slC slZ) (slC (σ k)) rfl rfl HN0.out (by rw [slC_len, slC_len]; omega) slot_size (slC_one _) ?_; intro wq hnq hgq))
        have hbq : Below wr.heap.size wr wq := ((Below.refl _ _).alloc (Nat.le_refl _) _).grown hgq (by simp) (fun j hj => by injection hj with hj; omega)
        have hq : Blk wq wr.heap.size 62 (slC (σ k)) := hnq
        have hcs : wq.cell? ⟨wr.heap.size, 5, none⟩ = some (.int .i64 (σ k).a) := hq.cell 5
        have H4 := Lib.hid (H1.out.below hbq H1.out.lt)
        have hH5 := H2.out.below hbq H2.out.lt
        have hcell := hH5.cell k
        have hfr := hH5.frozen k
        rw [rw1_get hlt] at hcell
        have H5 := Lib.hid hH5
        have H6 := Lib.hid (H3.out.trans (hbq.mono H3.out.size))
        have hsw : S < wr.heap.size := H2.out.lt
        clear hnq hgq hbq hq HN0 HRG hH5 H1 H2 H3
        generalize wr.heap.size = nb at *
        go_wp2_with (fail)
        have h5 := H5.out.set_ k (.int .i64 (σ k).a)
        rw [half_succ (fun i => .int .i64 (σ i).a)] at h5
        have h4 := Blk.setO H4.out (k := S) (by omega) k (.int .i64 (σ k).a)
        have h6 := H6.out.setCell (p := ⟨S, k, none⟩) (by simp; omega) (.int .i64 (σ k).a)
        go_roundw
        case rel => exact ⟨k + 1, by go_num, by omega, h4, h5, h6⟩
        case measure => simp [intOf]; omega
      · have hki : ¬ (k : Int) < n := by omega
        obtain rfl : k = n := by omega
        have hfin := H2.out
        rw [half_all, HSG.out] at hfin
        have HF := Lib.hid hfin
        clear hfin
        go_wp2_with (fail)
        go_ret2
        first | exact ⟨.inr (.inr ⟨HV.out, HAL.out, S, hSl, rfl, HF.out⟩), H3.out⟩ | exact ⟨.inr ⟨HV.out, S, hSl, rfl, HF.out⟩, H3.out⟩
  · have HV := Lib.hid hv
    have hne : (chkV room gap n P != 0) = true := by simp [hv]
    generalize chkV room gap n P = v at *
    go_enter Try.func21, Try.ntmps21
    go_wp2_with (go_at_call 18; refine HCK.out.mono ?_; rintro e w1 ⟨rfl, hb1⟩; have HB1 := Lib.hid hb1; clear hb1)
    go_ret2
    exact ⟨.inl ⟨HV.out, rfl⟩, HB1.out⟩
end Go.Proofs.Ytdodogehlnchlaa
