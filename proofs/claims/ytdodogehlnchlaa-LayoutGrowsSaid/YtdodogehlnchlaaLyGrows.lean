/-
  Walk: the law LayoutGrows.
-/
import Derived.Test.YtdodogehlnchlaaLyHolds
namespace Go.Proofs.Ytdodogehlnchlaa
open Go.RowKit Go.Shelf Go.Sort
attribute [local go_sem] Oper.semAt_some
set_option linter.unusedVariables false
set_option linter.unusedSimpArgs false

theorem chk_more {room gap : Int} {n : Nat} {P : Nat → Pt} (h : chkV room gap n P = 0) (h5 : room < 500) : chkV (room + 1) gap n P = 0 := by
  obtain ⟨⟨r0, r5, g0, g9⟩, hn, hok⟩ := chkV_ok h
  unfold chkV
  rw [if_pos ⟨by omega, by omega, g0, g9⟩, if_pos hn, if_pos ((allOk_iff P n).2 fun i hi => (okD_iff _).2 (hok i hi))]
/-- what has grown ahead of a place -/
theorem more_of {f g : Nat → Int} (h : (∀ i, g i = f i) ∨ ∃ j, ∀ i, g i = if i = j then f i + 1 else f i) :
    ∃ mo : Nat → Int, mo 0 = 0 ∧ (∀ k, mo (k + 1) = mo k + g k - f k) ∧ (∀ k, 0 ≤ mo k ∧ mo k ≤ 1) ∧ ∀ k, g k = f k ∨ g k = f k + 1 := by
  rcases h with h | ⟨j, h⟩
  · exact ⟨fun _ => 0, rfl, fun k => by simp only; rw [h k]; omega, fun k => by simp only; omega, fun k => .inl (h k)⟩
  · refine ⟨fun k => if j < k then 1 else 0, by simp, fun k => ?_, fun k => ?_, fun k => ?_⟩
    · rw [h k]
      simp only
      by_cases h1 : k = j
      · subst h1; rw [if_pos rfl, if_pos (by omega), if_neg (by omega)]; omega
      · rw [if_neg h1]
        by_cases h2 : j < k
        · rw [if_pos h2, if_pos (by omega)]; omega
        · rw [if_neg h2, if_neg (by omega)]; omega
    · simp only
      split <;> omega
    · rw [h k]
      split
      · exact .inr rfl
      · exact .inl rfl

set_option maxRecDepth 100000 in
set_option maxHeartbeats 8000000 in
theorem layoutGrows_walk (room gap : Int) (A : Option Addr) (n0 c : Nat) (P : Nat → Pt) (w : World) (hnc : n0 ≤ c) (hS0 : Sl w w.heap.size A (ptB P n0)) :
    Calls Try.prog 5 #[.int .i64 room, .int .i64 gap, .slice A n0 c] w fun e w' => e = .returned (.bool true) ∧ Below w.heap.size w w' := by
  obtain ⟨n, hn⟩ : ∃ n, min n0 65 = n := ⟨_, rfl⟩
  have HF := Lib.hid (hn ▸ lfew_any A n0 c hnc w)
  have hn65 : n ≤ 65 := by omega
  have hS : Sl w w.heap.size A (ptB P n) := by
    have := hS0.take (n * 4)
    rwa [show (ptB P n0).take (n * 4) = ptB P n from flB_take (fun i => ptC_len _) (by omega)] at this
  have HS := Lib.hid hS
  have HN := Lib.hid hn
  clear hS hS0 hn
  by_cases hroom : room ≥ 500
  · go_enter Try.func5, Try.ntmps5
    go_wp2_with (first
      | (go_at_call 9; refine HF.out.mono ?_; rintro e w1 ⟨rfl, rfl⟩)
      | (go_at_call 20; refine (lawake_any _).mono ?_; rintro e w9 ⟨rfl, hb9⟩))
    go_ret
    exact ⟨rfl, hb9⟩
  by_cases hv : chkV room gap n P = 0
  · obtain ⟨⟨r0, r5, g0, g9⟩, ⟨n1, n64⟩, hok⟩ := chkV_ok hv
    have hv2 := chk_more hv (by omega)
    have HRC := Lib.hid (hv ▸ lrcheck_any room gap A n c P w hn65 HS.out)
    have HZ1 := Lib.hid (fun w hS => sizes_ok room gap A n c P w hn65 hS hv)
    have HZ2 := Lib.hid (fun w hS => sizes_ok (room + 1) gap A n c P w hn65 hS hv2)
    have HT1 := Lib.hid (fun w hS => stay_ok room gap A n c P w hn65 hS hv)
    have HT2 := Lib.hid (fun w hS => stay_ok (room + 1) gap A n c P w hn65 hS hv2)
    have H3 : Hid (∀ i, i < n → 0 ≤ szR gap room P n i ∧ szR gap room P n i ≤ 500) := fun i hi => szR_bd r0 hok hi
    have H4 : Hid (∀ i, i < n → 0 ≤ szR gap (room + 1) P n i ∧ szR gap (room + 1) P n i ≤ 500) := fun i hi => szR_bd (by omega) hok hi
    have H5 : Hid (∀ i, kpR gap room P n i = true → kpR gap (room + 1) P n i = true) := fun i h => kp_more r0 h
    have H6 : Hid (alikeV n n (kpR gap room P n) (kpR gap (room + 1) P n) = true → (∀ i, szR gap (room + 1) P n i = szR gap room P n i) ∨ ∃ j, ∀ i, szR gap (room + 1) P n i = if i = j then szR gap room P n i + 1 else szR gap room P n i) := fun h =>
      sz_more r0 hok (of_decide_eq_true h).2
    obtain ⟨f, hf⟩ : ∃ f, szR gap room P n = f := ⟨_, rfl⟩
    obtain ⟨g, hg⟩ : ∃ f, szR gap (room + 1) P n = f := ⟨_, rfl⟩
    obtain ⟨a, ha⟩ : ∃ b, kpR gap room P n = b := ⟨_, rfl⟩
    obtain ⟨b, hb⟩ : ∃ b, kpR gap (room + 1) P n = b := ⟨_, rfl⟩
    rw [hf] at H3 HZ1
    rw [hg] at H4 HZ2
    rw [ha, hb] at H5
    rw [ha, hb, hf, hg] at H6
    rw [ha] at HT1
    rw [hb] at HT2
    have hneg : ¬ 500 ≤ room := by omega
    clear hf hg ha hb hv hv2 hok
    go_enter Try.func5, Try.ntmps5
    go_upto_region 4 with (first
      | (go_at_call 9; refine HF.out.mono ?_; rintro e w1 ⟨rfl, rfl⟩)
      | (go_at_call 19; refine HRC.out.mono ?_; rintro e w2 ⟨rfl, hb2⟩; have HB2 := Lib.hid hb2; clear hb2))
    have HS2 := Lib.hid ((HS.out.below HB2.out).more HB2.out.size)
    go_upto_region 5 with (go_at_call 12; refine (HT1.out _ HS2.out).mono ?_; rintro e w3 ⟨⟨S1, hs1, rfl, hbl1⟩, hb3⟩; have HL1 := Lib.hid hbl1; have HB3 := Lib.hid hb3; clear hs1 hbl1 hb3)
    have HS3 := Lib.hid ((HS2.out.below HB3.out).more HB3.out.size)
    go_upto_region 6 with (go_at_call 12; refine (HT2.out _ HS3.out).mono ?_; rintro e w4 ⟨⟨S2, hs2, rfl, hbl2⟩, hb4⟩; have HL2 := Lib.hid hbl2; have HB4 := Lib.hid hb4; clear hs2 hbl2 hb4)
    have HS4 := Lib.hid ((HS3.out.below HB4.out).more HB4.out.size)
    go_upto_region 7 with (go_at_call 14; refine (HZ1.out _ HS4.out).mono ?_; rintro e w5 ⟨⟨S3, hs3, rfl, hbl3⟩, hb5⟩; have HL3 := Lib.hid hbl3; have HB5 := Lib.hid hb5; clear hs3 hbl3 hb5)
    have HS5 := Lib.hid ((HS4.out.below HB5.out).more HB5.out.size)
    go_upto_region 10 with (go_at_call 14; refine (HZ2.out _ HS5.out).mono ?_; rintro e w6 ⟨⟨S4, hs4, rfl, hbl4⟩, hb6⟩; have HL4 := Lib.hid hbl4; have HB6 := Lib.hid hb6; clear hs4 hbl4 hb6)
    have M3 := Lib.hid (HL3.out.below HB6.out HL3.out.lt)
    have M2a := Lib.hid (HL2.out.below HB5.out HL2.out.lt)
    have M2 := Lib.hid (M2a.out.below HB6.out M2a.out.lt)
    have M1a := Lib.hid (HL1.out.below HB4.out HL1.out.lt)
    have M1b := Lib.hid (M1a.out.below HB5.out M1a.out.lt)
    have M1 := Lib.hid (M1b.out.below HB6.out M1b.out.lt)
    have HW3 := Lib.hid (HB2.out.trans (HB3.out.mono HB2.out.size))
    have HW4 := Lib.hid (HW3.out.trans (HB4.out.mono HW3.out.size))
    have HW5 := Lib.hid (HW4.out.trans (HB5.out.mono HW4.out.size))
    have HBW := Lib.hid (HW5.out.trans (HB6.out.mono HW5.out.size))
    have l1 := M1.out.lt
    have l2 := M2.out.lt
    have l3 := M3.out.lt
    have l4 := HL4.out.lt
    have HMO : Hid (∃ mo : Nat → Int, mo 0 = 0 ∧ (∀ k, 0 ≤ mo k ∧ mo k ≤ 1) ∧ ((alikeV n n a b = true ∧ (∀ k, mo (k + 1) = mo k + g k - f k) ∧ ∀ k, g k = f k ∨ g k = f k + 1) ∨ (alikeV n n a b = false ∧ ∀ k, mo (k + 1) = mo k))) := by
      cases hal : alikeV n n a b with
      | true =>
        obtain ⟨mo, q1, q2, q3, q4⟩ := more_of (H6.out hal)
        exact ⟨mo, q1, q3, .inl ⟨rfl, q2, q4⟩⟩
      | false => exact ⟨fun _ => 0, rfl, fun k => by simp, .inr ⟨rfl, fun k => rfl⟩⟩
    clear HL1 HL2 HL3 M1a M1b M2a HS2 HS3 HS4 HS5 HB2 HB3 HB4 HB5 HB6 HW3 HW4 HW5 HF HRC HS HZ1 HZ2 HT1 HT2 HN hnc H6
    obtain ⟨mo, hm0, hmb, hcase⟩ := HMO.out
    have HM0 := Lib.hid hm0
    have HMB := Lib.hid hmb
    have HC := Lib.hid hcase
    clear hm0 hmb hcase HMO
    go_wp2_with (fail)
    go_loopw [15, 16] (fun v15 v16 wr => ∃ k : Nat, v16 = .int .i64 k ∧ k ≤ n ∧ v15 = .int .i64 (mo k) ∧ Below w6.heap.size w6 wr) (fun _ v _ => n - (intOf v).toNat)
    case atStart => exact ⟨0, rfl, by omega, by rw [HM0.out], Below.refl _ _⟩
    case round =>
      obtain ⟨k, rfl, hk, rfl, hrb⟩ := hrel
      have HR := Lib.hid hrb
      clear hrb
      have hmk := HMB.out k
      by_cases hlt : k < n
      · have hki : (k : Int) < n := by omega
        have N1 := M1.out.below HR.out l1
        have N2 := M2.out.below HR.out l2
        have N3 := M3.out.below HR.out l3
        have N4 := HL4.out.below HR.out l4
        have c1 : wr.cell? ⟨S1, k, none⟩ = some (.bool (a k)) := by rw [N1.cell, rw1_get hlt]
        have c2 : wr.cell? ⟨S2, k, none⟩ = some (.bool (b k)) := by rw [N2.cell, rw1_get hlt]
        have c3 : wr.cell? ⟨S3, k, none⟩ = some (.int .i64 (f k)) := by rw [N3.cell, rw1_get hlt]
        have c4 : wr.cell? ⟨S4, k, none⟩ = some (.int .i64 (g k)) := by rw [N4.cell, rw1_get hlt]
        have HAL := Lib.hid (alike_any (some ⟨S1, 0, none⟩) (some ⟨S2, 0, none⟩) n n n n a b wr (by omega) (by omega) N1.sl N2.sl)
        have C3 := Lib.hid c3
        have C4 := Lib.hid c4
        have h3 := H3.out k hlt
        have h4 := H4.out k hlt
        have H5K := Lib.hid (H5.out k)
        have HW := Lib.hid HC.out
        obtain ⟨h3a, h3b⟩ := h3
        obtain ⟨h4a, h4b⟩ := h4
        obtain ⟨m0, hm0⟩ : ∃ s, mo k = s := ⟨_, rfl⟩
        rw [hm0] at hmk
        rw [hm0]
        have HM := Lib.hid hm0
        obtain ⟨hmk1, hmk2⟩ := hmk
        clear hm0 c3 c4 N1 N2 N3 N4
        rcases HC.out with ⟨hal, hst, heq⟩ | ⟨hal, hst⟩
        · rw [hal] at HAL
          have HST := Lib.hid (hst k)
          have heqk := heq k
          have HEQ : Hid (∀ i, g i = f i ∨ g i = f i + 1) := heq
          clear hal hst heq
          obtain ⟨x, hx⟩ : ∃ x, f k = x := ⟨_, rfl⟩
          obtain ⟨y, hy⟩ : ∃ x, g k = x := ⟨_, rfl⟩
          rw [hx] at C3 h3a h3b HST heqk
          rw [hy] at C4 h4a h4b HST heqk
          rw [HM.out] at HST
          clear hx hy
          cases hak : a k with
          | true =>
            have hbk := H5K.out hak
            rw [hak] at c1
            rw [hbk] at c2
            clear hbk
            go_upto_region 17 with (go_at_call 16; refine HAL.out.mono ?_; rintro e w7 ⟨rfl, hb7⟩; have HB7 := Lib.hid hb7; clear hb7)
            have HR2 := Lib.hid (HR.out.trans (HB7.out.mono HR.out.size))
            have e3 := (HB7.out.cell (p := ⟨S3, k, none⟩) (World.block_lt_of_cell? wr _ C3.out)).trans C3.out
            have e4 := (HB7.out.cell (p := ⟨S4, k, none⟩) (World.block_lt_of_cell? wr _ C4.out)).trans C4.out
            have E3 := Lib.hid e3
            have E4 := Lib.hid e4
            have k3 := cell_regrown e3
            have k4 := cell_regrown e4
            clear e3 e4 c1 HAL C3 C4 hak
            rcases heqk with rfl | rfl
            · go_wp2_with (fail)
              refine region_below0 (by kernel_rfl) (by kernel_rfl) ?_
              repeat (first
                | go_big_quiet_step (fail)
                | quiet_step (fail))
              refine wpQuiet_nil ?_
              intro _ hw'
              obtain ⟨⟨dq, osq⟩, hw''⟩ := hw'
              subst hw''
              have hbx := below_regrown w7 dq osq
              have HR3 := Lib.hid (HR2.out.trans (hbx.mono HR2.out.size))
              have k5 := cell_regrown (cell_regrown E3.out dq osq)
              have k6 := cell_regrown (cell_regrown E4.out dq osq)
              clear k3 k4 hbx E3 E4
              generalize grow (redrawn w7 dq) osq = W2 at *
              go_wp2_with (fail)
              refine region_below0 (by kernel_rfl) (by kernel_rfl) ?_
              repeat (first
                | go_big_quiet_step (fail)
                | quiet_step (fail))
              refine wpQuiet_nil ?_
              intro _ hw'
              obtain ⟨⟨dq, osq⟩, hw''⟩ := hw'
              subst hw''
              have HR4 := Lib.hid (HR3.out.trans ((below_regrown W2 dq osq).mono HR3.out.size))
              clear k5 k6
              generalize grow (redrawn W2 dq) osq = W5 at *
              go_wp2_with (fail)
              go_roundw
              case rel => exact ⟨k + 1, by go_num, by omega, by rw [HST.out] <;> (congr 1; omega), HR4.out⟩
              case measure => simp [intOf]; omega

            · have hne : ¬ (x + 1 : Int) = x := by omega
              have hne2 : ((x + 1 : Int) != x) = true := by simp; omega
              go_wp2_with (fail)
              refine region_below0 (by kernel_rfl) (by kernel_rfl) ?_
              repeat (first
                | go_big_quiet_step (fail)
                | quiet_step (fail))
              refine wpQuiet_nil ?_
              intro _ hw'
              obtain ⟨⟨dq, osq⟩, hw''⟩ := hw'
              subst hw''
              have hbx := below_regrown w7 dq osq
              have HR3 := Lib.hid (HR2.out.trans (hbx.mono HR2.out.size))
              have k5 := cell_regrown (cell_regrown E3.out dq osq)
              have k6 := cell_regrown (cell_regrown E4.out dq osq)
              clear k3 k4 hbx E3 E4
              generalize grow (redrawn w7 dq) osq = W2 at *
              go_wp2_with (fail)
              refine region_below0 (by kernel_rfl) (by kernel_rfl) ?_
              repeat (first
                | go_big_quiet_step (fail)
                | quiet_step (fail))
              refine wpQuiet_nil ?_
              intro _ hw'
              obtain ⟨⟨dq, osq⟩, hw''⟩ := hw'
              subst hw''
              have HR4 := Lib.hid (HR3.out.trans ((below_regrown W2 dq osq).mono HR3.out.size))
              clear k5 k6
              generalize grow (redrawn W2 dq) osq = W5 at *
              go_wp2_with (fail)
              go_roundw
              case rel => exact ⟨k + 1, by go_num, by omega, by rw [HST.out] <;> (congr 1; omega), HR4.out⟩
              case measure => simp [intOf]; omega

          | false =>
            rw [hak] at c1
            clear c2
            go_upto_region 17 with (go_at_call 16; refine HAL.out.mono ?_; rintro e w7 ⟨rfl, hb7⟩; have HB7 := Lib.hid hb7; clear hb7)
            have HR2 := Lib.hid (HR.out.trans (HB7.out.mono HR.out.size))
            have e3 := (HB7.out.cell (p := ⟨S3, k, none⟩) (World.block_lt_of_cell? wr _ C3.out)).trans C3.out
            have e4 := (HB7.out.cell (p := ⟨S4, k, none⟩) (World.block_lt_of_cell? wr _ C4.out)).trans C4.out
            have E3 := Lib.hid e3
            have E4 := Lib.hid e4
            have k3 := cell_regrown e3
            have k4 := cell_regrown e4
            clear e3 e4 c1 HAL C3 C4 hak
            rcases heqk with rfl | rfl
            · go_wp2_with (fail)
              refine region_below0 (by kernel_rfl) (by kernel_rfl) ?_
              repeat (first
                | go_big_quiet_step (fail)
                | quiet_step (fail))
              refine wpQuiet_nil ?_
              intro _ hw'
              obtain ⟨⟨dq, osq⟩, hw''⟩ := hw'
              subst hw''
              have hbx := below_regrown w7 dq osq
              have HR3 := Lib.hid (HR2.out.trans (hbx.mono HR2.out.size))
              have k5 := cell_regrown (cell_regrown E3.out dq osq)
              have k6 := cell_regrown (cell_regrown E4.out dq osq)
              clear k3 k4 hbx E3 E4
              generalize grow (redrawn w7 dq) osq = W2 at *
              go_wp2_with (fail)
              refine region_below0 (by kernel_rfl) (by kernel_rfl) ?_
              repeat (first
                | go_big_quiet_step (fail)
                | quiet_step (fail))
              refine wpQuiet_nil ?_
              intro _ hw'
              obtain ⟨⟨dq, osq⟩, hw''⟩ := hw'
              subst hw''
              have HR4 := Lib.hid (HR3.out.trans ((below_regrown W2 dq osq).mono HR3.out.size))
              clear k5 k6
              generalize grow (redrawn W2 dq) osq = W5 at *
              go_wp2_with (fail)
              go_roundw
              case rel => exact ⟨k + 1, by go_num, by omega, by rw [HST.out] <;> (congr 1; omega), HR4.out⟩
              case measure => simp [intOf]; omega

            · have hne : ¬ (x + 1 : Int) = x := by omega
              have hne2 : ((x + 1 : Int) != x) = true := by simp; omega
              go_wp2_with (fail)
              refine region_below0 (by kernel_rfl) (by kernel_rfl) ?_
              repeat (first
                | go_big_quiet_step (fail)
                | quiet_step (fail))
              refine wpQuiet_nil ?_
              intro _ hw'
              obtain ⟨⟨dq, osq⟩, hw''⟩ := hw'
              subst hw''
              have hbx := below_regrown w7 dq osq
              have HR3 := Lib.hid (HR2.out.trans (hbx.mono HR2.out.size))
              have k5 := cell_regrown (cell_regrown E3.out dq osq)
              have k6 := cell_regrown (cell_regrown E4.out dq osq)
              clear k3 k4 hbx E3 E4
              generalize grow (redrawn w7 dq) osq = W2 at *
              go_wp2_with (fail)
              refine region_below0 (by kernel_rfl) (by kernel_rfl) ?_
              repeat (first
                | go_big_quiet_step (fail)
                | quiet_step (fail))
              refine wpQuiet_nil ?_
              intro _ hw'
              obtain ⟨⟨dq, osq⟩, hw''⟩ := hw'
              subst hw''
              have HR4 := Lib.hid (HR3.out.trans ((below_regrown W2 dq osq).mono HR3.out.size))
              clear k5 k6
              generalize grow (redrawn W2 dq) osq = W5 at *
              go_wp2_with (fail)
              go_roundw
              case rel => exact ⟨k + 1, by go_num, by omega, by rw [HST.out] <;> (congr 1; omega), HR4.out⟩
              case measure => simp [intOf]; omega

        · rw [hal] at HAL
          have HST := Lib.hid (hst k)
          rw [HM.out] at HST
          clear hal hst
          cases hak : a k with
          | true =>
            have hbk := H5K.out hak
            rw [hak] at c1
            rw [hbk] at c2
            clear hbk
            go_wp2_with (go_at_call 16; refine HAL.out.mono ?_; rintro e w7 ⟨rfl, hb7⟩; have HB7 := Lib.hid hb7; clear hb7)
            have HR2 := Lib.hid (HR.out.trans (HB7.out.mono HR.out.size))
            go_roundw
            case rel => exact ⟨k + 1, by go_num, by omega, by rw [HST.out], HR2.out⟩
            case measure => simp [intOf]; omega
          | false =>
            rw [hak] at c1
            clear c2
            go_wp2_with (go_at_call 16; refine HAL.out.mono ?_; rintro e w7 ⟨rfl, hb7⟩; have HB7 := Lib.hid hb7; clear hb7)
            have HR2 := Lib.hid (HR.out.trans (HB7.out.mono HR.out.size))
            go_roundw
            case rel => exact ⟨k + 1, by go_num, by omega, by rw [HST.out], HR2.out⟩
            case measure => simp [intOf]; omega
      · have hki : ¬ (k : Int) < n := by omega
        obtain rfl : k = n := by omega
        have HLW := Lib.hid (lawake_any wr)
        have HBE : Hid (∀ W, Below wr.heap.size wr W → Below w.heap.size w W) := fun W h => HBW.out.trans ((HR.out.trans (h.mono HR.out.size)).mono HBW.out.size)
        obtain ⟨m0, hm0⟩ : ∃ s, mo k = s := ⟨_, rfl⟩
        rw [hm0] at hmk
        rw [hm0]
        obtain ⟨hmk1, hmk2⟩ := hmk
        clear hm0
        go_wp2_with (go_at_call 20; refine HLW.out.mono ?_; rintro e w9 ⟨rfl, hb9⟩)
        go_ret
        exact ⟨ret_bool (by simp), HBE.out _ hb9⟩
  · have hne : (chkV room gap n P != 0) = true := by simp [hv]
    have HRC := Lib.hid (lrcheck_any room gap A n c P w hn65 HS.out)
    have hneg : ¬ 500 ≤ room := by omega
    generalize chkV room gap n P = v at *
    go_enter Try.func5, Try.ntmps5
    go_wp2_with (first
      | (go_at_call 9; refine HF.out.mono ?_; rintro e w1 ⟨rfl, rfl⟩)
      | (go_at_call 19; refine HRC.out.mono ?_; rintro e w2 ⟨rfl, hb2⟩; have HB2 := Lib.hid hb2; clear hb2)
      | (go_at_call 20; refine (lawake_any _).mono ?_; rintro e w9 ⟨rfl, hb9⟩))
    go_ret
    exact ⟨rfl, HB2.out.trans (hb9.mono HB2.out.size)⟩
end Go.Proofs.Ytdodogehlnchlaa
