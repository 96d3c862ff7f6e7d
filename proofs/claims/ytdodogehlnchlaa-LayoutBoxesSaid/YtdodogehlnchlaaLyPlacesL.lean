/-
  Walk: the law LayoutPlaces.
-/
import Derived.Test.YtdodogehlnchlaaLySizesL
namespace Go.Proofs.Ytdodogehlnchlaa
open Go.RowKit Go.Shelf Go.Sort
attribute [local go_sem] Oper.semAt_some
set_option linter.unusedVariables false
set_option linter.unusedSimpArgs false

theorem pos_mono {gap x : Int} {f : Nat → Int} {b : Nat → Bool} {k m : Nat} (g0 : 0 ≤ gap) (h : ∀ i, i < m → 0 ≤ f i) (hk : k ≤ m) : pos gap x f b k ≤ pos gap x f b m := by
  obtain ⟨d, rfl⟩ : ∃ d, m = k + d := ⟨m - k, by omega⟩
  clear hk
  induction d with
  | zero => exact Int.le_refl _
  | succ d ih =>
    have ih' := ih (fun i hi => h i (by omega))
    rw [show k + (d + 1) = k + d + 1 by omega]
    cases hb : b (k + d) with
    | true => rw [pos_yes hb]; have := h (k + d) (by omega); omega
    | false => rw [pos_no hb]; exact ih'
theorem pos_end {gap room : Int} {P : Nat → Pt} {n : Nat} (x : Int) (h0 : 0 ≤ room) (hne : ki (kpR gap room P n) n ≠ []) : pos gap x (szR gap room P n) (kpR gap room P n) n - gap + overR gap room P n = x + room := by
  have e := tot_over h0 hne
  unfold totR at e
  unfold pos
  rw [Int.mul_sub, Int.mul_one] at e
  omega
theorem ahead_le {ov al : Int} (h : 0 ≤ ov) : aheadV ov al ≤ ov := by
  unfold aheadV
  split
  · omega
  · split <;> omega
/-- what stands kept lies in the room -/
theorem pl_in {gap room al : Int} {P : Nat → Pt} {n k : Nat} (h0 : 0 ≤ room) (g0 : 0 ≤ gap) (g9 : gap ≤ 9) (hP : ∀ i, i < n → (P i).Ok) (hk : k < n) (hb : kpR gap room P n k = true) :
    plR gap room al P n k = pos gap (aheadV (overR gap room P n) al) (szR gap room P n) (kpR gap room P n) k ∧ 0 ≤ plR gap room al P n k ∧ plR gap room al P n k + szR gap room P n k ≤ room := by
  have hov := over_pos gap room P n
  have hz : ∀ i, i < n → 0 ≤ szR gap room P n i := fun i hi => (szR_bd h0 hP hi).1
  have e : plR gap room al P n k = pos gap (aheadV (overR gap room P n) al) (szR gap room P n) (kpR gap room P n) k := by unfold plR; rw [if_pos hb]
  have hx0 : 0 ≤ aheadV (overR gap room P n) al := by
    unfold aheadV
    split
    · omega
    · split <;> omega
  have hx1 := ahead_le (al := al) hov
  have m1 := pos_mono (x := aheadV (overR gap room P n) al) (b := kpR gap room P n) (k := 0) (m := k) g0 (fun i hi => hz i (by omega)) (by omega)
  have m2 := pos_mono (x := aheadV (overR gap room P n) al) (b := kpR gap room P n) (k := k + 1) (m := n) g0 hz (by omega)
  rw [pos_yes hb] at m2
  have e0 : pos gap (aheadV (overR gap room P n) al) (szR gap room P n) (kpR gap room P n) 0 = aheadV (overR gap room P n) al := by simp [pos, ki_zero, sumL]
  have hne : ki (kpR gap room P n) n ≠ [] := fun h => by
    have : k ∈ ki (kpR gap room P n) n := mem_ki.2 ⟨hk, hb⟩
    rw [h] at this; cases this
  have e2 := pos_end (aheadV (overR gap room P n) al) h0 hne
  rw [e]
  refine ⟨rfl, by omega, by omega⟩

set_option maxRecDepth 100000 in
set_option maxHeartbeats 16000000 in
theorem layoutPlaces_walk (room gap al : Int) (A : Option Addr) (n0 c : Nat) (P : Nat → Pt) (w : World) (hnc : n0 ≤ c) (hS0 : Sl w w.heap.size A (ptB P n0)) :
    Calls Try.prog 7 #[.int .i64 room, .int .i64 gap, .int .i64 al, .slice A n0 c] w fun e w' => e = .returned (.bool true) ∧ Below w.heap.size w w' := by
  obtain ⟨n, hn⟩ : ∃ n, min n0 65 = n := ⟨_, rfl⟩
  have HF := Lib.hid (hn ▸ lfew_any A n0 c hnc w)
  have hn65 : n ≤ 65 := by omega
  have hS : Sl w w.heap.size A (ptB P n) := by
    have := hS0.take (n * 4)
    rwa [show (ptB P n0).take (n * 4) = ptB P n from flB_take (fun i => ptC_len _) (by omega)] at this
  have HS := Lib.hid hS
  have HNL := Lib.hid (mR_le (room := room) (gap := gap) (al := al) (P := P) hn65)
  have U1 := Lib.hid (fun w h => pplacesU room gap al A n c P w hn65 h)
  have U2 := Lib.hid (fun w h => rplacesU room gap al A n c P w hn65 h)
  clear hS hS0 hn
  have head : ∀ (M : Nat) (ev : Int), mR room gap al n P = M → eR room gap al n P = ev → True := fun _ _ _ _ => trivial
  clear head
  by_cases hgood : chkV room gap n P = 0 ∧ (0 ≤ al ∧ al ≤ 2)
  · obtain ⟨hv, hal⟩ := hgood
    obtain ⟨⟨r0, r5, g0, g9⟩, ⟨n1, n64⟩, hok⟩ := chkV_ok hv
    have hM : mR room gap al n P = n := by unfold mR; rw [if_pos ⟨hv, hal⟩]
    have hE : eR room gap al n P = 0 := by unfold eR; rw [if_pos hv, if_pos hal]
    rw [hM, hE] at U1 U2
    have U5 := Lib.hid (fun w h => sizes_ok room gap A n c P w hn65 h hv)
    have U6 := Lib.hid (fun w h => stay_ok room gap A n c P w hn65 h hv)
    have hov0 := over_pos gap room P n
    have hov5 : overR gap room P n ≤ 500 := Int.le_trans (over_le r0 g0 g9 hok) r5
    have hx := ahead_bd (al := al) hov0 hov5
    have H3 : Hid (∀ i, i < n → 0 ≤ szR gap room P n i ∧ szR gap room P n i ≤ 500) := fun i hi => szR_bd r0 hok hi
    have HK : Hid (∀ k, k < n → kpR gap room P n k = true → plR gap room al P n k = pos gap (aheadV (overR gap room P n) al) (szR gap room P n) (kpR gap room P n) k ∧ 0 ≤ plR gap room al P n k ∧ plR gap room al P n k + szR gap room P n k ≤ room) := fun k hk hb => pl_in r0 g0 g9 hok hk hb
    have HEND : Hid (ki (kpR gap room P n) n ≠ [] → al = 1 → pos gap (aheadV (overR gap room P n) al) (szR gap room P n) (kpR gap room P n) n - gap = room) := fun hne h1 => by
      have := pos_end (aheadV (overR gap room P n) al) r0 hne
      have e : aheadV (overR gap room P n) al = overR gap room P n := by unfold aheadV; rw [if_pos h1]
      omega
    have HX0 : Hid (al = 0 → aheadV (overR gap room P n) al = 0) := fun h => by unfold aheadV; rw [if_neg (by omega), if_neg (by omega)]
    obtain ⟨f, hf⟩ : ∃ f, szR gap room P n = f := ⟨_, rfl⟩
    obtain ⟨b, hb⟩ : ∃ b, kpR gap room P n = b := ⟨_, rfl⟩
    obtain ⟨pl, hpl⟩ : ∃ p, plR gap room al P n = p := ⟨_, rfl⟩
    obtain ⟨x0, hx0⟩ : ∃ x, aheadV (overR gap room P n) al = x := ⟨_, rfl⟩
    rw [hf] at H3 U5
    rw [hb] at U6
    rw [hf, hb, hpl, hx0] at HK
    rw [hf, hb, hx0] at HEND
    rw [hx0] at HX0 hx
    rw [hpl] at U1 U2
    obtain ⟨hxa, hxb⟩ := hx
    clear hf hb hpl hx0 hv hM hE hok hov0 hov5
    clear HNL
    go_enter Try.func7, Try.ntmps7
    go_upto_region 2 with (go_at_call 9; refine HF.out.mono ?_; rintro e w1 ⟨rfl, rfl⟩)
    go_upto_region 3 with (go_at_call 21; refine (U1.out _ HS.out).mono ?_; rintro e w2 ⟨⟨S1, q1, rfl, hr⟩, hb⟩; have HS2 := Lib.hid (sl_on HS.out hb); have B2 := Lib.hid hb; have R2 := Lib.hid hr; clear hb hr)
    go_upto_region 4 with (go_at_call 22; refine (U2.out _ HS2.out).mono ?_; rintro e w3 ⟨⟨S2, q2, rfl, hr⟩, hb⟩; have HS3 := Lib.hid (sl_on HS2.out hb); have B3 := Lib.hid (B2.out.trans (hb.mono B2.out.size)); have R3 := Lib.hid (sl_on R2.out hb); have T3 := Lib.hid hr; clear hb hr)
    go_upto_region 8 with (first
      | (go_at_call 17; refine (sameS hn65 R3.out T3.out).mono ?_; rintro e w4 ⟨rfl, hb⟩; have HS4 := Lib.hid (sl_on HS3.out hb); have B4 := Lib.hid (B3.out.trans (hb.mono B3.out.size)); have R4 := Lib.hid (sl_on R3.out hb); clear hb)
      | (go_at_call 20; refine (lawake_any _).mono ?_; rintro e w5 ⟨rfl, hb⟩; have HS5 := Lib.hid (sl_on HS4.out hb); have B5 := Lib.hid (B4.out.trans (hb.mono B4.out.size)); have R5 := Lib.hid (sl_on R4.out hb); clear hb))
    go_upto_region 9 with (go_at_call 14; refine (U5.out _ HS5.out).mono ?_; rintro e w6 ⟨⟨S3, _, rfl, hr⟩, hb⟩; have HS6 := Lib.hid (sl_on HS5.out hb); have B6 := Lib.hid (B5.out.trans (hb.mono B5.out.size)); have R6 := Lib.hid (sl_on R5.out hb); have L6 := Lib.hid hr; clear hb hr)
    go_upto_region 12 with (go_at_call 12; refine (U6.out _ HS6.out).mono ?_; rintro e w7 ⟨⟨S4, _, rfl, hr⟩, hb⟩; have B7 := Lib.hid (B6.out.trans (hb.mono B6.out.size)); have R7 := Lib.hid (sl_on R6.out hb); have L7 := Lib.hid (L6.out.below hb L6.out.lt); have M7 := Lib.hid hr; clear hb hr)
    have l3l := L7.out.lt
    have l4l := M7.out.lt
    clear R2 R3 R4 R5 R6 T3 HS HS2 HS3 HS4 HS5 HS6 B2 B3 B4 B5 B6 L6 U1 U2 U5 U6 HF hnc
    go_wp2_with (fail)
    go_loopw [17, 18] (fun v17 v18 wr => ∃ k : Nat, v18 = .int .i64 k ∧ k ≤ n ∧ v17 = .int .i64 (if ki b k = [] then -1 else pos gap x0 f b k) ∧ Below w7.heap.size w7 wr) (fun _ v _ => n - (intOf v).toNat)
    case atStart => exact ⟨0, rfl, by omega, by rw [if_pos (ki_zero b)], Below.refl _ _⟩
    case round =>
      obtain ⟨k, rfl, hk, rfl, hrb⟩ := hrel
      have HR := Lib.hid hrb
      obtain ⟨a0, ha0⟩ : ∃ x : Int, (if ki b k = [] then -1 else pos gap x0 f b k) = x := ⟨_, rfl⟩
      rw [ha0]
      have HA0 := Lib.hid ha0
      clear ha0
      by_cases hlt : k < n
      · have hki : (k : Int) < n := by omega
        obtain ⟨b1, o1, rfl, hb1, hc1⟩ := rw1_at R7.out hlt
        have c1 := (hrb.cell (p := ⟨b1, o1 + k, none⟩) hb1).trans hc1
        have c2 : wr.cell? ⟨S3, k, none⟩ = some (.int .i64 (f k)) := by rw [(L7.out.below hrb l3l).cell, rw1_get hlt]
        have c3 : wr.cell? ⟨S4, k, none⟩ = some (.bool (b k)) := by rw [(M7.out.below hrb l4l).cell, rw1_get hlt]
        clear hrb hc1
        cases hbk : b k with
        | false =>
          rw [hbk] at c3
          have HN : Hid ((if ki b (k + 1) = [] then -1 else pos gap x0 f b (k + 1)) = a0) := by show _ = _; rw [ki_no hbk, pos_no hbk]; exact HA0.out
          clear hbk c1 c2
          go_wp2_with (fail)
          go_roundw
          case rel => exact ⟨k + 1, by go_num, by omega, by rw [HN.out], HR.out⟩
          case measure => simp [intOf]; omega
        | true =>
          rw [hbk] at c3
          obtain ⟨hp1, hp2, hp3⟩ := HK.out k hlt hbk
          have hf3 := H3.out k hlt
          have HN : Hid ((if ki b (k + 1) = [] then -1 else pos gap x0 f b (k + 1)) = pl k + f k + gap) := by
            show _ = _
            rw [if_neg (by rw [ki_yes hbk]; simp), pos_yes hbk, hp1]
          obtain ⟨hf30, hf35⟩ := hf3
          have HFST : Hid (ki b k = [] → a0 = -1 ∧ (al = 0 → pl k = 0)) := fun he => by
            refine ⟨by rw [← HA0.out, if_pos he], fun h => ?_⟩
            rw [hp1]
            unfold pos
            rw [he, HX0.out h]
            simp [sumL]
          have HSND : Hid (ki b k ≠ [] → a0 = pl k) := fun he => by rw [← HA0.out, if_neg he, hp1]
          obtain ⟨fk, hfk⟩ : ∃ x, f k = x := ⟨_, rfl⟩
          obtain ⟨pk, hpk⟩ : ∃ x, pl k = x := ⟨_, rfl⟩
          rw [hfk] at c2 hp3 hf30 hf35 HN
          rw [hpk] at c1 hp2 hp3 HN HFST HSND
          clear hp1 hfk hpk hbk
          have C1 := Lib.hid c1
          have C2 := Lib.hid c2
          have k1 := cell_regrown c1
          have k2 := cell_regrown c2
          have hp5 : pk ≤ 500 := by omega
          have hneg1 : ¬ pk < 0 := by omega
          have hneg2 : ¬ pk + fk > room := by omega
          clear c1 c2
          by_cases he : ki b k = []
          · obtain ⟨ha, h00⟩ := HFST.out he
            subst ha
            by_cases hz : al = 0
            · subst hz
              have hpz : (pk != 0) = false := by rw [h00 rfl]; rfl
              clear h00 he
              go_wp2_with (fail)
              refine region_below0 (by kernel_rfl) (by kernel_rfl) ?_
              repeat (first
                | go_big_quiet_step (fail)
                | quiet_step (fail))
              refine wpQuiet_nil ?_
              intro _ hw'
              obtain ⟨⟨dq, osq⟩, hw''⟩ := hw'
              subst hw''
              have HR2 := Lib.hid (HR.out.trans ((below_regrown wr dq osq).mono HR.out.size))
              have k3 := cell_regrown (cell_regrown C1.out dq osq)
              have k4 := cell_regrown (cell_regrown C2.out dq osq)
              clear k1 k2
              generalize grow (redrawn wr dq) osq = W2 at *
              go_wp2_with (fail)
              refine region_below0 (by kernel_rfl) (by kernel_rfl) ?_
              repeat (first
                | go_big_quiet_step (fail)
                | quiet_step (fail))
              refine wpQuiet_nil ?_
              intro _ hw'
              obtain ⟨⟨dq, osq⟩, hw''⟩ := hw'
              subst hw''
              have HR3 := Lib.hid (HR2.out.trans ((below_regrown W2 dq osq).mono HR2.out.size))
              clear k3 k4
              generalize grow (redrawn W2 dq) osq = W3 at *
              go_wp2_with (fail)
              go_roundw
              case rel => exact ⟨k + 1, by go_num, by omega, by rw [HN.out], HR3.out⟩
              case measure => simp [intOf]; omega

            · have hzb : (al == 0) = false := by simp [hz]
              clear h00 he
              go_wp2_with (fail)
              refine region_below0 (by kernel_rfl) (by kernel_rfl) ?_
              repeat (first
                | go_big_quiet_step (fail)
                | quiet_step (fail))
              refine wpQuiet_nil ?_
              intro _ hw'
              obtain ⟨⟨dq, osq⟩, hw''⟩ := hw'
              subst hw''
              have HR2 := Lib.hid (HR.out.trans ((below_regrown wr dq osq).mono HR.out.size))
              have k3 := cell_regrown (cell_regrown C1.out dq osq)
              have k4 := cell_regrown (cell_regrown C2.out dq osq)
              clear k1 k2
              generalize grow (redrawn wr dq) osq = W2 at *
              go_wp2_with (fail)
              refine region_below0 (by kernel_rfl) (by kernel_rfl) ?_
              repeat (first
                | go_big_quiet_step (fail)
                | quiet_step (fail))
              refine wpQuiet_nil ?_
              intro _ hw'
              obtain ⟨⟨dq, osq⟩, hw''⟩ := hw'
              subst hw''
              have HR3 := Lib.hid (HR2.out.trans ((below_regrown W2 dq osq).mono HR2.out.size))
              clear k3 k4
              generalize grow (redrawn W2 dq) osq = W3 at *
              go_wp2_with (fail)
              go_roundw
              case rel => exact ⟨k + 1, by go_num, by omega, by rw [HN.out], HR3.out⟩
              case measure => simp [intOf]; omega

          · have ha := HSND.out he
            have hqq : (pk != a0) = false := by rw [ha]; simp
            have hdd : decide (a0 < 0) = false := decide_eq_false (by omega)
            have hge : decide (0 ≤ a0) = true := decide_eq_true (by omega)
            clear he ha
            go_wp2_with (fail)
            refine region_below0 (by kernel_rfl) (by kernel_rfl) ?_
            repeat (first
              | go_big_quiet_step (fail)
              | quiet_step (fail))
            refine wpQuiet_nil ?_
            intro _ hw'
            obtain ⟨⟨dq, osq⟩, hw''⟩ := hw'
            subst hw''
            have HR2 := Lib.hid (HR.out.trans ((below_regrown wr dq osq).mono HR.out.size))
            have k3 := cell_regrown (cell_regrown C1.out dq osq)
            have k4 := cell_regrown (cell_regrown C2.out dq osq)
            clear k1 k2
            generalize grow (redrawn wr dq) osq = W2 at *
            go_wp2_with (fail)
            refine region_below0 (by kernel_rfl) (by kernel_rfl) ?_
            repeat (first
              | go_big_quiet_step (fail)
              | quiet_step (fail))
            refine wpQuiet_nil ?_
            intro _ hw'
            obtain ⟨⟨dq, osq⟩, hw''⟩ := hw'
            subst hw''
            have HR3 := Lib.hid (HR2.out.trans ((below_regrown W2 dq osq).mono HR2.out.size))
            clear k3 k4
            generalize grow (redrawn W2 dq) osq = W3 at *
            go_wp2_with (fail)
            go_roundw
            case rel => exact ⟨k + 1, by go_num, by omega, by rw [HN.out], HR3.out⟩
            case measure => simp [intOf]; omega

      · have hki : ¬ (k : Int) < n := by omega
        obtain rfl : k = n := by omega
        have HBE := Lib.hid (B7.out.trans (HR.out.mono B7.out.size))
        have hpb := pos_bd (b := b) (k := k) (f := f) g0 g9 hxa hxb (fun i hi => H3.out i hi)
        obtain ⟨p0, hp0⟩ : ∃ p, pos gap x0 f b k = p := ⟨_, rfl⟩
        rw [hp0] at hpb HA0 HEND
        obtain ⟨hpb0, hpb5⟩ := hpb
        clear hp0 hrb
        by_cases he : ki b k = []
        · have ha : a0 = -1 := by rw [← HA0.out, if_pos he]
          subst ha
          clear he
          go_wp2_with (fail)
          go_ret
          exact ⟨ret_bool (by simp), HBE.out⟩
        · have ha : a0 = p0 := by rw [← HA0.out, if_neg he]
          subst ha
          by_cases h1 : al = 1
          · have heq := HEND.out he h1
            subst h1
            have hneg : ¬ a0 < 0 := by omega
            clear he
            go_wp2_with (fail)
            go_ret
            exact ⟨ret_bool (by simp; try omega), HBE.out⟩
          · have hneg : ¬ a0 < 0 := by omega
            have h1b : (al != 1) = true := by simp [h1]
            clear he
            go_wp2_with (fail)
            go_ret
            exact ⟨ret_bool (by simp), HBE.out⟩
  · have hne0 : eR room gap al n P ≠ 0 := fun h => hgood (by
      unfold eR at h
      split at h
      · rename_i h1
        split at h
        · rename_i h2
          exact ⟨h1, h2⟩
        · cases h
      · rename_i h1
        exact absurd h h1)
    have hne : (eR room gap al n P != 0) = true := by simp [hne0]
    generalize eR room gap al n P = ev at *
    generalize mR room gap al n P = M at *
    generalize plR gap room al P n = pl at *
    clear hgood
    go_enter Try.func7, Try.ntmps7
    go_upto_region 2 with (go_at_call 9; refine HF.out.mono ?_; rintro e w1 ⟨rfl, rfl⟩)
    go_upto_region 3 with (go_at_call 21; refine (U1.out _ HS.out).mono ?_; rintro e w2 ⟨⟨S1, q1, rfl, hr⟩, hb⟩; have HS2 := Lib.hid (sl_on HS.out hb); have B2 := Lib.hid hb; have R2 := Lib.hid hr; clear hb hr)
    go_upto_region 4 with (go_at_call 22; refine (U2.out _ HS2.out).mono ?_; rintro e w3 ⟨⟨S2, q2, rfl, hr⟩, hb⟩; have HS3 := Lib.hid (sl_on HS2.out hb); have B3 := Lib.hid (B2.out.trans (hb.mono B2.out.size)); have R3 := Lib.hid (sl_on R2.out hb); have T3 := Lib.hid hr; clear hb hr)
    go_wp2_with (first
      | (go_at_call 17; refine (sameS HNL.out R3.out T3.out).mono ?_; rintro e w4 ⟨rfl, hb⟩; have B4 := Lib.hid (B3.out.trans (hb.mono B3.out.size)); clear hb)
      | (go_at_call 20; refine (lawake_any _).mono ?_; rintro e w5 ⟨rfl, hb⟩; have B5 := Lib.hid (B4.out.trans (hb.mono B4.out.size)); clear hb))
    go_ret
    exact ⟨rfl, B5.out⟩
end Go.Proofs.Ytdodogehlnchlaa
