/-
  Walk: the law LayoutHolds.
-/
import Derived.Test.YtdodogehlnchlaaLyFacts
namespace Go.Proofs.Ytdodogehlnchlaa
open Go.RowKit Go.Shelf Go.Sort
attribute [local go_sem] Oper.semAt_some
set_option linter.unusedVariables false
set_option linter.unusedSimpArgs false

def hgR (f : Nat → Int) (b : Nat → Bool) (P : Nat → Pt) (k : Nat) : Bool := (List.range k).any fun i => b i && (decide ((P i).wt > 0) && decide (f i < (P i).mx))
theorem hgR_succ (f : Nat → Int) (b : Nat → Bool) (P : Nat → Pt) (k : Nat) : hgR f b P (k + 1) = (hgR f b P k || (b k && (decide ((P k).wt > 0) && decide (f k < (P k).mx)))) := by
  simp [hgR, List.range_succ, List.any_append]
theorem hgR_some {f : Nat → Int} {b : Nat → Bool} {P : Nat → Pt} {k : Nat} (h : hgR f b P k = true) : ∃ i, i < k ∧ b i = true ∧ (P i).wt > 0 ∧ f i < (P i).mx := by
  simp only [hgR, List.any_eq_true, List.mem_range, Bool.and_eq_true, decide_eq_true_eq] at h
  obtain ⟨i, h1, h2, h3, h4⟩ := h
  exact ⟨i, h1, h2, h3, h4⟩
theorem sizes_ok (room gap : Int) (A : Option Addr) (n c : Nat) (P : Nat → Pt) (w : World) (hn : n ≤ 65) (hS : Sl w w.heap.size A (ptB P n)) (hv : chkV room gap n P = 0) :
    Calls Try.prog 14 #[.int .i64 room, .int .i64 gap, .slice A n c] w fun e w' => (∃ S, w.heap.size ≤ S ∧ e = .returned (.tuple #[.slice (some ⟨S, 0, none⟩) n n, .int .i64 0]) ∧ Blk w' S 3 (rw1 (fun i => .int .i64 (szR gap room P n i)) n)) ∧ Below w.heap.size w w' :=
  (sizes_any room gap A n c P w hn hS).mono fun e w' ⟨h, hb⟩ => by
    rcases h with h | ⟨_, S, hS, he, hbl⟩
    · exact absurd hv h.1
    · rw [row_sz] at hbl
      exact ⟨⟨S, hS, he, hbl⟩, hb⟩
theorem stay_ok (room gap : Int) (A : Option Addr) (n c : Nat) (P : Nat → Pt) (w : World) (hn : n ≤ 65) (hS : Sl w w.heap.size A (ptB P n)) (hv : chkV room gap n P = 0) :
    Calls Try.prog 12 #[.int .i64 room, .int .i64 gap, .slice A n c] w fun e w' => (∃ S, w.heap.size ≤ S ∧ e = .returned (.tuple #[.slice (some ⟨S, 0, none⟩) n n, .int .i64 0]) ∧ Blk w' S 4 (rw1 (fun i => .bool (kpR gap room P n i)) n)) ∧ Below w.heap.size w w' :=
  (stay_any room gap A n c P w hn hS).mono fun e w' ⟨h, hb⟩ => by
    rcases h with h | ⟨_, S, hS, he, hbl⟩
    · exact absurd hv h.1
    · rw [row_kp] at hbl
      exact ⟨⟨S, hS, he, hbl⟩, hb⟩

set_option maxRecDepth 100000 in
set_option maxHeartbeats 8000000 in
theorem layoutHolds_walk (room gap : Int) (A : Option Addr) (n0 c : Nat) (P : Nat → Pt) (w : World) (hnc : n0 ≤ c) (hS0 : Sl w w.heap.size A (ptB P n0)) :
    Calls Try.prog 4 #[.int .i64 room, .int .i64 gap, .slice A n0 c] w fun e w' => e = .returned (.bool true) ∧ Below w.heap.size w w' := by
  obtain ⟨n, hn⟩ : ∃ n, min n0 65 = n := ⟨_, rfl⟩
  have HF := Lib.hid (hn ▸ lfew_any A n0 c hnc w)
  have hn65 : n ≤ 65 := by omega
  have hS : Sl w w.heap.size A (ptB P n) := by
    have := hS0.take (n * 4)
    rwa [show (ptB P n0).take (n * 4) = ptB P n from flB_take (fun i => ptC_len _) (by omega)] at this
  have HS := Lib.hid hS
  have HN := Lib.hid hn
  clear hS hS0 hn
  by_cases hv : chkV room gap n P = 0
  · obtain ⟨⟨r0, r5, g0, g9⟩, ⟨n1, n64⟩, hok⟩ := chkV_ok hv
    have HOK := Lib.hid hok
    have HV := Lib.hid hv
    have HRC := Lib.hid (hv ▸ lrcheck_any room gap A n c P w hn65 HS.out)
    have H1 : Hid (∀ i, i < n → kpR gap room P n i = false → szR gap room P n i = 0) := fun i hi h => szR_no r0 hok hi h
    have H2 : Hid (∀ i, i < n → kpR gap room P n i = true → (P i).mn ≤ szR gap room P n i ∧ szR gap room P n i ≤ (P i).mx) := fun i hi h => szR_yes r0 hok hi h
    have H3 : Hid (∀ i, i < n → 0 ≤ szR gap room P n i ∧ szR gap room P n i ≤ 500) := fun i hi => szR_bd r0 hok hi
    have H4 : Hid (ki (kpR gap room P n) n ≠ [] → (sumL (szR gap room P n) (ki (kpR gap room P n) n) + gap * (((ki (kpR gap room P n) n).length : Int) - 1) ≤ room) ∧ (hgR (szR gap room P n) (kpR gap room P n) P n = true → sumL (szR gap room P n) (ki (kpR gap room P n) n) + gap * (((ki (kpR gap room P n) n).length : Int) - 1) = room)) := fun hne => by
      have e := tot_over r0 hne
      have e2 := over_pos gap room P n
      unfold totR at e
      refine ⟨by omega, fun hh => ?_⟩
      obtain ⟨i, i1, i2, i3, i4⟩ := hgR_some hh
      have := hungry_full r0 hok i1 i2 i3 i4
      omega
    have HSZ := Lib.hid (fun w hS => sizes_ok room gap A n c P w hn65 hS hv)
    have HST := Lib.hid (fun w hS => stay_ok room gap A n c P w hn65 hS hv)
    obtain ⟨f, hf⟩ : ∃ f, szR gap room P n = f := ⟨_, rfl⟩
    obtain ⟨b, hb⟩ : ∃ b, kpR gap room P n = b := ⟨_, rfl⟩
    rw [hf, hb] at H1 H2 H4
    rw [hf] at H3 HSZ
    rw [hb] at HST
    clear hf hb hv hok
    go_enter Try.func4, Try.ntmps4
    go_upto_region 4 with (first
      | (go_at_call 9; refine HF.out.mono ?_; rintro e w1 ⟨rfl, rfl⟩)
      | (go_at_call 19; refine HRC.out.mono ?_; rintro e w2 ⟨rfl, hb2⟩; have HB2 := Lib.hid hb2; clear hb2))
    have HS2 := Lib.hid ((HS.out.below HB2.out).more HB2.out.size)
    go_upto_region 5 with (go_at_call 14; refine (HSZ.out _ HS2.out).mono ?_; rintro e w3 ⟨⟨S1, hs1, rfl, hbl1⟩, hb3⟩; have HS1 := Lib.hid hs1; have HL1 := Lib.hid hbl1; have HB3 := Lib.hid hb3; clear hs1 hbl1 hb3)
    have HS3 := Lib.hid ((HS2.out.below HB3.out).more HB3.out.size)
    go_upto_region 8 with (go_at_call 12; refine (HST.out _ HS3.out).mono ?_; rintro e w4 ⟨⟨S2, hs2, rfl, hbl2⟩, hb4⟩; have HSS2 := Lib.hid hs2; have HL2 := Lib.hid hbl2; have HB4 := Lib.hid hb4; clear hs2 hbl2 hb4)
    have HL1' := Lib.hid (HL1.out.below HB4.out HL1.out.lt)
    have HS4 := Lib.hid ((HS3.out.below HB4.out).more HB4.out.size)
    have HBW := Lib.hid ((HB2.out.trans (HB3.out.mono HB2.out.size)).trans (HB4.out.mono (Nat.le_trans HB2.out.size HB3.out.size)))
    have hl1 := HL1'.out.lt
    have hl2 := HL2.out.lt
    clear HL1 HS1 HSS2 HS2 HS3 HB2 HB3 HB4 HF HRC HS HSZ HST HN hnc
    go_wp2_with (fail)
    go_loopw [11, 12, 13, 14] (fun v11 v12 v13 v14 wr => ∃ k : Nat, v14 = .int .i64 k ∧ k ≤ n ∧ v11 = .int .i64 (sumL f (ki b k)) ∧ v12 = .int .i64 ((ki b k).length : Nat) ∧ v13 = .bool (hgR f b P k) ∧ Below w4.heap.size w4 wr) (fun _ _ _ v _ => n - (intOf v).toNat)
    case atStart => exact ⟨0, rfl, by omega, rfl, rfl, rfl, Below.refl _ _⟩
    case round =>
      obtain ⟨k, rfl, hk, rfl, rfl, rfl, hrb⟩ := hrel
      have HR := Lib.hid hrb
      clear hrb
      have hsb : 0 ≤ sumL f (ki b k) ∧ sumL f (ki b k) ≤ 500 * ((ki b k).length : Int) := sumL_bd (fun i hi => H3.out i (by have := (mem_ki.1 hi).1; omega))
      have hkl := ki_len b k
      by_cases hlt : k < n
      · have hki : (k : Int) < n := by omega
        obtain ⟨ab, off, rfl, hab, hcell⟩ := HS4.out.open_ (by rw [ptB_len]; omega)
        have hrg : wr.rangeAt ab (off + k * 4) (ptC (P k)) := fun j v hv => by
          have hj4 : j < 4 := by have := (List.getElem?_eq_some_iff.1 hv).1; rw [ptC_len] at this; exact this
          rw [Nat.add_assoc]
          exact (HR.out.cell (p := ⟨ab, off + (k * 4 + j), none⟩) hab).trans (hcell _ v (by rw [ptB_get hlt hj4]; exact hv))
        have HRG := Lib.hid hrg
        have HN0 := Lib.hid (Blk.new wr 43 (ptC ⟨0, 0, 0, 0⟩))
        clear hrg hcell
        obtain ⟨s0, hs0⟩ : ∃ s, sumL f (ki b k) = s := ⟨_, rfl⟩
        obtain ⟨m0, hm0⟩ : ∃ s, (ki b k).length = s := ⟨_, rfl⟩
        obtain ⟨h0, hh0⟩ : ∃ s, hgR f b P k = s := ⟨_, rfl⟩
        rw [hs0, hm0] at hsb
        rw [hm0] at hkl
        rw [hs0, hm0, hh0]
        obtain ⟨hsb1, hsb2⟩ := hsb
        have HS0 := Lib.hid hs0
        have HM0 := Lib.hid hm0
        have HH0 := Lib.hid hh0
        clear hs0 hm0 hh0
        go_upto_region 14 with (first
          | ((with_reducible refine at_dst 74 ?_); refine wpList_load_mid rfl _ _ rfl ab (off + k * 4) rfl (ptC (P k)) _ HRG.out Try.underlying43 rfl part_size ?_)
          | ((with_reducible refine at_store 15 ?_); refine wpList_store_blk rfl _ _ _ rfl rfl wr.heap.size 0 43 (ptC ⟨0, 0, 0, 0⟩) (ptC (P k)) rfl rfl HN0.out (by rw [ptC_len, ptC_len]; omega) part_size (ptC_one _) ?_; intro wq hnq hgq))
        have hbq : Below wr.heap.size wr wq := ((Below.refl _ _).alloc (Nat.le_refl _) _).grown hgq (by simp) (fun j hj => by injection hj with hj; omega)
        have hq : Blk wq wr.heap.size 43 (ptC (P k)) := hnq
        have c0 : wq.cell? ⟨wr.heap.size, 0, none⟩ = some (.int .i64 (P k).mn) := hq.cell 0
        have c1 : wq.cell? ⟨wr.heap.size, 1, none⟩ = some (.int .i64 (P k).mx) := hq.cell 1
        have c2 : wq.cell? ⟨wr.heap.size, 2, none⟩ = some (.int .i64 (P k).wt) := hq.cell 2
        have HR2 := Lib.hid (HR.out.trans (hbq.mono HR.out.size))
        have hc1 : wq.cell? ⟨S1, k, none⟩ = some (.int .i64 (f k)) := by rw [(HL1'.out.below HR2.out hl1).cell, rw1_get hlt]
        have hc2 : wq.cell? ⟨S2, k, none⟩ = some (.bool (b k)) := by rw [(HL2.out.below HR2.out hl2).cell, rw1_get hlt]
        have hfb := H3.out k hlt
        have hwt := (HOK.out k hlt).d
        have HP := Lib.hid hq
        clear hnq hgq hbq hq HN0 HRG HR
        generalize wr.heap.size = nb at *
        obtain ⟨hfb1, hfb2⟩ := hfb
        cases hbk : b k with
        | false =>
          have hfz := H1.out k hlt hbk
          rw [hbk] at hc2
          rw [hfz] at hc1
          have HK := Lib.hid (ki_no hbk)
          have HG : Hid (hgR f b P (k + 1) = hgR f b P k) := by
            show hgR f b P (k + 1) = hgR f b P k
            have := hgR_succ f b P k
            rw [hbk] at this
            simpa using this
          clear hfz hbk c0 c1 c2
          go_wp2_with (fail)
          go_roundw
          case rel => exact ⟨k + 1, by go_num, by omega, by rw [HK.out, HS0.out], by rw [HK.out, HM0.out], by rw [HG.out, HH0.out], HR2.out⟩
          case measure => simp [intOf]; omega
        | true =>
          obtain ⟨hlo, hhi⟩ := H2.out k hlt hbk
          rw [hbk] at hc2
          have HK := Lib.hid (ki_yes hbk)
          have HG : Hid (hgR f b P (k + 1) = (h0 || (decide ((P k).wt > 0) && decide (f k < (P k).mx)))) := by
            show hgR f b P (k + 1) = (h0 || (decide ((P k).wt > 0) && decide (f k < (P k).mx)))
            have := hgR_succ f b P k
            rw [hbk, HH0.out] at this
            simpa using this
          have HFK : Hid (sumL f (ki b (k + 1)) = s0 + f k) := by show _ = _; rw [HK.out, sumL_snoc, HS0.out]
          have HLK : Hid ((ki b (k + 1)).length = m0 + 1) := by show _ = _; rw [HK.out, List.length_append, List.length_singleton, HM0.out]
          have k0 := cell_regrown c0
          have k1 := cell_regrown c1
          have kf := cell_regrown hc1
          obtain ⟨x, hx⟩ : ∃ x, f k = x := ⟨_, rfl⟩
          obtain ⟨mn, hmn⟩ : ∃ x, (P k).mn = x := ⟨_, rfl⟩
          obtain ⟨mx, hmx⟩ : ∃ x, (P k).mx = x := ⟨_, rfl⟩
          obtain ⟨wt, hwt'⟩ : ∃ x, (P k).wt = x := ⟨_, rfl⟩
          rw [hx] at kf HFK HG hlo hhi hfb1 hfb2
          rw [hmn] at k0 hlo
          rw [hmx] at k1 hhi HG
          rw [hwt'] at HG hwt
          have HC1 := Lib.hid hc1
          have CM := Lib.hid c1
          have CW := Lib.hid c2
          have HX := Lib.hid hx
          have HMX := Lib.hid hmx
          have HWT := Lib.hid hwt'
          have hn1 : ¬ x < mn := by omega
          have hn2 : ¬ x > mx := by omega
          clear hbk c0 c1 c2 hc1 hx hmn hmx hwt' HK
          go_wp2_with (fail)
          refine region_below0 (by kernel_rfl) (by kernel_rfl) ?_
          repeat (first
            | go_big_quiet_step (fail)
            | quiet_step (fail))
          refine wpQuiet_nil ?_
          intro _ hw'
          obtain ⟨⟨dq, osq⟩, hw''⟩ := hw'
          subst hw''
          have hbx := below_regrown wq dq osq
          have HR3 := Lib.hid (HR2.out.trans (hbx.mono HR2.out.size))
          have d1 : (grow (redrawn wq dq) osq).cell? ⟨S1, k, none⟩ = some (.int .i64 x) := by rw [← HX.out]; exact cell_regrown HC1.out dq osq
          have d2 : (grow (redrawn wq dq) osq).cell? ⟨nb, 1, none⟩ = some (.int .i64 mx) := by rw [← HMX.out]; exact cell_regrown CM.out dq osq
          have d3 : (grow (redrawn wq dq) osq).cell? ⟨nb, 2, none⟩ = some (.int .i64 wt) := by rw [← HWT.out]; exact cell_regrown CW.out dq osq
          clear k0 k1 kf hbx HC1 CM CW
          generalize grow (redrawn wq dq) osq = W2 at *
          have hn3 : ¬ mx < x := by omega
          have D1 := Lib.hid d1
          have D2 := Lib.hid d2
          have D3 := Lib.hid d3
          cases h0 with
          | true =>
            have e1 := cell_regrown D1.out
            have e2 := cell_regrown D2.out
            have e3 := cell_regrown D3.out
            go_wp2_with (fail)
            refine region_below0 (by kernel_rfl) (by kernel_rfl) ?_
            repeat (first
              | go_big_quiet_step (fail)
              | quiet_step (fail))
            refine wpQuiet_nil ?_
            intro _ hw'
            obtain ⟨⟨dq, osq⟩, hw''⟩ := hw'
            subst hw''
            have HR4 := Lib.hid (HR3.out.trans ((below_regrown W2 dq osq).mono HR3.out.size))
            clear e1 e2 e3
            generalize grow (redrawn W2 dq) osq = W5 at *
            have HG2 : Hid (hgR f b P (k + 1) = true) := by show _ = _; rw [HG.out]; simp
            go_wp2_with (fail)
            go_roundw
            case rel => exact ⟨k + 1, by go_num, by omega, by rw [HFK.out], by rw [HLK.out]; go_num, by rw [HG2.out], HR4.out⟩
            case measure => simp [intOf]; omega
          | false =>
            by_cases hw : wt > 0
            · by_cases hx : x < mx
              · have e1 := cell_regrown D1.out
                have e2 := cell_regrown D2.out
                have e3 := cell_regrown D3.out
                go_wp2_with (fail)
                refine region_below0 (by kernel_rfl) (by kernel_rfl) ?_
                repeat (first
                  | go_big_quiet_step (fail)
                  | quiet_step (fail))
                refine wpQuiet_nil ?_
                intro _ hw'
                obtain ⟨⟨dq, osq⟩, hw''⟩ := hw'
                subst hw''
                have HR4 := Lib.hid (HR3.out.trans ((below_regrown W2 dq osq).mono HR3.out.size))
                clear e1 e2 e3
                generalize grow (redrawn W2 dq) osq = W5 at *
                have HG2 : Hid (hgR f b P (k + 1) = true) := by show _ = _; rw [HG.out]; simp [hw, hx]
                go_wp2_with (fail)
                go_roundw
                case rel => exact ⟨k + 1, by go_num, by omega, by rw [HFK.out], by rw [HLK.out]; go_num, by rw [HG2.out], HR4.out⟩
                case measure => simp [intOf]; omega
              · obtain rfl : x = mx := by omega
                have e1 := cell_regrown D1.out
                have e2 := cell_regrown D2.out
                have e3 := cell_regrown D3.out
                go_wp2_with (fail)
                refine region_below0 (by kernel_rfl) (by kernel_rfl) ?_
                repeat (first
                  | go_big_quiet_step (fail)
                  | quiet_step (fail))
                refine wpQuiet_nil ?_
                intro _ hw'
                obtain ⟨⟨dq, osq⟩, hw''⟩ := hw'
                subst hw''
                have HR4 := Lib.hid (HR3.out.trans ((below_regrown W2 dq osq).mono HR3.out.size))
                clear e1 e2 e3
                generalize grow (redrawn W2 dq) osq = W5 at *
                have HG2 : Hid (hgR f b P (k + 1) = false) := by show _ = _; rw [HG.out]; simp
                go_wp2_with (fail)
                go_roundw
                case rel => exact ⟨k + 1, by go_num, by omega, by rw [HFK.out], by rw [HLK.out]; go_num, by rw [HG2.out], HR4.out⟩
                case measure => simp [intOf]; omega
            · obtain rfl : wt = 0 := by omega
              have e1 := cell_regrown D1.out
              have e2 := cell_regrown D2.out
              have e3 := cell_regrown D3.out
              go_wp2_with (fail)
              refine region_below0 (by kernel_rfl) (by kernel_rfl) ?_
              repeat (first
                | go_big_quiet_step (fail)
                | quiet_step (fail))
              refine wpQuiet_nil ?_
              intro _ hw'
              obtain ⟨⟨dq, osq⟩, hw''⟩ := hw'
              subst hw''
              have HR4 := Lib.hid (HR3.out.trans ((below_regrown W2 dq osq).mono HR3.out.size))
              clear e1 e2 e3
              generalize grow (redrawn W2 dq) osq = W5 at *
              have HG2 : Hid (hgR f b P (k + 1) = false) := by show _ = _; rw [HG.out]; simp
              go_wp2_with (fail)
              go_roundw
              case rel => exact ⟨k + 1, by go_num, by omega, by rw [HFK.out], by rw [HLK.out]; go_num, by rw [HG2.out], HR4.out⟩
              case measure => simp [intOf]; omega
      · have hki : ¬ (k : Int) < n := by omega
        obtain rfl : k = n := by omega
        have HLW := Lib.hid (lawake_any wr)
        have HBE : Hid (∀ W, Below wr.heap.size wr W → Below w.heap.size w W) := fun W h => HBW.out.trans ((HR.out.trans (h.mono HR.out.size)).mono HBW.out.size)
        obtain ⟨s0, hs0⟩ : ∃ s, sumL f (ki b k) = s := ⟨_, rfl⟩
        obtain ⟨h0, hh0⟩ : ∃ s, hgR f b P k = s := ⟨_, rfl⟩
        have H5 := H4.out
        by_cases hm : ki b k = []
        · rw [hm] at hs0
          have hh : h0 = false := by
            cases h0 with
            | false => rfl
            | true =>
              obtain ⟨i, i1, i2, _⟩ := hgR_some hh0
              have : i ∈ ki b k := mem_ki.2 ⟨i1, i2⟩
              rw [hm] at this; cases this
          subst hh
          rw [hh0, hm]
          simp only [sumL, List.length_nil]
          clear hh0 hs0 H5 hm hsb H4 H1 H2 H3 HOK hkl
          go_wp2_with (go_at_call 20; refine HLW.out.mono ?_; rintro e w9 ⟨rfl, hb9⟩)
          go_ret
          exact ⟨ret_bool (by simp; try omega), HBE.out _ hb9⟩
        · have H6 := H5 hm
          obtain ⟨m0, hm0⟩ : ∃ s, (ki b k).length = s := ⟨_, rfl⟩
          have hmp : 0 < m0 := by rw [← hm0]; exact List.length_pos_iff.2 hm
          rw [hs0, hm0, hh0] at H6
          rw [hm0] at hkl
          rw [hs0, hm0] at hsb
          rw [hs0, hm0, hh0]
          obtain ⟨h6, h7⟩ := H6
          obtain ⟨hsb1, hsb2⟩ := hsb
          clear hs0 hh0 hm0 H5 hm H4 H1 H2 H3 HOK
          by_cases hone : m0 = 1
          · subst hone
            have e0 : gap * (((1 : Nat) : Int) - 1) = 0 := by simp
            rw [e0] at h6 h7
            clear e0
            cases h0 with
            | true =>
              have hs : s0 = room := by have := h7 rfl; omega
              subst hs
              clear h6 h7
              go_wp2_with (go_at_call 20; refine HLW.out.mono ?_; rintro e w9 ⟨rfl, hb9⟩)
              go_ret
              exact ⟨ret_bool (by simp), HBE.out _ hb9⟩
            | false =>
              have hs : s0 ≤ room := by omega
              clear h6 h7
              go_wp2_with (go_at_call 20; refine HLW.out.mono ?_; rintro e w9 ⟨rfl, hb9⟩)
              go_ret
              exact ⟨ret_bool (by simp), HBE.out _ hb9⟩
          · have hm1 : (m0 : Int) > 1 := by omega
            obtain ⟨L1, hL1⟩ : ∃ x : Int, (m0 : Int) - 1 = x := ⟨_, rfl⟩
            have hl0 : 0 ≤ L1 ∧ L1 ≤ 64 := by omega
            have hmul : 0 ≤ gap * L1 ∧ gap * L1 ≤ 576 := by
              have := mul_bd (g := gap) (x := 9) (n := L1.toNat) g0 g9
              have e : ((L1.toNat : Nat) : Int) = L1 := by omega
              rw [e] at this
              omega
            rw [hL1] at h6 h7
            obtain ⟨q, hq⟩ : ∃ x : Int, gap * L1 = x := ⟨_, rfl⟩
            rw [hq] at h6 h7 hmul
            obtain ⟨hq1, hq2⟩ := hmul
            obtain ⟨hl01, hl02⟩ := hl0
            cases h0 with
            | true =>
              have hs : s0 + q = room := h7 rfl
              clear h6 h7
              go_wp2_with (go_at_call 20; refine HLW.out.mono ?_; rintro e w9 ⟨rfl, hb9⟩)
              go_ret
              exact ⟨ret_bool (by simp), HBE.out _ hb9⟩
            | false =>
              have hs : s0 + q ≤ room := h6
              clear h6 h7
              go_wp2_with (go_at_call 20; refine HLW.out.mono ?_; rintro e w9 ⟨rfl, hb9⟩)
              go_ret
              exact ⟨ret_bool (by simp), HBE.out _ hb9⟩
  · have hne : (chkV room gap n P != 0) = true := by simp [hv]
    have HRC := Lib.hid (lrcheck_any room gap A n c P w hn65 HS.out)
    have HPC := Lib.hid (fun W hS => check_any room gap A n c P W hn65 hS)
    generalize chkV room gap n P = v at *
    go_enter Try.func4, Try.ntmps4
    go_upto_region 3 with (first
      | (go_at_call 9; refine HF.out.mono ?_; rintro e w1 ⟨rfl, rfl⟩)
      | (go_at_call 19; refine HRC.out.mono ?_; rintro e w2 ⟨rfl, hb2⟩; have HB2 := Lib.hid hb2; clear hb2))
    have HS2 := Lib.hid ((HS.out.below HB2.out).more HB2.out.size)
    go_wp2_with (first
      | (go_at_call 18; refine (HPC.out _ HS2.out).mono ?_; rintro e w3 ⟨rfl, hb3⟩; have HB3 := Lib.hid hb3; clear hb3)
      | (go_at_call 20; refine (lawake_any _).mono ?_; rintro e w9 ⟨rfl, hb9⟩))
    go_ret
    exact ⟨ret_bool (by simp), (HB2.out.trans (HB3.out.mono HB2.out.size)).trans (hb9.mono (Nat.le_trans HB2.out.size HB3.out.size))⟩
end Go.Proofs.Ytdodogehlnchlaa
