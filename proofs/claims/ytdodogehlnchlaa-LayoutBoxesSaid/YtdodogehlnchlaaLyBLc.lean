/-
  Walk: the law LayoutBoxes (rows whole, columns cut).
-/
import Derived.Test.YtdodogehlnchlaaLyBLaw
namespace Go.Proofs.Ytdodogehlnchlaa
open Go.RowKit Go.Shelf Go.Sort
attribute [local go_sem] Oper.semAt_some
set_option linter.unusedVariables false
set_option linter.unusedSimpArgs false

set_option maxRecDepth 100000 in
set_option maxHeartbeats 16000000 in
theorem layoutBoxes_Lc (ww hh gap : Int) (Ar Ac : Option Addr) (n0 m0 cr cc : Nat) (Pr Pc : Nat → Pt) (s : Nat) (w : World) (hs : s ≤ 255) (hnr : n0 ≤ cr) (hnc : m0 ≤ cc) (h12 : n0 ≤ 12) (h13 : 12 < m0)
    (hS : Sl w w.heap.size Ar (ptB Pr n0)) (hT : Sl w w.heap.size Ac (ptB Pc m0)) :
    Calls Try.prog 8 #[.int .i64 ww, .int .i64 hh, .int .i64 gap, .slice Ar n0 cr, .slice Ac m0 cc, .int .u8 s] w fun e w' => e = .returned (.bool true) ∧ Below w.heap.size w w' := by
  have hS1 : Sl w w.heap.size Ar (ptB Pr n0) := by
    have := hS.take (n0 * 4)
    rwa [show (ptB Pr n0).take (n0 * 4) = ptB Pr n0 from flB_take (fun i => ptC_len _) (by omega)] at this
  have hT1 : Sl w w.heap.size Ac (ptB Pc 12) := by
    have := hT.take (12 * 4)
    rwa [show (ptB Pc m0).take (12 * 4) = ptB Pc 12 from flB_take (fun i => ptC_len _) (by omega)] at this
  have HS := Lib.hid hS1
  have HT := Lib.hid hT1
  have F1 := Lib.hid (told_full ww hh gap Ar Ac n0 12 cr cc Pr Pc w (by omega) (by omega) hS1 hT1)
  have F2 := Lib.hid (fun W h1 h2 => told_cut ww hh gap Ar Ac n0 12 cr cc Pr Pc s W hs (by omega) (by omega) h1 h2)
  have F3 := Lib.hid (fun W h1 h2 => rboxes_full ww hh gap Ar Ac n0 12 cr cc Pr Pc W (by omega) (by omega) h1 h2)
  obtain ⟨hok, hpw, hlen⟩ := bxs_ok (ww := ww) (hh := hh) (gap := gap) (n := n0) (m := 12) (Pr := Pr) (Pc := Pc)
  have hl144 : n0 * 12 ≤ 12 * 12 := Nat.mul_le_mul (by omega) (by omega)
  obtain ⟨L, hL⟩ : ∃ L, bxsR ww hh gap n0 12 Pr Pc = L := ⟨_, rfl⟩
  rw [hL] at hok hpw hlen F1 F2 F3
  obtain ⟨ll, hll⟩ : ∃ l, L.length = l := ⟨_, rfl⟩
  rw [hll] at hlen F1 F2 F3
  have hll144 : ll ≤ 144 := by omega
  obtain ⟨q, hq⟩ : ∃ q, min ll s = q := ⟨_, rfl⟩
  rw [hq] at F2
  have hmin : min (ll : Int) (s : Int) = (q : Int) := by omega
  have HQM := Lib.hid hq
  have hql : q ≤ ll := by omega
  have HOK := Lib.hid hok
  have HPW := Lib.hid hpw
  have HLL := Lib.hid hll
  have hs0 : (0 : Int) ≤ (s : Int) := by omega
  have hs5 : (s : Int) ≤ 255 := by omega
  have hr12 : ¬ (n0 : Int) > 12 := by omega
  have hc12 : (m0 : Int) > 12 := by omega
  have hcr : True := by trivial
  have hcc : (12 : Int) ≤ (cc : Int) := by omega
  clear hS hT hS1 hT1 hok hpw hlen hll hL hq hl144 h12 h13
  go_enter Try.func8, Try.ntmps8
  go_upto_region 6 with (go_at_call 23; refine F1.out.mono ?_; rintro e w1 ⟨A1, c1, rfl, hsl, hb⟩; have S1 := Lib.hid hsl; have B1 := Lib.hid hb; have HS1 := Lib.hid (sl_on HS.out hb); have HT1 := Lib.hid (sl_on HT.out hb); clear hsl hb)
  go_upto_region 7 with (go_at_call 23; refine (F2.out w1 HS1.out HT1.out).mono ?_; rintro e w2 ⟨A2, c2, rfl, hsl, hb⟩; have S2 := Lib.hid hsl; have B2 := Lib.hid (B1.out.trans (hb.mono B1.out.size)); have HS2 := Lib.hid (sl_on HS1.out hb); have HT2 := Lib.hid (sl_on HT1.out hb); have S12 := Lib.hid (sl_on S1.out hb); clear hsl hb)
  go_upto_region 8 with (go_at_call 24; refine (F3.out w2 HS2.out HT2.out).mono ?_; rintro e w3 ⟨A3, c3, rfl, hsl, hb⟩; have S3 := Lib.hid hsl; have B3 := Lib.hid (B2.out.trans (hb.mono B2.out.size)); have S13 := Lib.hid (sl_on S12.out hb); have S23 := Lib.hid (sl_on S2.out hb); clear hsl hb)
  clear F1 F2 F3 S1 S12 S2 HS HT HS1 HT1 HS2 HT2 B1 B2
  go_upto_region 10 with (go_at_call 20; refine (lawake_any _).mono ?_; rintro e w4 ⟨rfl, hb⟩; have B4 := Lib.hid (B3.out.trans (hb.mono B3.out.size)); have S1 := Lib.hid (sl_on S13.out hb); have S2 := Lib.hid (sl_on S23.out hb); have S3' := Lib.hid (sl_on S3.out hb); clear hb)
  clear S13 S23 S3 B3 hmin hs0 hs5 hr12 hc12 hcr hcc
  go_wp2_with (fail)
  go_loopw [18, 19, 20] (fun v18 v19 v20 wr => ∃ i : Nat, v18 = .int .i64 i ∧ i ≤ ll ∧ Below w4.heap.size w4 wr) (fun v _ _ _ => ll - (intOf v).toNat)
  case atStart => exact ⟨0, rfl, by omega, Below.refl _ _⟩
  case round =>
    obtain ⟨i, rfl, hi, hrb⟩ := hrel
    have HR := Lib.hid hrb
    by_cases hlt : i < ll
    · have hii : (i : Int) < ll := by omega
      obtain ⟨b, hb⟩ : ∃ b, L[i]? = some b := ⟨_, List.getElem?_eq_getElem (by rw [HLL.out]; omega)⟩
      obtain ⟨br, bc, bh, bw⟩ := b
      have HBI := Lib.hid hb
      have hbo := HOK.out _ (List.mem_of_getElem? hb)
      have HBO := Lib.hid hbo.1
      obtain ⟨⟨b1, b2, b3, b4, b5, b6⟩, b7, b8⟩ := hbo
      dsimp only at b1 b2 b3 b4 b5 b6
      obtain ⟨g0, o0, rfl, hg0, hrg⟩ := bx_at S1.out hb
      obtain ⟨g3, o3, rfl, hg3, hrg3⟩ := bx_at S3'.out hb
      have HRG : Hid (wr.rangeAt g0 (o0 + i * 4) (bxC ⟨br, bc, bh, bw⟩)) := fun j v hv => (hrb.cell (p := ⟨g0, o0 + i * 4 + j, none⟩) hg0).trans (hrg j v hv)
      have HN0 := Lib.hid (Blk.new wr 52 (bxC ⟨0, 0, 0, 0⟩))
      clear hb hrb hrg
      go_upto_region 14 with (first
        | ((with_reducible refine at_dst 93 ?_); refine wpList_load_mid rfl _ _ rfl g0 (o0 + i * 4) rfl (bxC ⟨br, bc, bh, bw⟩) _ HRG.out Try.underlying52 rfl bx_size ?_)
        | ((with_reducible refine at_store 19 ?_); refine wpList_store_blk rfl _ _ _ rfl rfl wr.heap.size 0 52 (bxC ⟨0, 0, 0, 0⟩) (bxC ⟨br, bc, bh, bw⟩) rfl rfl HN0.out (by rw [bxC_len, bxC_len]; omega) bx_size (bxC_one _) ?_; intro wq hnq hgq))
      have hbq : Below wr.heap.size wr wq := ((Below.refl _ _).alloc (Nat.le_refl _) _).grown hgq (by simp) (fun j hj => by injection hj with hj; omega)
      have hq : Blk wq wr.heap.size 52 (bxC ⟨br, bc, bh, bw⟩) := hnq
      have HR2 := Lib.hid (HR.out.trans (hbq.mono HR.out.size))
      have k0 := cell_regrown (hq.cell 0)
      have k1 := cell_regrown (hq.cell 1)
      have k2 := cell_regrown (hq.cell 2)
      have k3 := cell_regrown (hq.cell 3)
      simp only [bxC, List.getElem?_cons_zero, List.getElem?_cons_succ] at k0 k1 k2 k3
      have r0 := cell_regrown ((HR2.out.cell (p := ⟨g3, o3 + i * 4, none⟩) hg3).trans (hrg3 0 _ rfl))
      have r1 := cell_regrown ((HR2.out.cell (p := ⟨g3, o3 + i * 4 + 1, none⟩) hg3).trans (hrg3 1 _ rfl))
      have r2 := cell_regrown ((HR2.out.cell (p := ⟨g3, o3 + i * 4 + 2, none⟩) hg3).trans (hrg3 2 _ rfl))
      have r3 := cell_regrown ((HR2.out.cell (p := ⟨g3, o3 + i * 4 + 3, none⟩) hg3).trans (hrg3 3 _ rfl))
      have HP := Lib.hid hq
      have hneq := fun w => run_neq_bx br bc bh bw w
      have hgd := bx_guard
      have hd1 : ¬ br < 0 := by omega
      have hd2 : ¬ bc < 0 := by omega
      have hd3 : ¬ br + bh > hh := by omega
      have hd4 : ¬ bc + bw > ww := by omega
      clear hnq hgq hbq hq HN0 HRG HR hrg3
      generalize wr.heap.size = nb at *
      have HNE : Hid True := trivial
      by_cases hiq : i < q
      · have hiq' : (i : Int) < q := by omega
        have hmi : (L.take s)[i]? = some ⟨br, bc, bh, bw⟩ := by rw [List.getElem?_take, if_pos (by have := HQM.out; omega)]; exact HBI.out
        obtain ⟨g2, o2, rfl, hg2, hrg2⟩ := bx_at S2.out hmi
        have s0 := cell_regrown ((HR2.out.cell (p := ⟨g2, o2 + i * 4, none⟩) hg2).trans (hrg2 0 _ rfl))
        have s1 := cell_regrown ((HR2.out.cell (p := ⟨g2, o2 + i * 4 + 1, none⟩) hg2).trans (hrg2 1 _ rfl))
        have s2 := cell_regrown ((HR2.out.cell (p := ⟨g2, o2 + i * 4 + 2, none⟩) hg2).trans (hrg2 2 _ rfl))
        have s3 := cell_regrown ((HR2.out.cell (p := ⟨g2, o2 + i * 4 + 3, none⟩) hg2).trans (hrg2 3 _ rfl))
        clear hrg2 hmi
        go_wp2_with (fail)
        refine region_below0 (by kernel_rfl) (by kernel_rfl) ?_
        repeat (first
          | go_big_quiet_step (fail)
          | quiet_step (fail))
        refine wpQuiet_nil ?_
        intro _ hw'
        obtain ⟨⟨dq, osq⟩, hw''⟩ := hw'
        subst hw''
        clear s0 s1 s2 s3
        have HR3 := Lib.hid (HR2.out.trans ((below_regrown wq dq osq).mono HR2.out.size))
        have HP3 := Lib.hid (HP.out.below (below_regrown wq dq osq) HP.out.lt)
        clear k0 k1 k2 k3 r0 r1 r2 r3 HP HR2 HNE
        generalize grow (redrawn wq dq) osq = W3 at *
        go_wp2_with (fail)
        go_loopw [20] (fun v20 wr => ∃ k : Nat, v20 = .int .i64 k ∧ k ≤ i ∧ Below w4.heap.size w4 wr ∧ Blk wr nb 52 (bxC ⟨br, bc, bh, bw⟩)) (fun v _ => i - (intOf v).toNat)
        case atStart => exact ⟨0, rfl, by omega, HR3.out, HP3.out⟩
        case round =>
          clear HR3 HP3
          obtain ⟨k, rfl, hk, hqb, hqp⟩ := hrel
          have HQ := Lib.hid hqb
          have HQP := Lib.hid hqp
          by_cases hkl : k < i
          · have hki : (k : Int) < i := by omega
            have hkn : (k : Int) < ll := by omega
            obtain ⟨t, ht⟩ : ∃ t, L[k]? = some t := ⟨_, List.getElem?_eq_getElem (by rw [HLL.out]; omega)⟩
            obtain ⟨g1, o1, e1, hg1, hrg⟩ := bx_at S1.out ht
            injection e1 with e1
            injection e1 with e1 e2
            subst e1 e2
            have hm := bxs_meet HPW.out hkl HBI.out ht
            have ht5 := HOK.out t (List.mem_of_getElem? ht)
            have hmt := Lib.hid (fun w => hm ▸ meet_any ⟨br, bc, bh, bw⟩ t hh ww HBO.out ht5.1 ht5.2.1 ht5.2.2 w)
            have q0 := cell_regrown ((hqb.cell (p := ⟨g0, o0 + k * 4, none⟩) hg1).trans (hrg 0 _ rfl))
            have q1 := cell_regrown ((hqb.cell (p := ⟨g0, o0 + k * 4 + 1, none⟩) hg1).trans (hrg 1 _ rfl))
            have q2 := cell_regrown ((hqb.cell (p := ⟨g0, o0 + k * 4 + 2, none⟩) hg1).trans (hrg 2 _ rfl))
            have q3 := cell_regrown ((hqb.cell (p := ⟨g0, o0 + k * 4 + 3, none⟩) hg1).trans (hrg 3 _ rfl))
            have k0 := cell_regrown (hqp.cell 0)
            have k1 := cell_regrown (hqp.cell 1)
            have k2 := cell_regrown (hqp.cell 2)
            have k3 := cell_regrown (hqp.cell 3)
            simp only [bxC, List.getElem?_cons_zero, List.getElem?_cons_succ] at k0 k1 k2 k3
            have Q1 := Lib.hid (fun d os => Calls.regrown_of (hmt.out (grow (redrawn wr d) os)))
            simp only [bxC] at Q1
            clear hqb hqp hrg hm ht5 hmt ht
            generalize t.r = tr at *
            generalize t.c = tc at *
            generalize t.h = th at *
            generalize t.w = tw at *
            go_wp2_with (fail)
            refine region_below0 (by kernel_rfl) (by kernel_rfl) ?_
            repeat (first
              | go_big_quiet_step (exact Q1.out _ _)
              | quiet_step (exact Q1.out _ _))
            refine wpQuiet_nil ?_
            intro _ hw'
            obtain ⟨⟨dq, osq⟩, hw''⟩ := hw'
            subst hw''
            have HQ3 := Lib.hid (HQ.out.trans ((below_regrown wr dq osq).mono HQ.out.size))
            have HQP3 := Lib.hid (HQP.out.below (below_regrown wr dq osq) HQP.out.lt)
            clear k0 k1 k2 k3 q0 q1 q2 q3 HQP HQ Q1
            generalize grow (redrawn wr dq) osq = W5 at *
            go_wp2_with (fail)
            go_roundw
            case rel => exact ⟨k + 1, by go_num, by omega, HQ3.out, HQP3.out⟩
            case measure => simp [intOf]; omega
          · have hki : ¬ (k : Int) < i := by omega
            clear hqb hqp
            go_wp2_with (fail)
            go_roundw
            case rel => exact ⟨i + 1, by go_num, by omega, HQ.out⟩
            case measure => simp [intOf]; omega
      · have hiq' : ¬ (i : Int) < q := by omega
        go_wp2_with (fail)
        refine region_below0 (by kernel_rfl) (by kernel_rfl) ?_
        repeat (first
          | go_big_quiet_step (fail)
          | quiet_step (fail))
        refine wpQuiet_nil ?_
        intro _ hw'
        obtain ⟨⟨dq, osq⟩, hw''⟩ := hw'
        subst hw''
        have HR3 := Lib.hid (HR2.out.trans ((below_regrown wq dq osq).mono HR2.out.size))
        have HP3 := Lib.hid (HP.out.below (below_regrown wq dq osq) HP.out.lt)
        clear k0 k1 k2 k3 r0 r1 r2 r3 HP HR2 HNE
        generalize grow (redrawn wq dq) osq = W3 at *
        go_wp2_with (fail)
        go_loopw [20] (fun v20 wr => ∃ k : Nat, v20 = .int .i64 k ∧ k ≤ i ∧ Below w4.heap.size w4 wr ∧ Blk wr nb 52 (bxC ⟨br, bc, bh, bw⟩)) (fun v _ => i - (intOf v).toNat)
        case atStart => exact ⟨0, rfl, by omega, HR3.out, HP3.out⟩
        case round =>
          clear HR3 HP3
          obtain ⟨k, rfl, hk, hqb, hqp⟩ := hrel
          have HQ := Lib.hid hqb
          have HQP := Lib.hid hqp
          by_cases hkl : k < i
          · have hki : (k : Int) < i := by omega
            have hkn : (k : Int) < ll := by omega
            obtain ⟨t, ht⟩ : ∃ t, L[k]? = some t := ⟨_, List.getElem?_eq_getElem (by rw [HLL.out]; omega)⟩
            obtain ⟨g1, o1, e1, hg1, hrg⟩ := bx_at S1.out ht
            injection e1 with e1
            injection e1 with e1 e2
            subst e1 e2
            have hm := bxs_meet HPW.out hkl HBI.out ht
            have ht5 := HOK.out t (List.mem_of_getElem? ht)
            have hmt := Lib.hid (fun w => hm ▸ meet_any ⟨br, bc, bh, bw⟩ t hh ww HBO.out ht5.1 ht5.2.1 ht5.2.2 w)
            have q0 := cell_regrown ((hqb.cell (p := ⟨g0, o0 + k * 4, none⟩) hg1).trans (hrg 0 _ rfl))
            have q1 := cell_regrown ((hqb.cell (p := ⟨g0, o0 + k * 4 + 1, none⟩) hg1).trans (hrg 1 _ rfl))
            have q2 := cell_regrown ((hqb.cell (p := ⟨g0, o0 + k * 4 + 2, none⟩) hg1).trans (hrg 2 _ rfl))
            have q3 := cell_regrown ((hqb.cell (p := ⟨g0, o0 + k * 4 + 3, none⟩) hg1).trans (hrg 3 _ rfl))
            have k0 := cell_regrown (hqp.cell 0)
            have k1 := cell_regrown (hqp.cell 1)
            have k2 := cell_regrown (hqp.cell 2)
            have k3 := cell_regrown (hqp.cell 3)
            simp only [bxC, List.getElem?_cons_zero, List.getElem?_cons_succ] at k0 k1 k2 k3
            have Q1 := Lib.hid (fun d os => Calls.regrown_of (hmt.out (grow (redrawn wr d) os)))
            simp only [bxC] at Q1
            clear hqb hqp hrg hm ht5 hmt ht
            generalize t.r = tr at *
            generalize t.c = tc at *
            generalize t.h = th at *
            generalize t.w = tw at *
            go_wp2_with (fail)
            refine region_below0 (by kernel_rfl) (by kernel_rfl) ?_
            repeat (first
              | go_big_quiet_step (exact Q1.out _ _)
              | quiet_step (exact Q1.out _ _))
            refine wpQuiet_nil ?_
            intro _ hw'
            obtain ⟨⟨dq, osq⟩, hw''⟩ := hw'
            subst hw''
            have HQ3 := Lib.hid (HQ.out.trans ((below_regrown wr dq osq).mono HQ.out.size))
            have HQP3 := Lib.hid (HQP.out.below (below_regrown wr dq osq) HQP.out.lt)
            clear k0 k1 k2 k3 q0 q1 q2 q3 HQP HQ Q1
            generalize grow (redrawn wr dq) osq = W5 at *
            go_wp2_with (fail)
            go_roundw
            case rel => exact ⟨k + 1, by go_num, by omega, HQ3.out, HQP3.out⟩
            case measure => simp [intOf]; omega
          · have hki : ¬ (k : Int) < i := by omega
            clear hqb hqp
            go_wp2_with (fail)
            go_roundw
            case rel => exact ⟨i + 1, by go_num, by omega, HQ.out⟩
            case measure => simp [intOf]; omega
    · have hii : ¬ (i : Int) < ll := by omega
      obtain rfl : i = ll := by omega
      clear hrb
      go_wp2_with (fail)
      go_ret
      exact ⟨rfl, B4.out.trans (HR.out.mono B4.out.size)⟩
end Go.Proofs.Ytdodogehlnchlaa
