/-
  Walk: the law LayoutFair.
-/
import Derived.Test.YtdodogehlnchlaaLyHolds
namespace Go.Proofs.Ytdodogehlnchlaa
open Go.RowKit Go.Shelf Go.Sort
attribute [local go_sem] Oper.semAt_some
set_option linter.unusedVariables false
set_option linter.unusedSimpArgs false

theorem pt_cell {w : World} {B ab off n i j : Nat} {P : Nat → Pt} {v : Value} (hS : Sl w B (some ⟨ab, off, none⟩) (ptB P n)) (hi : i < n) (hj : (ptC (P i))[j]? = some v) : ab < B ∧ w.cell? ⟨ab, off + i * 4 + j, none⟩ = some v := by
  have hj4 : j < 4 := by have := (List.getElem?_eq_some_iff.1 hj).1; rw [ptC_len] at this; exact this
  obtain ⟨b, o, e, hb, hc⟩ := hS.open_ (by rw [ptB_len]; omega)
  injection e with e
  injection e with e1 e2
  subst e1 e2
  refine ⟨hb, ?_⟩
  rw [Nat.add_assoc]
  exact hc _ v (by rw [ptB_get hi hj4]; exact hj)

set_option maxRecDepth 100000 in
set_option maxHeartbeats 16000000 in
theorem layoutFair_walk (room gap : Int) (A : Option Addr) (n0 c : Nat) (P : Nat → Pt) (w : World) (hnc : n0 ≤ c) (hS0 : Sl w w.heap.size A (ptB P n0)) :
    Calls Try.prog 6 #[.int .i64 room, .int .i64 gap, .slice A n0 c] w fun e w' => e = .returned (.bool true) ∧ Below w.heap.size w w' := by
  obtain ⟨n, hn⟩ : ∃ n, min n0 65 = n := ⟨_, rfl⟩
  have HF := Lib.hid (hn ▸ lfew_any A n0 c hnc w)
  have hn65 : n ≤ 65 := by omega
  have hS : Sl w w.heap.size A (ptB P n) := by
    have := hS0.take (n * 4)
    rwa [show (ptB P n0).take (n * 4) = ptB P n from flB_take (fun i => ptC_len _) (by omega)] at this
  have HS := Lib.hid hS
  have HN := Lib.hid hn
  clear hS hS0 hn
  by_cases hv : chkV room gap n P = 0
  · obtain ⟨⟨r0, r5, g0, g9⟩, ⟨n1, n64⟩, hok⟩ := chkV_ok hv
    obtain ⟨ab, off, hA, hab, _⟩ := HS.out.open_ (by rw [ptB_len]; omega)
    subst hA
    have HOK := Lib.hid hok
    have HRC := Lib.hid (hv ▸ lrcheck_any room gap (some ⟨ab, off, none⟩) n c P w hn65 HS.out)
    have HZ1 := Lib.hid (fun w hS => sizes_ok room gap (some ⟨ab, off, none⟩) n c P w hn65 hS hv)
    have HT1 := Lib.hid (fun w hS => stay_ok room gap (some ⟨ab, off, none⟩) n c P w hn65 hS hv)
    have H3 : Hid (∀ i, i < n → 0 ≤ szR gap room P n i ∧ szR gap room P n i ≤ 500) := fun i hi => szR_bd r0 hok hi
    have H5 : Hid (∀ i k, i < n → k < n → kpR gap room P n i = true → kpR gap room P n k = true → (P i).wt = (P k).wt → szR gap room P n i ≠ (P i).mx → szR gap room P n k ≠ (P k).mx → szR gap room P n i - (P i).mn ≤ szR gap room P n k - (P k).mn + 1) :=
      fun i k hi hk bi bk hw mi mk => fairR r0 hok hi hk bi bk hw mi mk
    obtain ⟨f, hf⟩ : ∃ f, szR gap room P n = f := ⟨_, rfl⟩
    obtain ⟨a, ha⟩ : ∃ b, kpR gap room P n = b := ⟨_, rfl⟩
    rw [hf] at H3 HZ1 H5
    rw [ha] at H5 HT1
    clear hf ha hv hok
    go_enter Try.func6, Try.ntmps6
    go_upto_region 4 with (first
      | (go_at_call 9; refine HF.out.mono ?_; rintro e w1 ⟨rfl, rfl⟩)
      | (go_at_call 19; refine HRC.out.mono ?_; rintro e w2 ⟨rfl, hb2⟩; have HB2 := Lib.hid hb2; clear hb2))
    have HS2 := Lib.hid ((HS.out.below HB2.out).more HB2.out.size)
    go_upto_region 5 with (go_at_call 14; refine (HZ1.out _ HS2.out).mono ?_; rintro e w3 ⟨⟨S1, hs1, rfl, hbl1⟩, hb3⟩; have HL1 := Lib.hid hbl1; have HB3 := Lib.hid hb3; clear hs1 hbl1 hb3)
    have HS3 := Lib.hid ((HS2.out.below HB3.out).more HB3.out.size)
    go_upto_region 8 with (go_at_call 12; refine (HT1.out _ HS3.out).mono ?_; rintro e w4 ⟨⟨S2, hs2, rfl, hbl2⟩, hb4⟩; have HL2 := Lib.hid hbl2; have HB4 := Lib.hid hb4; clear hs2 hbl2 hb4)
    have M1 := Lib.hid (HL1.out.below HB4.out HL1.out.lt)
    have HS4 := Lib.hid ((HS3.out.below HB4.out).more HB4.out.size)
    have HW3 := Lib.hid (HB2.out.trans (HB3.out.mono HB2.out.size))
    have HBW := Lib.hid (HW3.out.trans (HB4.out.mono HW3.out.size))
    have l1 := M1.out.lt
    have l2 := HL2.out.lt
    clear HL1 HS2 HS3 HB2 HB3 HB4 HW3 HF HRC HS HZ1 HT1 HN hnc
    go_wp2_with (fail)
    go_loopw [11] (fun v11 wr => ∃ i : Nat, v11 = .int .i64 i ∧ i ≤ n ∧ Below w4.heap.size w4 wr) (fun v _ => n - (intOf v).toNat)
    case atStart => exact ⟨0, rfl, by omega, Below.refl _ _⟩
    case round =>
      obtain ⟨i, rfl, hi, hrb⟩ := hrel
      have HR := Lib.hid hrb
      clear hrb
      by_cases hlt : i < n
      · have hii : (i : Int) < n := by omega
        go_wp2_with (fail)
        go_loopw [12] (fun v12 wr => ∃ k : Nat, v12 = .int .i64 k ∧ k ≤ i ∧ Below w4.heap.size w4 wr) (fun v _ => i - (intOf v).toNat)
        case atStart => exact ⟨0, rfl, by omega, HR.out⟩
        case round =>
          obtain ⟨k, rfl, hk, hqb⟩ := hrel
          have HQ := Lib.hid hqb
          by_cases hkl : k < i
          · have hki : (k : Int) < i := by omega
            have hkn : (k : Int) < n := by omega
            have hkn' : k < n := by omega
            have N1 := M1.out.below hqb l1
            have N2 := HL2.out.below hqb l2
            have S4 := HS4.out.below hqb
            have ai : wr.cell? ⟨S2, i, none⟩ = some (.bool (a i)) := by rw [N2.cell, rw1_get hlt]
            have ak : wr.cell? ⟨S2, k, none⟩ = some (.bool (a k)) := by rw [N2.cell, rw1_get hkn']
            have fi : wr.cell? ⟨S1, i, none⟩ = some (.int .i64 (f i)) := by rw [N1.cell, rw1_get hlt]
            have fk : wr.cell? ⟨S1, k, none⟩ = some (.int .i64 (f k)) := by rw [N1.cell, rw1_get hkn']
            have wi := (pt_cell (j := 2) S4 hlt rfl).2
            have wk := (pt_cell (j := 2) S4 hkn' rfl).2
            have xi := (pt_cell (j := 1) S4 hlt rfl).2
            have xk := (pt_cell (j := 1) S4 hkn' rfl).2
            have mi := (pt_cell (j := 0) S4 hlt rfl).2
            have mk := (pt_cell (j := 0) S4 hkn' rfl).2
            have b1 := H3.out i hlt
            have b2 := H3.out k hkn'
            have b3 := (HOK.out i hlt).a
            have b4 := (HOK.out k hkn').a
            have b5 := (HOK.out i hlt).b
            have b6 := (HOK.out k hkn').b
            have b7 := (HOK.out i hlt).c
            have b8 := (HOK.out k hkn').c
            have q1 := Lib.hid (H5.out i k hlt hkn')
            have q2 := Lib.hid (H5.out k i hkn' hlt)
            obtain ⟨b1a, b1b⟩ := b1
            obtain ⟨b2a, b2b⟩ := b2
            clear hqb N1 N2 S4
            generalize f i = fi' at *
            generalize f k = fk' at *
            generalize (P i).wt = wi' at *
            generalize (P k).wt = wk' at *
            generalize (P i).mx = xi' at *
            generalize (P k).mx = xk' at *
            generalize (P i).mn = mi' at *
            generalize (P k).mn = mk' at *
            simp only [Nat.add_zero] at mi mk
            have FI := Lib.hid fi
            have FK := Lib.hid fk
            have MI := Lib.hid mi
            have MK := Lib.hid mk
            have ai' := cell_regrown ai
            have ak' := cell_regrown ak
            have fi1 := cell_regrown fi
            have fk1 := cell_regrown fk
            have wi1 := cell_regrown wi
            have wk1 := cell_regrown wk
            have xi1 := cell_regrown xi
            have xk1 := cell_regrown xk
            clear ai ak fi fk wi wk xi xk mi mk
            cases hai : a i with
            | false =>
              rw [hai] at ai'
              clear hai
              go_wp2_with (fail)
              refine region_below0 (by kernel_rfl) (by kernel_rfl) ?_
              repeat (first
                | go_big_quiet_step (fail)
                | quiet_step (fail))
              refine wpQuiet_nil ?_
              intro _ hw'
              obtain ⟨⟨dq, osq⟩, hw''⟩ := hw'
              subst hw''
              have HQ2 := Lib.hid (HQ.out.trans ((below_regrown wr dq osq).mono HQ.out.size))
              clear ai' ak' fi1 fk1 wi1 wk1 xi1 xk1
              generalize grow (redrawn wr dq) osq = W2 at *
              go_wp2_with (fail)
              go_roundw
              case rel => exact ⟨k + 1, by go_num, by omega, HQ2.out⟩
              case measure => simp [intOf]; omega

            | true =>
              rw [hai] at ai'
              cases hak : a k with
              | false =>
                rw [hak] at ak'
                clear hai hak
                go_wp2_with (fail)
                refine region_below0 (by kernel_rfl) (by kernel_rfl) ?_
                repeat (first
                  | go_big_quiet_step (fail)
                  | quiet_step (fail))
                refine wpQuiet_nil ?_
                intro _ hw'
                obtain ⟨⟨dq, osq⟩, hw''⟩ := hw'
                subst hw''
                have HQ2 := Lib.hid (HQ.out.trans ((below_regrown wr dq osq).mono HQ.out.size))
                clear ai' ak' fi1 fk1 wi1 wk1 xi1 xk1
                generalize grow (redrawn wr dq) osq = W2 at *
                go_wp2_with (fail)
                go_roundw
                case rel => exact ⟨k + 1, by go_num, by omega, HQ2.out⟩
                case measure => simp [intOf]; omega

              | true =>
                rw [hak] at ak'
                by_cases hw : wi' = wk'
                · have p1 := fun h1 h2 => q1.out hai hak hw h1 h2
                  have p2 := fun h1 h2 => q2.out hak hai hw.symm h2 h1
                  subst hw
                  clear hai hak
                  by_cases h1 : fi' = xi'
                  · subst h1
                    clear p1 p2
                    go_wp2_with (fail)
                    refine region_below0 (by kernel_rfl) (by kernel_rfl) ?_
                    repeat (first
                      | go_big_quiet_step (fail)
                      | quiet_step (fail))
                    refine wpQuiet_nil ?_
                    intro _ hw'
                    obtain ⟨⟨dq, osq⟩, hw''⟩ := hw'
                    subst hw''
                    have HQ2 := Lib.hid (HQ.out.trans ((below_regrown wr dq osq).mono HQ.out.size))
                    clear ai' ak' fi1 fk1 wi1 wk1 xi1 xk1
                    generalize grow (redrawn wr dq) osq = W2 at *
                    go_wp2_with (fail)
                    go_roundw
                    case rel => exact ⟨k + 1, by go_num, by omega, HQ2.out⟩
                    case measure => simp [intOf]; omega

                  · have h1b : (fi' == xi') = false := by simp [h1]
                    by_cases h2 : fk' = xk'
                    · subst h2
                      clear p1 p2
                      go_wp2_with (fail)
                      refine region_below0 (by kernel_rfl) (by kernel_rfl) ?_
                      repeat (first
                        | go_big_quiet_step (fail)
                        | quiet_step (fail))
                      refine wpQuiet_nil ?_
                      intro _ hw'
                      obtain ⟨⟨dq, osq⟩, hw''⟩ := hw'
                      subst hw''
                      have HQ2 := Lib.hid (HQ.out.trans ((below_regrown wr dq osq).mono HQ.out.size))
                      clear ai' ak' fi1 fk1 wi1 wk1 xi1 xk1
                      generalize grow (redrawn wr dq) osq = W2 at *
                      go_wp2_with (fail)
                      go_roundw
                      case rel => exact ⟨k + 1, by go_num, by omega, HQ2.out⟩
                      case measure => simp [intOf]; omega

                    · have h2b : (fk' == xk') = false := by simp [h2]
                      have p1' := p1 h1 h2
                      have p2' := p2 h1 h2
                      clear p1 p2
                      go_wp2_with (fail)
                      refine region_below0 (by kernel_rfl) (by kernel_rfl) ?_
                      repeat (first
                        | go_big_quiet_step (fail)
                        | quiet_step (fail))
                      refine wpQuiet_nil ?_
                      intro _ hw'
                      obtain ⟨⟨dq, osq⟩, hw''⟩ := hw'
                      subst hw''
                      have HQ2 := Lib.hid (HQ.out.trans ((below_regrown wr dq osq).mono HQ.out.size))
                      have fi2 := cell_regrown (cell_regrown FI.out dq osq)
                      have fk2 := cell_regrown (cell_regrown FK.out dq osq)
                      have mi2 := cell_regrown (cell_regrown MI.out dq osq)
                      have mk2 := cell_regrown (cell_regrown MK.out dq osq)
                      clear ai' ak' fi1 fk1 wi1 wk1 xi1 xk1
                      generalize grow (redrawn wr dq) osq = W2 at *
                      go_wp2_with (fail)
                      refine region_below0 (by kernel_rfl) (by kernel_rfl) ?_
                      repeat (first
                        | go_big_quiet_step (fail)
                        | quiet_step (fail))
                      refine wpQuiet_nil ?_
                      intro _ hw'
                      obtain ⟨⟨dq, osq⟩, hw''⟩ := hw'
                      subst hw''
                      have HQ3 := Lib.hid (HQ2.out.trans ((below_regrown W2 dq osq).mono HQ2.out.size))
                      clear fi2 fk2 mi2 mk2
                      generalize grow (redrawn W2 dq) osq = W3 at *
                      have g1 : ¬ fi' - mi' - (fk' - mk') > 1 := by omega
                      have g2 : ¬ fi' - mi' - (fk' - mk') < -1 := by omega
                      go_wp2_with (fail)
                      go_roundw
                      case rel => exact ⟨k + 1, by go_num, by omega, HQ3.out⟩
                      case measure => simp [intOf]; omega

                · have hwb : (wi' != wk') = true := by simp [hw]
                  clear hai hak
                  go_wp2_with (fail)
                  refine region_below0 (by kernel_rfl) (by kernel_rfl) ?_
                  repeat (first
                    | go_big_quiet_step (fail)
                    | quiet_step (fail))
                  refine wpQuiet_nil ?_
                  intro _ hw'
                  obtain ⟨⟨dq, osq⟩, hw''⟩ := hw'
                  subst hw''
                  have HQ2 := Lib.hid (HQ.out.trans ((below_regrown wr dq osq).mono HQ.out.size))
                  clear ai' ak' fi1 fk1 wi1 wk1 xi1 xk1
                  generalize grow (redrawn wr dq) osq = W2 at *
                  go_wp2_with (fail)
                  go_roundw
                  case rel => exact ⟨k + 1, by go_num, by omega, HQ2.out⟩
                  case measure => simp [intOf]; omega

          · have hki : ¬ (k : Int) < i := by omega
            go_wp2_with (fail)
            go_roundw
            case rel => exact ⟨i + 1, by go_num, by omega, HQ.out⟩
            case measure => simp [intOf]; omega
      · have hii : ¬ (i : Int) < n := by omega
        have HLW := Lib.hid (lawake_any wr)
        have HBE : Hid (∀ W, Below wr.heap.size wr W → Below w.heap.size w W) := fun W h => HBW.out.trans ((HR.out.trans (h.mono HR.out.size)).mono HBW.out.size)
        go_wp2_with (go_at_call 20; refine HLW.out.mono ?_; rintro e w9 ⟨rfl, hb9⟩)
        go_ret
        exact ⟨rfl, HBE.out _ hb9⟩
  · have hne : (chkV room gap n P != 0) = true := by simp [hv]
    have HRC := Lib.hid (lrcheck_any room gap A n c P w hn65 HS.out)
    generalize chkV room gap n P = v at *
    go_enter Try.func6, Try.ntmps6
    go_wp2_with (first
      | (go_at_call 9; refine HF.out.mono ?_; rintro e w1 ⟨rfl, rfl⟩)
      | (go_at_call 19; refine HRC.out.mono ?_; rintro e w2 ⟨rfl, hb2⟩; have HB2 := Lib.hid hb2; clear hb2)
      | (go_at_call 20; refine (lawake_any _).mono ?_; rintro e w9 ⟨rfl, hb9⟩))
    go_ret
    exact ⟨rfl, HB2.out.trans (hb9.mono HB2.out.size)⟩
end Go.Proofs.Ytdodogehlnchlaa
