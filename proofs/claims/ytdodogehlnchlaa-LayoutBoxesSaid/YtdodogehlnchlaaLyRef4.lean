/-
  Walks: the document's next.
-/
import Derived.Test.YtdodogehlnchlaaLyRef3
namespace Go.Proofs.Ytdodogehlnchlaa
open Go.RowKit Go.Shelf Go.Sort
attribute [local go_sem] Oper.semAt_some
set_option linter.unusedVariables false
set_option linter.unusedSimpArgs false

set_option maxRecDepth 100000 in
set_option maxHeartbeats 8000000 in
theorem rnext_any (ab off n c : Nat) (P : Nat → Pt) (B : Option Addr) (m d : Nat) (C : Option Addr) (q e : Nat) (σ : Sts) (w : World) (hn : n ≤ 64) (hm : m = n) (hq : m = q) (hP : ∀ i, i < n → (P i).Ok) (hI : Inv1 P n σ) (hS : Sl w w.heap.size (some ⟨ab, off, none⟩) (ptB P n)) (hB : Sl w w.heap.size B (rw1 (fun i => .bool (kpO σ i)) n)) (hC : Sl w w.heap.size C (rw1 (fun i => .int .i64 (szO σ i)) n)) :
    Calls Try.prog 43 #[.slice (some ⟨ab, off, none⟩) n c, .slice B m d, .slice C q e] w fun e w' => e = .returned (.int .i64 (oI (nxt σ n))) ∧ Below w.heap.size w w' := by
  subst hm hq
  have HS := Lib.hid hS
  have HB := Lib.hid hB
  have HC := Lib.hid hC
  have HP := Lib.hid hP
  have HI := Lib.hid hI
  clear hS hB hC hP hI
  obtain ⟨vr, hvr⟩ : ∃ v, nxt σ m = v := ⟨_, rfl⟩
  rw [hvr]
  have HVR := Lib.hid hvr
  clear hvr
  go_enter Try.func43, Try.ntmps43
  go_wp2_with (fail)
  go_loopw [7, 8] (fun v7 v8 wr => ∃ k : Nat, v8 = .int .i64 k ∧ k ≤ m ∧ v7 = .int .i64 (oI (nxL σ (ki (kpO σ) k))) ∧ Below w.heap.size w wr) (fun _ v _ => m - (intOf v).toNat)
  case atStart => exact ⟨0, rfl, by omega, rfl, Below.refl _ _⟩
  case round =>
    obtain ⟨k, rfl, hk, rfl, hrb⟩ := hrel
    have HR := Lib.hid hrb
    by_cases hlt : k < m
    · have hki : (k : Int) < m := by omega
      obtain ⟨b1, o1, rfl, hb1, hc1⟩ := rw1_at HB.out hlt
      obtain ⟨b2, o2, rfl, hb2, hc2⟩ := rw1_at HC.out hlt
      have c1 := cell_regrown ((hrb.cell (p := ⟨b1, o1 + k, none⟩) hb1).trans hc1)
      have zk := (hrb.cell (p := ⟨b2, o2 + k, none⟩) hb2).trans hc2
      have c2 := cell_regrown zk
      have HPT : Hid (∀ i, i < m → wr.cell? ⟨ab, off + i * 4, none⟩ = some (.int .i64 (P i).mn) ∧ wr.cell? ⟨ab, off + i * 4 + 1, none⟩ = some (.int .i64 (P i).mx) ∧ wr.cell? ⟨ab, off + i * 4 + 2, none⟩ = some (.int .i64 (P i).wt)) := fun i hi => by
        have p0 := pt_cellR (j := 0) HS.out hi rfl
        have p1 := pt_cellR (j := 1) HS.out hi rfl
        have p2 := pt_cellR (j := 2) HS.out hi rfl
        exact ⟨(hrb.cell (p := ⟨ab, off + i * 4 + 0, none⟩) p0.1).trans p0.2, (hrb.cell (p := ⟨ab, off + i * 4 + 1, none⟩) p0.1).trans p1.2, (hrb.cell (p := ⟨ab, off + i * 4 + 2, none⟩) p0.1).trans p2.2⟩
      have HZ : Hid (∀ i, i < m → wr.cell? ⟨b2, o2 + i, none⟩ = some (.int .i64 (szO σ i))) := fun i hi => by
        obtain ⟨b3, o3, e3, hb3, hc3⟩ := rw1_at HC.out hi
        injection e3 with e3
        injection e3 with e31 e32
        subst e31 e32
        exact (hrb.cell (p := ⟨b2, o2 + i, none⟩) hb3).trans hc3
      clear hc1 hc2 hrb zk
      cases hbk : kpO σ k with
      | false =>
        rw [hbk] at c1
        have HL : Hid (nxL σ (ki (kpO σ) (k + 1)) = nxL σ (ki (kpO σ) k)) := by show _ = _; rw [ki_no hbk]
        clear hbk c2
        go_wp2_with (fail)
        refine region_below0 (by kernel_rfl) (by kernel_rfl) ?_
        repeat (first
          | go_big_quiet_step (fail)
          | quiet_step (fail))
        refine wpQuiet_nil ?_
        intro _ hw'
        obtain ⟨⟨dq, osq⟩, hw''⟩ := hw'
        subst hw''
        have HQ2 := Lib.hid (HR.out.trans ((below_regrown wr dq osq).mono HR.out.size))
        clear c1
        generalize grow (redrawn wr dq) osq = W2 at *
        go_wp2_with (fail)
        go_roundw
        case rel => exact ⟨k + 1, by go_num, by omega, by rw [HL.out] <;> rfl, HQ2.out⟩
        case measure => simp [intOf]; omega

      | true =>
        rw [hbk] at c1
        have hyk := HI.out.y k hlt hbk
        have hbd := HI.out.bd HP.out hlt hbk
        have HLS : Hid (nxL σ (ki (kpO σ) (k + 1)) = nxF σ (nxL σ (ki (kpO σ) k)) k) := by show _ = _; rw [ki_yes hbk, nxL_snoc]
        have HELG : Hid (elg (σ k) = (decide (szO σ k < (P k).mx) && decide (0 < (P k).wt))) := by show _ = _; unfold elg szO; rw [hyk.1]
        obtain ⟨p0, p1, p2⟩ := HPT.out k hlt
        have r1 := cell_regrown p1
        have r2 := cell_regrown p2
        have hwt := (HP.out k hlt).d
        have hle := hyk.2.2.1
        have HMX : Hid (szO σ k ≤ (P k).mx) := hle
        have hle2 := HMX.out
        clear p0 p1 p2 hle hyk
        obtain ⟨sz, hsz⟩ : ∃ s, szO σ k = s := ⟨_, rfl⟩
        obtain ⟨mx, hmx⟩ : ∃ s, (P k).mx = s := ⟨_, rfl⟩
        obtain ⟨wt, hwt'⟩ : ∃ s, (P k).wt = s := ⟨_, rfl⟩
        rw [hsz] at c2 HELG hle2
        rw [hmx] at r1 HELG hle2
        rw [hwt'] at r2 HELG hwt
        have HSZ := Lib.hid hsz
        have HWT := Lib.hid hwt'
        clear hsz hmx hwt' HMX
        by_cases h1 : sz < mx
        · have h1b : ¬ sz ≥ mx := by omega
          by_cases h2 : 0 < wt
          · have helg : elg (σ k) = true := by rw [HELG.out]; simp [h1, h2]
            have HEL := Lib.hid helg
            have hw0 : (wt == 0) = false := by simp; omega
            have hmem := (nxL_some σ (ki (kpO σ) k)).1
            have KP : (σ k).kp = true := hbk
            clear helg HELG hbk
            cases ho : nxL σ (ki (kpO σ) k) with
            | none =>
              rw [ho] at HLS
              have HL : Hid (nxL σ (ki (kpO σ) (k + 1)) = some k) := by show _ = _; rw [HLS.out]; simp [nxF, HEL.out]
              simp only [oI]
              clear hmem ho hbd hle2 KP
              go_wp2_with (fail)
              refine region_below0 (by kernel_rfl) (by kernel_rfl) ?_
              repeat (first
                | go_big_quiet_step (fail)
                | quiet_step (fail))
              refine wpQuiet_nil ?_
              intro _ hw'
              obtain ⟨⟨dq, osq⟩, hw''⟩ := hw'
              subst hw''
              have HQ2 := Lib.hid (HR.out.trans ((below_regrown wr dq osq).mono HR.out.size))
              clear c1 c2 r1 r2
              generalize grow (redrawn wr dq) osq = W2 at *
              go_wp2_with (fail)
              refine region_below0 (by kernel_rfl) (by kernel_rfl) ?_
              repeat (first
                | go_big_quiet_step (fail)
                | quiet_step (fail))
              refine wpQuiet_nil ?_
              intro _ hw'
              obtain ⟨⟨dq, osq⟩, hw''⟩ := hw'
              subst hw''
              have HQ3 := Lib.hid (HQ2.out.trans ((below_regrown W2 dq osq).mono HQ2.out.size))
              skip
              generalize grow (redrawn W2 dq) osq = W3 at *
              go_wp2_with (fail)
              go_roundw
              case rel => exact ⟨k + 1, by go_num, by omega, by rw [HL.out] <;> rfl, HQ3.out⟩
              case measure => simp [intOf]; omega

            | some j =>
              rw [ho] at HLS
              have hjm := hmem j ho
              have hjk := (mem_ki.1 hjm.1)
              have hjn : j < m := by omega
              have hji : (j : Int) < m := by omega
              have hj0 : ¬ (j : Int) < 0 := by omega
              have hyj := HI.out.y j hjn hjk.2
              have hbj := HI.out.bd HP.out hjn hjk.2
              have hyk2 := HI.out.y k hlt
              have m1 := hbd.mul hbj
              have m2 := hbj.mul hbd
              have q1 := hbd.a; have q2 := hbd.b; have q3 := hbd.c
              have s1 := hbj.a; have s2 := hbj.b; have s3 := hbj.c
              have HV : Hid (bef (σ k) (σ j) = decide (((σ k).sz - (σ k).p.mn + 1) * (σ j).p.wt < ((σ j).sz - (σ j).p.mn + 1) * (σ k).p.wt)) := rfl
              have eK : (σ k).p = P k := (HI.out.y k hlt KP).1
              have eJ : (σ j).p = P j := hyj.1
              rw [eK, eJ] at HV m1 m2
              rw [eK] at q1 q3
              rw [eJ] at s1 s3
              obtain ⟨p0k, _, p2k⟩ := HPT.out k hlt
              obtain ⟨p0j, _, p2j⟩ := HPT.out j hjn
              have zk := HZ.out k hlt
              have zj := HZ.out j hjn
              have eZk : szO σ k = (σ k).sz := rfl
              have eZj : szO σ j = (σ j).sz := rfl
              rw [eZk] at zk
              rw [eZj] at zj
              obtain ⟨m1a, m1b⟩ := m1
              obtain ⟨m2a, m2b⟩ := m2
              obtain ⟨vb, hvb⟩ : ∃ v, bef (σ k) (σ j) = v := ⟨_, rfl⟩
              rw [hvb] at HV
              have HVB := Lib.hid hvb
              generalize (σ k).sz = a1 at *
              generalize (P k).mn = a2 at *
              generalize (P k).wt = a3 at *
              generalize (σ j).sz = b1' at *
              generalize (P j).mn = b2' at *
              generalize (P j).wt = b3 at *
              obtain ⟨u1, hu1⟩ : ∃ u, a1 - a2 + 1 = u := ⟨_, rfl⟩
              obtain ⟨u2, hu2⟩ : ∃ u, b1' - b2' + 1 = u := ⟨_, rfl⟩
              rw [hu1] at m1a m1b HV
              rw [hu2] at m2a m2b HV
              obtain ⟨P1, hp1⟩ : ∃ u, u1 * b3 = u := ⟨_, rfl⟩
              obtain ⟨P2, hp2⟩ : ∃ u, u2 * a3 = u := ⟨_, rfl⟩
              rw [hp1] at m1a m1b HV
              rw [hp2] at m2a m2b HV
              have HK1 := Lib.hid p0k
              have HK2 := Lib.hid p2k
              have HJ1 := Lib.hid p0j
              have HJ2 := Lib.hid p2j
              have HZK := Lib.hid zk
              have HZJ := Lib.hid zj
              simp only [oI]
              clear hmem ho hbd hle2 hjm hjk hyj hbj hyk2 eK eJ p0k p2k p0j p2j zk zj eZk eZj hvb KP
              go_wp2_with (fail)
              refine region_below0 (by kernel_rfl) (by kernel_rfl) ?_
              repeat (first
                | go_big_quiet_step (fail)
                | quiet_step (fail))
              refine wpQuiet_nil ?_
              intro _ hw'
              obtain ⟨⟨dq, osq⟩, hw''⟩ := hw'
              subst hw''
              have HQ2 := Lib.hid (HR.out.trans ((below_regrown wr dq osq).mono HR.out.size))
              have t1 := cell_regrown (cell_regrown HK1.out dq osq)
              have t2 := cell_regrown (cell_regrown HK2.out dq osq)
              have t3 := cell_regrown (cell_regrown HJ1.out dq osq)
              have t4 := cell_regrown (cell_regrown HJ2.out dq osq)
              have t5 := cell_regrown (cell_regrown HZK.out dq osq)
              have t6 := cell_regrown (cell_regrown HZJ.out dq osq)
              clear c1 c2 r1 r2 HK1 HK2 HJ1 HJ2 HZK HZJ
              generalize grow (redrawn wr dq) osq = W2 at *

              cases vb with
              | true =>
                have HL : Hid (nxL σ (ki (kpO σ) (k + 1)) = some k) := by show _ = _; rw [HLS.out]; simp [nxF, HEL.out, HVB.out]
                have hlt2 : P1 < P2 := of_decide_eq_true HV.out.symm
                go_wp2_with (fail)
                refine region_below0 (by kernel_rfl) (by kernel_rfl) ?_
                repeat (first
                  | go_big_quiet_step (fail)
                  | quiet_step (fail))
                refine wpQuiet_nil ?_
                intro _ hw'
                obtain ⟨⟨dq, osq⟩, hw''⟩ := hw'
                subst hw''
                have HQ3 := Lib.hid (HQ2.out.trans ((below_regrown W2 dq osq).mono HQ2.out.size))
                clear t1 t2 t3 t4 t5 t6
                generalize grow (redrawn W2 dq) osq = W3 at *
                have X1 : wrap64 ((a1 - a2 + 1) * b3) = P1 := by rw [hu1, hp1]; unfold wrap64; omega
                have X2 : wrap64 ((b1' - b2' + 1) * a3) = P2 := by rw [hu2, hp2]; unfold wrap64; omega
                simp only [X1, X2]
                go_wp2_with (fail)
                go_roundw
                case rel => exact ⟨k + 1, by go_num, by omega, by rw [HL.out] <;> rfl, HQ3.out⟩
                case measure => simp [intOf]; omega

              | false =>
                have HL : Hid (nxL σ (ki (kpO σ) (k + 1)) = some j) := by show _ = _; rw [HLS.out]; simp [nxF, HEL.out, HVB.out]
                have hlt2 : ¬ P1 < P2 := of_decide_eq_false HV.out.symm
                go_wp2_with (fail)
                refine region_below0 (by kernel_rfl) (by kernel_rfl) ?_
                repeat (first
                  | go_big_quiet_step (fail)
                  | quiet_step (fail))
                refine wpQuiet_nil ?_
                intro _ hw'
                obtain ⟨⟨dq, osq⟩, hw''⟩ := hw'
                subst hw''
                have HQ3 := Lib.hid (HQ2.out.trans ((below_regrown W2 dq osq).mono HQ2.out.size))
                clear t1 t2 t3 t4 t5 t6
                generalize grow (redrawn W2 dq) osq = W3 at *
                have X1 : wrap64 ((a1 - a2 + 1) * b3) = P1 := by rw [hu1, hp1]; unfold wrap64; omega
                have X2 : wrap64 ((b1' - b2' + 1) * a3) = P2 := by rw [hu2, hp2]; unfold wrap64; omega
                simp only [X1, X2]
                go_wp2_with (fail)
                go_roundw
                case rel => exact ⟨k + 1, by go_num, by omega, by rw [HL.out] <;> rfl, HQ3.out⟩
                case measure => simp [intOf]; omega

          · have helg : elg (σ k) = false := by rw [HELG.out]; simp [h2]
            have HL : Hid (nxL σ (ki (kpO σ) (k + 1)) = nxL σ (ki (kpO σ) k)) := by show _ = _; rw [HLS.out]; simp [nxF, helg]
            obtain rfl : wt = 0 := by omega
            clear hbk hbd helg HELG hle2
            go_wp2_with (fail)
            refine region_below0 (by kernel_rfl) (by kernel_rfl) ?_
            repeat (first
              | go_big_quiet_step (fail)
              | quiet_step (fail))
            refine wpQuiet_nil ?_
            intro _ hw'
            obtain ⟨⟨dq, osq⟩, hw''⟩ := hw'
            subst hw''
            have HQ2 := Lib.hid (HR.out.trans ((below_regrown wr dq osq).mono HR.out.size))
            clear c1 c2 r1 r2
            generalize grow (redrawn wr dq) osq = W2 at *
            go_wp2_with (fail)
            go_roundw
            case rel => exact ⟨k + 1, by go_num, by omega, by rw [HL.out] <;> rfl, HQ2.out⟩
            case measure => simp [intOf]; omega

        · have helg : elg (σ k) = false := by rw [HELG.out]; simp [h1]
          have HL : Hid (nxL σ (ki (kpO σ) (k + 1)) = nxL σ (ki (kpO σ) k)) := by show _ = _; rw [HLS.out]; simp [nxF, helg]
          obtain rfl : sz = mx := by omega
          clear hbk hbd helg HELG hle2 h1
          go_wp2_with (fail)
          refine region_below0 (by kernel_rfl) (by kernel_rfl) ?_
          repeat (first
            | go_big_quiet_step (fail)
            | quiet_step (fail))
          refine wpQuiet_nil ?_
          intro _ hw'
          obtain ⟨⟨dq, osq⟩, hw''⟩ := hw'
          subst hw''
          have HQ2 := Lib.hid (HR.out.trans ((below_regrown wr dq osq).mono HR.out.size))
          clear c1 c2 r1 r2
          generalize grow (redrawn wr dq) osq = W2 at *
          go_wp2_with (fail)
          go_roundw
          case rel => exact ⟨k + 1, by go_num, by omega, by rw [HL.out] <;> rfl, HQ2.out⟩
          case measure => simp [intOf]; omega

    · have hki : ¬ (k : Int) < m := by omega
      obtain rfl : k = m := by omega
      have hv : nxL σ (ki (kpO σ) k) = vr := HVR.out
      rw [hv]
      go_wp2_with (fail)
      go_ret
      exact ⟨rfl, HR.out⟩
end Go.Proofs.Ytdodogehlnchlaa
