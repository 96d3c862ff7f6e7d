/-
  Walks: the document's first.
-/
import Derived.Test.YtdodogehlnchlaaLyRef1
namespace Go.Proofs.Ytdodogehlnchlaa
open Go.RowKit Go.Shelf Go.Sort
attribute [local go_sem] Oper.semAt_some
set_option linter.unusedVariables false
set_option linter.unusedSimpArgs false

set_option maxRecDepth 100000 in
set_option maxHeartbeats 8000000 in
theorem rfirst_any (ab off n c : Nat) (P : Nat → Pt) (B : Option Addr) (m d : Nat) (b : Nat → Bool) (w : World) (hn : n ≤ 65) (hm : m = n) (hS : Sl w w.heap.size (some ⟨ab, off, none⟩) (ptB P n)) (hB : Sl w w.heap.size B (rw1 (fun i => .bool (b i)) n)) :
    Calls Try.prog 31 #[.slice (some ⟨ab, off, none⟩) n c, .slice B m d] w fun e w' => e = .returned (.int .i64 (oI (lstL (fun i => (P i).kp) (ki b n)))) ∧ Below w.heap.size w w' := by
  subst hm
  have HS := Lib.hid hS
  have HB := Lib.hid hB
  clear hS hB
  obtain ⟨K, hK⟩ : ∃ K : Nat → Int, (fun i => (P i).kp) = K := ⟨_, rfl⟩
  rw [hK]
  have HK : Hid (∀ i, (P i).kp = K i) := fun i => by rw [← hK]
  clear hK
  go_enter Try.func31, Try.ntmps31
  go_wp2_with (fail)
  go_loopw [5, 6] (fun v5 v6 wr => ∃ k : Nat, v6 = .int .i64 k ∧ k ≤ m ∧ v5 = .int .i64 (oI (lstL K (ki b k))) ∧ Below w.heap.size w wr) (fun _ v _ => m - (intOf v).toNat)
  case atStart => exact ⟨0, rfl, by omega, rfl, Below.refl _ _⟩
  case round =>
    obtain ⟨k, rfl, hk, rfl, hrb⟩ := hrel
    have HR := Lib.hid hrb
    by_cases hlt : k < m
    · have hki : (k : Int) < m := by omega
      obtain ⟨b1, o1, rfl, hb1, hc1⟩ := rw1_at HB.out hlt
      have c1 := cell_regrown ((hrb.cell (p := ⟨b1, o1 + k, none⟩) hb1).trans hc1)
      have c2 := cell_regrown ((hrb.cell (p := ⟨ab, off + k * 4 + 3, none⟩) (pt_cellR HS.out hlt (j := 3) rfl).1).trans (pt_cellR (j := 3) HS.out hlt rfl).2)
      rw [HK.out k] at c2
      clear hc1
      cases hbk : b k with
      | false =>
        rw [hbk] at c1
        have HL : Hid (lstL K (ki b (k + 1)) = lstL K (ki b k)) := by show _ = _; rw [ki_no hbk]
        clear hbk hrb
        go_wp2_with (fail)
        refine region_below0 (by kernel_rfl) (by kernel_rfl) ?_
        repeat (first
          | go_big_quiet_step (fail)
          | quiet_step (fail))
        refine wpQuiet_nil ?_
        intro _ hw'
        obtain ⟨⟨dq, osq⟩, hw''⟩ := hw'
        subst hw''
        have HQ2 := Lib.hid (HR.out.trans ((below_regrown wr dq osq).mono HR.out.size))
        clear c1 c2
        generalize grow (redrawn wr dq) osq = W2 at *
        go_wp2_with (fail)
        go_roundw
        case rel => exact ⟨k + 1, by go_num, by omega, by rw [HL.out], HQ2.out⟩
        case measure => simp [intOf]; omega

      | true =>
        rw [hbk] at c1
        have HLS : Hid (lstL K (ki b (k + 1)) = lsF K (lstL K (ki b k)) k) := by show _ = _; rw [ki_yes hbk, lstL_snoc]
        have hmem := lstL_mem K (ki b k)
        cases ho : lstL K (ki b k) with
        | none =>
          rw [ho] at HLS
          have HL : Hid (lstL K (ki b (k + 1)) = some k) := HLS.out
          simp only [oI]
          clear hbk hrb ho hmem
          go_wp2_with (fail)
          refine region_below0 (by kernel_rfl) (by kernel_rfl) ?_
          repeat (first
            | go_big_quiet_step (fail)
            | quiet_step (fail))
          refine wpQuiet_nil ?_
          intro _ hw'
          obtain ⟨⟨dq, osq⟩, hw''⟩ := hw'
          subst hw''
          have HQ2 := Lib.hid (HR.out.trans ((below_regrown wr dq osq).mono HR.out.size))
          clear c1 c2
          generalize grow (redrawn wr dq) osq = W2 at *
          go_wp2_with (fail)
          go_roundw
          case rel => exact ⟨k + 1, by go_num, by omega, by rw [HL.out], HQ2.out⟩
          case measure => simp [intOf]; omega

        | some j =>
          rw [ho] at HLS
          have hjk := (mem_ki.1 (hmem.1 j ho)).1
          have hjm : j < m := by omega
          have hji : (j : Int) < m := by omega
          have hj0 : ¬ (j : Int) < 0 := by omega
          have c3 := cell_regrown ((hrb.cell (p := ⟨ab, off + j * 4 + 3, none⟩) (pt_cellR HS.out hjm (j := 3) rfl).1).trans (pt_cellR (j := 3) HS.out hjm rfl).2)
          rw [HK.out j] at c3
          simp only [oI]
          by_cases hle : K k ≤ K j
          · have HL : Hid (lstL K (ki b (k + 1)) = some k) := by show _ = _; rw [HLS.out]; simp only [lsF]; rw [if_pos hle]
            clear hbk hrb ho hmem
            go_wp2_with (fail)
            refine region_below0 (by kernel_rfl) (by kernel_rfl) ?_
            repeat (first
              | go_big_quiet_step (fail)
              | quiet_step (fail))
            refine wpQuiet_nil ?_
            intro _ hw'
            obtain ⟨⟨dq, osq⟩, hw''⟩ := hw'
            subst hw''
            have HQ2 := Lib.hid (HR.out.trans ((below_regrown wr dq osq).mono HR.out.size))
            clear c1 c2 c3
            generalize grow (redrawn wr dq) osq = W2 at *
            go_wp2_with (fail)
            go_roundw
            case rel => exact ⟨k + 1, by go_num, by omega, by rw [HL.out], HQ2.out⟩
            case measure => simp [intOf]; omega

          · have HL : Hid (lstL K (ki b (k + 1)) = some j) := by show _ = _; rw [HLS.out]; simp only [lsF]; rw [if_neg hle]
            clear hbk hrb ho hmem
            go_wp2_with (fail)
            refine region_below0 (by kernel_rfl) (by kernel_rfl) ?_
            repeat (first
              | go_big_quiet_step (fail)
              | quiet_step (fail))
            refine wpQuiet_nil ?_
            intro _ hw'
            obtain ⟨⟨dq, osq⟩, hw''⟩ := hw'
            subst hw''
            have HQ2 := Lib.hid (HR.out.trans ((below_regrown wr dq osq).mono HR.out.size))
            clear c1 c2 c3
            generalize grow (redrawn wr dq) osq = W2 at *
            go_wp2_with (fail)
            go_roundw
            case rel => exact ⟨k + 1, by go_num, by omega, by rw [HL.out], HQ2.out⟩
            case measure => simp [intOf]; omega

    · have hki : ¬ (k : Int) < m := by omega
      obtain rfl : k = m := by omega
      go_wp2_with (fail)
      go_ret
      exact ⟨rfl, HR.out⟩
end Go.Proofs.Ytdodogehlnchlaa
