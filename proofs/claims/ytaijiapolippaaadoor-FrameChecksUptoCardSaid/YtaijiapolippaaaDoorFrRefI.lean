/-
  Walks: the document's Is: may a frame be?
-/
import Derived.Test.YtaijiapolippaaaDoorFrRefW
namespace Go.Proofs.YtaijiapolippaaaDoor
open Go.RowKit Go.Sort
set_option linter.unusedVariables false
set_option linter.unusedSimpArgs false

theorem fvalB_cons {l0 : List Cl} {L' : List (List Cl)} (row col : Int) : fvalB (l0 :: L') row col = (fsizeB l0.length (l0 :: L').length && (fwithB row (l0 :: L').length && (fwithB col l0.length && (l0 :: L').all (fun l => decide (l.length = l0.length) && rowA none l)))) := rfl
theorem all_no {L : List (List Cl)} {f : List Cl → Bool} {k : Nat} {l : List Cl} (h : L[k]? = some l) (hf : f l = false) : L.all f = false := by
  rw [List.all_eq_false]
  exact ⟨l, List.mem_of_getElem? h, by rw [hf]; decide⟩

set_option maxRecDepth 100000 in
set_option maxHeartbeats 16000000 in
theorem rfis_any {w : World} {D : Nat → Prop} {A : Option Addr} {c : Nat} {L : List (List Cl)} (h : RfAt w D A c L) (row col : Int) (sn : Bool) (hs : ∀ l ∈ L, l.length ≤ 100000 ∧ ∀ x ∈ l, x.s.length ≤ 2000000) (h5 : L.length ≤ 100000) :
    Calls Tryd.prog 40 #[.agg #[.slice A L.length c, .int .i64 row, .int .i64 col, .bool sn]] w fun e w' => e = .returned (.bool (fvalB L row col)) ∧ Below w.heap.size w w' := by
  obtain ⟨R, hR⟩ : ∃ R, R = fvalB L row col := ⟨_, rfl⟩
  rw [← hR]
  obtain ⟨W0, hW0⟩ : ∃ W0, W0 = w.alloc (.cells #[.slice A L.length c, .int .i64 row, .int .i64 col, .bool sn] 74) := ⟨_, rfl⟩
  have hb0 : Below w.heap.size w W0 := by rw [hW0]; exact (Below.refl _ w).alloc (Nat.le_refl _) _
  have f1 : Blk W0 w.heap.size 74 [.slice A L.length c, .int .i64 row, .int .i64 col, .bool sn] := by rw [hW0]; exact Blk.new w _ [.slice A L.length c, .int .i64 row, .int .i64 col, .bool sn]
  have a0 : W0.cell? ⟨w.heap.size, 0, none⟩ = some (.slice A L.length c) := f1.cell 0
  have a1 : W0.cell? ⟨w.heap.size, 1, none⟩ = some (.int .i64 row) := f1.cell 1
  have a2 : W0.cell? ⟨w.heap.size, 2, none⟩ = some (.int .i64 col) := f1.cell 2
  have HA := Lib.hid (h.below hb0)
  have HB0 := Lib.hid hb0
  have HW0 := Lib.hid hW0
  have HS := Lib.hid hs
  have hl0 : w.heap.size < W0.heap.size := f1.lt
  clear h hb0 hW0 hs f1
  cases L with
  | nil =>
    have HF := Lib.hid (show R = false by rw [hR]; rfl)
    clear hR
    clear a0 a1 a2 HA HB0 HW0 HS hl0
    go_enter Tryd.func40, Tryd.ntmps40
    go_wp2
    go_ret
    exact ⟨by rw [HF.out]; rfl, (Below.refl _ w).alloc (Nat.le_refl _) _⟩
  | cons l0 L' =>
    rw [fvalB_cons] at hR
    have hg0 : (l0 :: L')[0]? = some l0 := rfl
    have hm0 := (HS.out l0 (by simp)).1
    have h1 : 1 ≤ (l0 :: L').length := by simp
    generalize hLL : l0 :: L' = L at *
    obtain ⟨b, off, A0, ci0, rfl, hb, hc0, _, _⟩ := HA.out.at_ hg0
    rw [Nat.add_zero] at hc0
    obtain ⟨H, hH⟩ : ∃ H, H = L.length := ⟨_, rfl⟩
    obtain ⟨n0, hn0⟩ : ∃ n0, n0 = l0.length := ⟨_, rfl⟩
    rw [← hH] at a0 hR h1 h5 ⊢
    rw [← hn0] at hR hc0 hm0
    have hw0 := HW0.out
    rw [← hH] at hw0
    have HW1 := Lib.hid hw0
    clear hw0
    have HH := Lib.hid hH
    have HN0 := Lib.hid hn0
    have HR := Lib.hid hR
    have hi1 : ¬ (H : Int) < 1 := by omega
    clear hLL hH hn0 hR hg0 HW0
    go_enter Tryd.func40, Tryd.ntmps40
    go_upto_region 1 with (fail)
    rw [← HW1.out]
    by_cases q1 : (60 : Int) < H
    case pos =>
      have HF := Lib.hid (show R = false by rw [HR.out]; unfold fsizeB; rw [decide_eq_false (by omega)]; rfl)
      go_wp2_with (fail)
      go_ret
      exact ⟨by rw [HF.out]; rfl, HB0.out⟩
    by_cases q2 : (n0 : Int) < 1
    case pos =>
      have HF := Lib.hid (show R = false by rw [HR.out]; unfold fsizeB; rw [decide_eq_false (by omega)]; rfl)
      go_wp2_with (fail)
      go_ret
      exact ⟨by rw [HF.out]; rfl, HB0.out⟩
    by_cases q3 : (500 : Int) < n0
    case pos =>
      have HF := Lib.hid (show R = false by rw [HR.out]; unfold fsizeB; rw [decide_eq_false (by omega)]; rfl)
      go_wp2_with (fail)
      go_ret
      exact ⟨by rw [HF.out]; rfl, HB0.out⟩
    go_wp2_with (fail)
    go_loopw [3] (fun i wr => ∃ k : Nat, i = .int .i64 k ∧ k ≤ H ∧ (∀ l ∈ L.take k, (decide (l.length = n0) && rowA none l) = true) ∧ Below W0.heap.size W0 wr) (fun i _ => H - (intOf i).toNat)
    case atStart => exact ⟨0, rfl, by omega, by simp, Below.refl _ _⟩
    case round =>
      obtain ⟨k, rfl, hk, hall, hbel⟩ := hrel
      have z0 : wr.cell? ⟨w.heap.size, 0, none⟩ = some (.slice (some ⟨b, off, none⟩) H c) := (hbel.cell (p := ⟨w.heap.size, 0, none⟩) hl0).trans a0
      have z1 : wr.cell? ⟨w.heap.size, 1, none⟩ = some (.int .i64 row) := (hbel.cell (p := ⟨w.heap.size, 1, none⟩) hl0).trans a1
      have z2 : wr.cell? ⟨w.heap.size, 2, none⟩ = some (.int .i64 col) := (hbel.cell (p := ⟨w.heap.size, 2, none⟩) hl0).trans a2
      have z3 : wr.cell? ⟨b, off, none⟩ = some (.slice A0 n0 ci0) := (hbel.cell (p := ⟨b, off, none⟩) hb).trans hc0
      have HBE := Lib.hid hbel
      have HALL := Lib.hid hall
      clear hbel hall a0 a1 a2 hc0
      by_cases hlt : k < H
      · have hki : (k : Int) < H := by omega
        have hkl : k < L.length := by have := HH.out; omega
        have hl : L[k]? = some L[k] := List.getElem?_eq_getElem hkl
        have htk : L.take (k + 1) = L.take k ++ [L[k]] := List.take_succ_eq_append_getElem hkl
        have hm := HS.out _ (List.getElem_mem hkl)
        generalize L[k] = l at hl htk hm
        obtain ⟨b', off', Ai, ci, e', hba, hca, _, hsa⟩ := (HA.out.below HBE.out).at_ hl
        injection e' with e'
        injection e' with e1 e2 e3
        subst e1
        subst e2
        have c0 := cell_regrown z0
        have c1 := cell_regrown z3
        have c2 := cell_regrown hca
        have Q1 := fun dd os => Calls.regrown_of (rwhole_any l l.length ci wr.heap.size Ai (grow (redrawn wr dd) os) rfl hm.1 hm.2 (hsa.sl.below (below_regrown wr dd os)) (below_regrown wr dd os).size)
        obtain ⟨n, hn⟩ : ∃ n, n = l.length := ⟨_, rfl⟩
        obtain ⟨v, hv⟩ : ∃ v, v = rowA none l := ⟨_, rfl⟩
        rw [← hn, ← hv] at Q1
        rw [← hn] at c2
        have Q1 := Lib.hid Q1
        have HTK := Lib.hid htk
        have HNL := Lib.hid hn
        have HV := Lib.hid hv
        have HL := Lib.hid hl
        clear hm hsa hca hba htk hn hv hl z1 z2
        go_upto_region 6 with (fail)
        clear z0 z3
        by_cases e1 : n = n0
        case neg =>
          have e1' : ¬ (n : Int) = n0 := by omega
          have HF := Lib.hid (show R = false by rw [HR.out, all_no HL.out (by rw [← HNL.out, decide_eq_false e1]; rfl)]; simp)
          refine region_below0 (by kernel_rfl) (by kernel_rfl) ?_
          repeat (first
            | go_big_quiet_step (with_reducible exact Q1.out _ _)
            | quiet_step (with_reducible exact Q1.out _ _))
          refine wpQuiet_nil ?_
          intro _ hw'
          obtain ⟨⟨dq, osq⟩, hw''⟩ := hw'
          subst hw''
          have HB2 := Lib.hid (HBE.out.trans ((below_regrown wr dq osq).mono HBE.out.size))
          clear c0 c1 c2
          generalize grow (redrawn wr dq) osq = w5 at HB2 ⊢
          go_wp2
          go_ret
          exact ⟨by rw [HF.out]; rfl, HB0.out.trans (HB2.out.mono HB0.out.size)⟩
        subst e1
        cases v
        case' false =>
          have HF := Lib.hid (show R = false by rw [HR.out, all_no HL.out (by rw [← HV.out]; simp)]; simp)
          refine region_below0 (by kernel_rfl) (by kernel_rfl) ?_
          repeat (first
            | go_big_quiet_step (with_reducible exact Q1.out _ _)
            | quiet_step (with_reducible exact Q1.out _ _))
          refine wpQuiet_nil ?_
          intro _ hw'
          obtain ⟨⟨dq, osq⟩, hw''⟩ := hw'
          subst hw''
          have HB2 := Lib.hid (HBE.out.trans ((below_regrown wr dq osq).mono HBE.out.size))
          clear c0 c1 c2
          generalize grow (redrawn wr dq) osq = w5 at HB2 ⊢
          go_wp2
          go_ret
          exact ⟨by rw [HF.out]; rfl, HB0.out.trans (HB2.out.mono HB0.out.size)⟩
        refine region_below0 (by kernel_rfl) (by kernel_rfl) ?_
        repeat (first
          | go_big_quiet_step (with_reducible exact Q1.out _ _)
          | quiet_step (with_reducible exact Q1.out _ _))
        refine wpQuiet_nil ?_
        intro _ hw'
        obtain ⟨⟨dq, osq⟩, hw''⟩ := hw'
        subst hw''
        have HB2 := Lib.hid (HBE.out.trans ((below_regrown wr dq osq).mono HBE.out.size))
        clear c0 c1 c2
        generalize grow (redrawn wr dq) osq = w5 at HB2 ⊢
        go_wp2
        go_roundw
        case rel =>
          refine ⟨k + 1, by go_num, by omega, ?_, HB2.out⟩
          intro x hx
          rw [HTK.out] at hx
          rcases List.mem_append.1 hx with hx | hx
          · exact HALL.out x hx
          · simp at hx
            subst hx
            rw [← HV.out, ← HNL.out]
            simp
        case measure => simp [intOf]; omega
      · have hki : ¬ (k : Int) < H := by omega
        have hal : L.all (fun l => decide (l.length = n0) && rowA none l) = true := by
          rw [List.all_eq_true]
          intro x hx
          exact HALL.out x (by rw [List.take_of_length_le (by have := HH.out; omega)]; exact hx)
        have hfin : R = (fwithB row H && fwithB col n0) := by
          rw [HR.out, hal]
          unfold fsizeB
          rw [decide_eq_true (by omega)]
          simp
        clear hal
        go_upto_region 8 with (fail)
        by_cases p1 : (0 : Int) ≤ row
        case neg =>
          have HF := Lib.hid (show R = false by rw [hfin]; unfold fwithB; rw [decide_eq_false (by omega)]; rfl)
          clear hfin
          have c0 := cell_regrown z0
          have c1 := cell_regrown z1
          have c2 := cell_regrown z2
          have c3 := cell_regrown z3
          clear z0 z1 z2 z3
          refine region_below0 (by kernel_rfl) (by kernel_rfl) ?_
          repeat (first
            | go_big_quiet_step (fail)
            | quiet_step (fail))
          refine wpQuiet_nil ?_
          intro _ hw'
          obtain ⟨⟨dq, osq⟩, hw''⟩ := hw'
          subst hw''
          have HB2 := Lib.hid (HBE.out.trans ((below_regrown wr dq osq).mono HBE.out.size))
          clear c0 c1 c2 c3
          generalize grow (redrawn wr dq) osq = w5 at HB2 ⊢
          go_wp2
          go_ret
          exact ⟨by rw [HF.out]; rfl, HB0.out.trans (HB2.out.mono HB0.out.size)⟩
        by_cases p2 : row < (H : Int)
        case neg =>
          have HF := Lib.hid (show R = false by rw [hfin]; unfold fwithB; rw [decide_eq_false (by omega)]; rfl)
          clear hfin
          have c0 := cell_regrown z0
          have c1 := cell_regrown z1
          have c2 := cell_regrown z2
          have c3 := cell_regrown z3
          clear z0 z1 z2 z3
          refine region_below0 (by kernel_rfl) (by kernel_rfl) ?_
          repeat (first
            | go_big_quiet_step (fail)
            | quiet_step (fail))
          refine wpQuiet_nil ?_
          intro _ hw'
          obtain ⟨⟨dq, osq⟩, hw''⟩ := hw'
          subst hw''
          have HB2 := Lib.hid (HBE.out.trans ((below_regrown wr dq osq).mono HBE.out.size))
          clear c0 c1 c2 c3
          generalize grow (redrawn wr dq) osq = w5 at HB2 ⊢
          go_wp2
          go_ret
          exact ⟨by rw [HF.out]; rfl, HB0.out.trans (HB2.out.mono HB0.out.size)⟩
        by_cases p3 : (0 : Int) ≤ col
        case neg =>
          have HF := Lib.hid (show R = false by rw [hfin]; unfold fwithB; rw [decide_eq_false (p := 0 ≤ col ∧ col < (n0 : Int)) (by omega)]; simp)
          clear hfin
          have c0 := cell_regrown z0
          have c1 := cell_regrown z1
          have c2 := cell_regrown z2
          have c3 := cell_regrown z3
          clear z0 z1 z2 z3
          refine region_below0 (by kernel_rfl) (by kernel_rfl) ?_
          repeat (first
            | go_big_quiet_step (fail)
            | quiet_step (fail))
          refine wpQuiet_nil ?_
          intro _ hw'
          obtain ⟨⟨dq, osq⟩, hw''⟩ := hw'
          subst hw''
          have HB2 := Lib.hid (HBE.out.trans ((below_regrown wr dq osq).mono HBE.out.size))
          clear c0 c1 c2 c3
          generalize grow (redrawn wr dq) osq = w5 at HB2 ⊢
          go_wp2
          go_ret
          exact ⟨by rw [HF.out]; rfl, HB0.out.trans (HB2.out.mono HB0.out.size)⟩
        by_cases p4 : col < (n0 : Int)
        case neg =>
          have HF := Lib.hid (show R = false by rw [hfin]; unfold fwithB; rw [decide_eq_false (p := 0 ≤ col ∧ col < (n0 : Int)) (by omega)]; simp)
          clear hfin
          have c0 := cell_regrown z0
          have c1 := cell_regrown z1
          have c2 := cell_regrown z2
          have c3 := cell_regrown z3
          clear z0 z1 z2 z3
          refine region_below0 (by kernel_rfl) (by kernel_rfl) ?_
          repeat (first
            | go_big_quiet_step (fail)
            | quiet_step (fail))
          refine wpQuiet_nil ?_
          intro _ hw'
          obtain ⟨⟨dq, osq⟩, hw''⟩ := hw'
          subst hw''
          have HB2 := Lib.hid (HBE.out.trans ((below_regrown wr dq osq).mono HBE.out.size))
          clear c0 c1 c2 c3
          generalize grow (redrawn wr dq) osq = w5 at HB2 ⊢
          go_wp2
          go_ret
          exact ⟨by rw [HF.out]; rfl, HB0.out.trans (HB2.out.mono HB0.out.size)⟩
        have HF := Lib.hid (show R = true by rw [hfin]; unfold fwithB; rw [decide_eq_true (p := 0 ≤ row ∧ row < (H : Int)) (by omega), decide_eq_true (p := 0 ≤ col ∧ col < (n0 : Int)) (by omega)]; rfl)
        clear hfin
        have c0 := cell_regrown z0
        have c1 := cell_regrown z1
        have c2 := cell_regrown z2
        have c3 := cell_regrown z3
        clear z0 z1 z2 z3
        refine region_below0 (by kernel_rfl) (by kernel_rfl) ?_
        repeat (first
          | go_big_quiet_step (fail)
          | quiet_step (fail))
        refine wpQuiet_nil ?_
        intro _ hw'
        obtain ⟨⟨dq, osq⟩, hw''⟩ := hw'
        subst hw''
        have HB2 := Lib.hid (HBE.out.trans ((below_regrown wr dq osq).mono HBE.out.size))
        clear c0 c1 c2 c3
        generalize grow (redrawn wr dq) osq = w5 at HB2 ⊢
        go_wp2
        go_ret
        exact ⟨by rw [HF.out]; rfl, HB0.out.trans (HB2.out.mono HB0.out.size)⟩
end Go.Proofs.YtaijiapolippaaaDoor
