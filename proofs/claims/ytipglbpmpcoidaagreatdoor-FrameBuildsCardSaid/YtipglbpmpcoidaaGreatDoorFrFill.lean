/-
  Walks: a builder's Fill, the program's.
-/
import Derived.Test.YtipglbpmpcoidaaGreatDoorFrText
import Derived.Test.YtipglbpmpcoidaaGreatDoorQuietB
namespace Go.Proofs.YtipglbpmpcoidaaGreatDoor
open Go.RowKit Go.Sort
set_option linter.unusedVariables false
set_option linter.unusedSimpArgs false

/-- what Fill comes to -/
def ffil (W : Nat) (L : List (List Cl)) (row a z : Int) (y : Sty) : List (List Cl) × Int :=
  if fwithB row L.length = false then (L, 5) else if styB y = false then (L, 1) else (fillG W L row a z y, 0)
set_option maxRecDepth 100000 in
set_option maxHeartbeats 8000000 in
theorem ffill_any {w : World} {lo b g rb W : Nat} {bs : List Nat} {L : List (List Cl)} {r0 c0 : Int} {sn : Bool} (h : BdAt w lo b g rb bs W L r0 c0 sn) (hT : BlankT w) (hlo : 0 < lo) (row a z : Int) (ha1 : -9223372036854775808 ≤ a) (ha2 : a ≤ 9223372036854775807) (y : Sty) :
    Calls Tryz.prog 9 #[.pointer (some ⟨b, 0, none⟩), .int .i64 row, .int .i64 a, .int .i64 z, .agg y.cells.toArray] w fun e w' =>
      e = .returned (.int .i64 (ffil W L row a z y).2) ∧ BdAt w' lo b g rb bs W (ffil W L row a z y).1 r0 c0 sn ∧ Chg (GrOwn g rb bs) w w' := by
  have hW5 := h.grid.w5
  obtain ⟨W0, hW0⟩ : ∃ W0, W0 = w.alloc (.cells y.cells.toArray 36) := ⟨_, rfl⟩
  have hB0 : Below w.heap.size w W0 := by rw [hW0]; exact (Below.refl _ w).alloc (Nat.le_refl _) _
  have x3 : Blk W0 w.heap.size 36 y.cells := by rw [hW0]; exact Blk.new w _ _
  have h0 := h.below hB0
  have hT0 := hT.bel hB0
  obtain ⟨v1, h1⟩ : ∃ v, v = fwithB row L.length := ⟨_, rfl⟩
  obtain ⟨v3, h3⟩ : ∃ v, v = styB y := ⟨_, rfl⟩
  have HQ1 := Lib.hid (fcheckrow_any h0 row)
  rw [← h1] at HQ1
  have HST := Lib.hid (fstyle_any y)
  rw [← h3] at HST
  have H := Lib.hid h
  have H0 := Lib.hid h0
  have H1 := Lib.hid h1
  have H3 := Lib.hid h3
  have HW0 := Lib.hid hW0
  have HB0 := Lib.hid hB0
  have HT := Lib.hid hT0
  have X3 := Lib.hid x3
  unfold ffil
  rw [← h1, ← h3]
  have hfs : w.heap.size < W0.heap.size := x3.lt
  clear h h0 h1 h3 hW0 hB0 hT hT0 x3
  have HC1 : Hid (∀ W', Below W0.heap.size W0 W' → Chg (GrOwn g rb bs) w W') := Lib.hid (fun W' hW' => Chg.of_below (HB0.out.trans (hW'.mono HB0.out.size)))
  cases v1
  · go_enter Tryz.func9, Tryz.ntmps9
    go_wp2_with (fail)
    rw [← HW0.out]
    refine HQ1.out.mono ?_
    rintro e w1 ⟨rfl, n1, rfl⟩
    go_wp2
    go_ret
    exact ⟨rfl, H0.out.drewN _, HC1.out _ (below_drewN W0 _)⟩
  cases v3
  · go_enter Tryz.func9, Tryz.ntmps9
    go_wp2_with (fail)
    rw [← HW0.out]
    refine HQ1.out.mono ?_
    rintro e w1 ⟨rfl, n1, rfl⟩
    go_wp2_with (first
      | ((with_reducible refine at_dst 21 ?_); refine wpList_load_mid rfl _ _ rfl w.heap.size 0 rfl y.cells _ ((X3.out.drewN _).range 0 _ (fun j v hv => by simpa using hv)) Tryz.underlying36 rfl sty_size ?_)
      | (go_at_call 24; refine (HST.out _).mono ?_; rintro e w2 ⟨rfl, hb2⟩))
    go_ret
    exact ⟨rfl, (H0.out.drewN _).below hb2, HC1.out _ ((below_drewN W0 _).trans (hb2.mono (by simp)))⟩
  · obtain ⟨m, hm⟩ : ∃ m, m = max a 0 := ⟨_, rfl⟩
    obtain ⟨N, hN⟩ : ∃ N, N = fillN W a z := ⟨_, rfl⟩
    have hNe : (N : Int) = max 0 (min z W - m) := by rw [hN, hm]; unfold fillN; omega
    have hm0 : 0 ≤ m := by omega
    obtain ⟨L1, hL1⟩ : ∃ L1, L1 = (eraseG W L row a z).1 := ⟨_, rfl⟩
    have hpost : fillG W L row a z y = fillC W L1 row m y N := by unfold fillG; rw [hL1, hm, hN]
    simp only [Bool.true_eq_false, if_false]
    rw [hpost]
    have HNE := Lib.hid hNe
    have HME := Lib.hid hm
    have HL1 := Lib.hid hL1
    clear hm hN hNe hL1 hpost
    go_enter Tryz.func9, Tryz.ntmps9
    go_wp2_with (fail)
    rw [← HW0.out]
    refine HQ1.out.mono ?_
    rintro e w1 ⟨rfl, n1, rfl⟩
    go_wp2_with (first
      | ((with_reducible refine at_dst 21 ?_); refine wpList_load_mid rfl _ _ rfl w.heap.size 0 rfl y.cells _ ((X3.out.drewN _).range 0 _ (fun j v hv => by simpa using hv)) Tryz.underlying36 rfl sty_size ?_)
      | (go_at_call 24; refine (HST.out _).mono ?_; rintro e w2 ⟨rfl, hb2⟩; have hb02 : Below W0.heap.size W0 w2 := (below_drewN W0 _).trans (hb2.mono (by simp)); have H2 := Lib.hid (H0.out.below hb02); have hcc := H2.out.cells; have HB2 := Lib.hid hb02; clear hb2 hb02))
    refine (erase_any H2.out.grid (HT.out.below HB2.out HT.out.2) hlo row a z ha1 ha2).mono ?_
    rintro e w3 ⟨rfl, hg3, hc3⟩
    have hbd3 := H2.out.turned hg3 hc3 (by rw [feraseG_length]) (H.out.ok.erase W row a z)
    have HBD3 := Lib.hid hbd3
    have hx3 : Blk w3 w.heap.size 36 y.cells := (X3.out.below HB2.out hfs).chg hc3 (fun e => by have := H.out.grid.own_lt _ e; omega)
    have HX3 := Lib.hid hx3
    have HT3 := Lib.hid ((HT.out.below HB2.out HT.out.2).chg hc3 (fun e => by have := H.out.grid.lo _ e; omega))
    have HC3 : Hid (Chg (GrOwn g rb bs) w w3) := Lib.hid ((HC1.out w2 HB2.out).trans hc3 (fun j hj => .inl hj))
    have hsz3 : w.heap.size < w3.heap.size := hx3.lt
    clear hg3 hc3 hbd3 hx3 hcc
    go_wp2_with (go_at_call 13; refine (fbsize_any HBD3.out).mono ?_; rintro e w' ⟨rfl, n4, rfl⟩)
    rw [← HME.out]
    rw [← HL1.out] at HBD3
    go_loopw [14] (fun i wr => ∃ k : Nat, i = .int .i64 (m + k) ∧ k ≤ N ∧ BdAt wr lo b g rb bs W (fillC W L1 row m y k) r0 c0 sn ∧ Blk wr w.heap.size 36 y.cells ∧ BlankT wr ∧ Chg (GrOwn g rb bs) w wr ∧ w.heap.size < wr.heap.size) (fun i _ => (m + N - intOf i).toNat)
    case atStart => exact ⟨0, by simp, by omega, HBD3.out.drewN _, HX3.out.drewN _, HT3.out.below (below_drewN _ _) HT3.out.2, HC3.out.drewN _, by simpa using hsz3⟩
    case round =>
      obtain ⟨k, rfl, hk, hbd, hx, htb, hch, hsz⟩ := hrel
      have hNe := HNE.out
      by_cases hlt : k < N
      · have hmk : m + k < min z W := by omega
        have hmk2 : m + k < 500 := by omega
        have c1 := cell_regrown hbd.cells
        have y0 := cell_regrown (show wr.cell? ⟨w.heap.size, 0, none⟩ = some (.bool y.b) from hx.cell 0)
        have y1 := cell_regrown (show wr.cell? ⟨w.heap.size, 1, none⟩ = some (.bool y.u) from hx.cell 1)
        have y2 := cell_regrown (show wr.cell? ⟨w.heap.size, 2, none⟩ = some (.bool y.i) from hx.cell 2)
        have y3 := cell_regrown (show wr.cell? ⟨w.heap.size, 3, none⟩ = some (.int .i64 y.f) from hx.cell 3)
        have y4 := cell_regrown (show wr.cell? ⟨w.heap.size, 4, none⟩ = some (.int .i64 y.g) from hx.cell 4)
        have BD := Lib.hid hbd
        have XX := Lib.hid hx
        have TT := Lib.hid htb
        have CC := Lib.hid hch
        clear hbd hx htb hch hNe
        go_wp2_with (fail)
        refine wp_region_below_tail 8 (by kernel_rfl) (by kernel_rfl) ?_
        simp only [List.take_succ_cons, List.take_zero, List.drop_succ_cons, List.drop_zero]
        repeat (first
          | go_big_quiet_step (fail)
          | quiet_step (fail))
        refine wpQuiet_nil ?_
        intro _ hw'
        obtain ⟨⟨dq, osq⟩, hw''⟩ := hw'
        subst hw''
        have hb2 := below_regrown wr dq osq
        clear c1 y0 y1 y2 y3 y4
        generalize grow (redrawn wr dq) osq = w5 at hb2 ⊢
        have hput := put_any (BD.out.below hb2).grid (TT.out.bel hb2) hlo row (m + k) [32] 1 y (by simp)
        simp only [Sty.cells] at hput
        have HPUT := Lib.hid hput
        have HB5 := Lib.hid hb2
        clear hput hb2
        go_wp2_with (go_at_call 28; refine HPUT.out.mono ?_; rintro e w6 ⟨rfl, hg6, hc6⟩)
        go_roundw
        case rel =>
          refine ⟨k + 1, ?_, by omega, (BD.out.below HB5.out).turned hg6 hc6 (by rw [fillC, fputM_length]) (BD.out.ok.put W row _ [32] 1 y H3.out.symm isC_space fw_space.symm), ?_, ?_, ?_, ?_⟩
          · rw [Int.natCast_add, Int.add_assoc]; rfl
          · exact (XX.out.below HB5.out XX.out.lt).chg hc6 (fun e => by have := H.out.grid.own_lt _ e; omega)
          · exact (TT.out.bel HB5.out).chg hc6 (fun e => by have := H.out.grid.lo _ e; omega)
          · exact (CC.out.trans (Chg.of_below (S := noB) HB5.out) (fun _ h => h.elim)).trans hc6 (fun j hj => .inl hj)
          · have := HB5.out.size; have := hc6.size; omega
        case measure => simp [intOf]; omega
      · obtain rfl : k = N := by omega
        have hmk : ¬ m + k < min z W := by omega
        have BD := Lib.hid hbd
        have CC := Lib.hid hch
        clear hbd hx htb hch hNe
        go_wp2
        go_ret
        exact ⟨rfl, BD.out, CC.out⟩
end Go.Proofs.YtipglbpmpcoidaaGreatDoor
