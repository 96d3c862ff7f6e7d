/-
  Walks: the law's helper shows: a terminal stands as the document's.
-/
import Derived.Test.YtfmkeeaenjeneaaGreatDoorRtWrite
import Derived.Test.YtfmkeeaenjeneaaGreatDoorTmAcc
import Derived.Test.YtfmkeeaenjeneaaGreatDoorTmNew
import Derived.Test.YtfmkeeaenjeneaaGreatDoorQuietB
import Derived.Deep.RegionHeld3
import Derived.BigQuiet
import Derived.Deep.QuietTactic
namespace Go.Proofs.YtfmkeeaenjeneaaGreatDoor
open Go.RowKit Go.Sort
set_option linter.unusedVariables false
set_option linter.unusedSimpArgs false

/-- within shows: the parameter's box, the terminal, the document's rows -/
structure ShS (w W : World) (lo t g rb : Nat) (bs : List Nat) (T : TS) (B : List UInt8) (D : Nat → Prop) (A : Option Addr) (c : Nat) (vB : Value) : Prop where
  bel : Below w.heap.size w W
  x : Blk W w.heap.size 34 (rtC T A c vB)
  tm : TmAt W lo t g rb bs T B
  gr : RfAt W D A c T.L
theorem ShS.below {w W W' : World} {lo t g rb : Nat} {bs : List Nat} {T : TS} {B : List UInt8} {D : Nat → Prop} {A : Option Addr} {c : Nat} {vB : Value} (h : ShS w W lo t g rb bs T B D A c vB) (hb : Below W.heap.size W W') : ShS w W' lo t g rb bs T B D A c vB :=
  ⟨h.bel.trans (hb.mono h.bel.size), h.x.below hb h.x.lt, h.tm.below hb, h.gr.below hb⟩
theorem sh_run_sty (y : Sty) (w : World) : (Op.equalIn 10000 31 (.agg #[.bool y.b, .bool y.u, .bool y.i, .int .i64 y.f, .int .i64 y.g]) (.agg #[.bool y.b, .bool y.u, .bool y.i, .int .i64 y.f, .int .i64 y.g])).run Tryz.prog w = .ok true w := (run_eq_sty 9998 y.b y.u y.i y.b y.u y.i y.f y.g y.f y.g w).trans (by simp)
theorem sh_sty_guard : Tryz.prog.eqGuardType Tryz.prog.depth 31 = false := by kernel_rfl
set_option maxRecDepth 100000 in
set_option maxHeartbeats 8000000 in
theorem shows_any {w : World} {lo t g rb : Nat} {bs : List Nat} {T : TS} {B : List UInt8} {D : Nat → Prop} {A : Option Addr} {c : Nat} {Ab : Option Addr} {cb : Nat} (h : TmAt w lo t g rb bs T B) (hr : RfAt w D A c T.L) (hk : TOk T) :
    Calls Tryz.prog 16 #[.pointer (some ⟨t, 0, none⟩), .agg #[.int .i64 T.W, .int .i64 T.L.length, .slice A T.L.length c, .int .i64 T.row, .int .i64 T.col, .bool T.y.b, .bool T.y.u, .bool T.y.i, .int .i64 T.y.f, .int .i64 T.y.g, .bool T.pend, .bool T.seen, .bool T.mark, .int .i64 T.bells, .int .i64 T.scr, .slice Ab B.length cb, .bool T.joins, .int .i64 T.lr, .int .i64 T.lc]] w fun e w' => e = .returned (.bool true) ∧ Below w.heap.size w w' := by
  have HK := Lib.hid hk
  have hq := Lib.hid (sh_run_sty T.y)
  have hgd := sh_sty_guard
  obtain ⟨W0, HW0, hs0⟩ : ∃ W0, Hid (W0 = w.alloc (.cells #[.int .i64 T.W, .int .i64 T.L.length, .slice A T.L.length c, .int .i64 T.row, .int .i64 T.col, .bool T.y.b, .bool T.y.u, .bool T.y.i, .int .i64 T.y.f, .int .i64 T.y.g, .bool T.pend, .bool T.seen, .bool T.mark, .int .i64 T.bells, .int .i64 T.scr, .slice Ab B.length cb, .bool T.joins, .int .i64 T.lr, .int .i64 T.lc] 34)) ∧ ShS w W0 lo t g rb bs T B D A c (.slice Ab B.length cb) := by
    have hb : Below w.heap.size w (w.alloc (.cells (rtC T A c (.slice Ab B.length cb)).toArray 34)) := (Below.refl _ _).alloc (Nat.le_refl _) _
    exact ⟨_, Lib.hid rfl, hb, Blk.new w 34 (rtC T A c (.slice Ab B.length cb)), h.below hb, hr.below hb⟩
  have HS0 := Lib.hid hs0
  clear h hr hk hs0
  go_enter Tryz.func16, Tryz.ntmps16
  go_upto_region 1 with fail
  rw [← HW0.out]
  clear HW0
  go_upto_region 3 with (first
    | (go_at_call 14; refine (cursor_yes HS0.out.tm).mono ?_; rintro e w1 ⟨rfl, hb1⟩; have HS1 := Lib.hid (HS0.out.below hb1); clear hb1)
    | (go_at_call 15; refine (tsize_yes HS1.out.tm).mono ?_; rintro e w2 ⟨rfl, hb2⟩; have HS2 := Lib.hid (HS1.out.below hb2); clear hb2))
  have q0 : w2.cell? ⟨w.heap.size, 0, none⟩ = some (.int .i64 T.W) := HS2.out.x.cell 0
  have x0 := cell_regrown q0
  have q1 : w2.cell? ⟨w.heap.size, 1, none⟩ = some (.int .i64 T.L.length) := HS2.out.x.cell 1
  have x1 := cell_regrown q1
  have q2 : w2.cell? ⟨w.heap.size, 2, none⟩ = some (.slice A T.L.length c) := HS2.out.x.cell 2
  have x2 := cell_regrown q2
  have q3 : w2.cell? ⟨w.heap.size, 3, none⟩ = some (.int .i64 T.row) := HS2.out.x.cell 3
  have x3 := cell_regrown q3
  have q4 : w2.cell? ⟨w.heap.size, 4, none⟩ = some (.int .i64 T.col) := HS2.out.x.cell 4
  have x4 := cell_regrown q4
  have q5 : w2.cell? ⟨w.heap.size, 5, none⟩ = some (.bool T.y.b) := HS2.out.x.cell 5
  have x5 := cell_regrown q5
  have q6 : w2.cell? ⟨w.heap.size, 6, none⟩ = some (.bool T.y.u) := HS2.out.x.cell 6
  have x6 := cell_regrown q6
  have q7 : w2.cell? ⟨w.heap.size, 7, none⟩ = some (.bool T.y.i) := HS2.out.x.cell 7
  have x7 := cell_regrown q7
  have q8 : w2.cell? ⟨w.heap.size, 8, none⟩ = some (.int .i64 T.y.f) := HS2.out.x.cell 8
  have x8 := cell_regrown q8
  have q9 : w2.cell? ⟨w.heap.size, 9, none⟩ = some (.int .i64 T.y.g) := HS2.out.x.cell 9
  have x9 := cell_regrown q9
  have q10 : w2.cell? ⟨w.heap.size, 10, none⟩ = some (.bool T.pend) := HS2.out.x.cell 10
  have x10 := cell_regrown q10
  have q11 : w2.cell? ⟨w.heap.size, 11, none⟩ = some (.bool T.seen) := HS2.out.x.cell 11
  have x11 := cell_regrown q11
  have q12 : w2.cell? ⟨w.heap.size, 12, none⟩ = some (.bool T.mark) := HS2.out.x.cell 12
  have x12 := cell_regrown q12
  have q13 : w2.cell? ⟨w.heap.size, 13, none⟩ = some (.int .i64 T.bells) := HS2.out.x.cell 13
  have x13 := cell_regrown q13
  have q14 : w2.cell? ⟨w.heap.size, 14, none⟩ = some (.int .i64 T.scr) := HS2.out.x.cell 14
  have x14 := cell_regrown q14
  have q15 : w2.cell? ⟨w.heap.size, 15, none⟩ = some (.slice Ab B.length cb) := HS2.out.x.cell 15
  have x15 := cell_regrown q15
  clear q0 q1 q2 q3 q4 q5 q6 q7 q8 q9 q10 q11 q12 q13 q14 q15
  have Q0 := Lib.hid (fun d os => Calls.regrown_of (tpending_yes (HS2.out.below (below_regrown w2 d os)).tm))
  have Q1 := Lib.hid (fun d os => Calls.regrown_of (tstyle_yes (HS2.out.below (below_regrown w2 d os)).tm))
  have Q2 := Lib.hid (fun d os => Calls.regrown_of (tseen_yes (HS2.out.below (below_regrown w2 d os)).tm))
  have Q3 := Lib.hid (fun d os => Calls.regrown_of (tmarked_yes (HS2.out.below (below_regrown w2 d os)).tm))
  have Q4 := Lib.hid (fun d os => Calls.regrown_of (tbells_yes (HS2.out.below (below_regrown w2 d os)).tm))
  have Q5 := Lib.hid (fun d os => Calls.regrown_of (tscrolled_yes (HS2.out.below (below_regrown w2 d os)).tm))
  have Q6 := Lib.hid (fun d os => Calls.regrown_of ((twaits_yes (HS2.out.below (below_regrown w2 d os)).tm).mono (R' := fun e w' => e = .returned (.int .i64 B.length) ∧ Below (grow (redrawn w2 d) os).heap.size (grow (redrawn w2 d) os) w') (fun e w' h => ⟨h.1, by rw [← h.2]; exact Below.refl _ _⟩)))
  simp only [Sty.cells] at Q1
  have hqs := hq.out
  refine region_below0 (by kernel_rfl) (by kernel_rfl) ?_
  repeat (first
    | go_big_quiet_step (first | with_reducible exact Q0.out _ _ | with_reducible exact Q1.out _ _ | with_reducible exact Q2.out _ _ | with_reducible exact Q3.out _ _ | with_reducible exact Q4.out _ _ | with_reducible exact Q5.out _ _ | with_reducible exact Q6.out _ _)
    | quiet_step (first | with_reducible exact Q0.out _ _ | with_reducible exact Q1.out _ _ | with_reducible exact Q2.out _ _ | with_reducible exact Q3.out _ _ | with_reducible exact Q4.out _ _ | with_reducible exact Q5.out _ _ | with_reducible exact Q6.out _ _))
  refine wpQuiet_nil ?_
  intro _ hw'
  obtain ⟨⟨dq, osq⟩, hw''⟩ := hw'
  subst hw''
  have HS8 := Lib.hid (HS2.out.below (below_regrown w2 dq osq))
  clear x0 x1 x2 x3 x4 x5 x6 x7 x8 x9 x10 x11 x12 x13 x14 x15 Q0 Q1 Q2 Q3 Q4 Q5 Q6
  generalize grow (redrawn w2 dq) osq = w8 at HS8 ⊢
  go_wp2_with (fail)
  clear hqs
  go_loopw [9] (fun v9 wr => ∃ k : Nat, v9 = .int .i64 k ∧ k ≤ T.L.length ∧ ShS w wr lo t g rb bs T B D A c (.slice Ab B.length cb)) (fun v9 _ => T.L.length - (intOf v9).toNat)
  case atStart => exact ⟨0, rfl, by omega, HS8.out⟩
  case round =>
    obtain ⟨k, rfl, hkl, hst⟩ := hrel
    have HST := Lib.hid hst
    clear hst
    have hl5 := HK.out.q.h5
    by_cases hlt : k < T.L.length
    · have hki : (k : Int) < (T.L.length : Int) := by omega
      have hl : T.L[k]? = some (T.L.getD k []) := getD_some hlt
      generalize T.L.getD k [] = l at hl
      obtain ⟨hlen, hwf⟩ := HK.out.q.wd k l hl
      have hlw : l.length ≤ 500 := by have := HK.out.q.w5; omega
      have Q1 : Hid (∀ ww, Below wr.heap.size wr ww → Calls Tryz.prog 21 #[.pointer (some ⟨t, 0, none⟩), .int .i64 k] ww fun e w' => e = .returned (.string ⟨(textM l).toArray⟩) ∧ Below wr.heap.size wr w') := Lib.hid (fun ww hb => (ttext_yes (HST.out.below hb).tm k l hl).mono fun e w' ⟨a, b⟩ => ⟨a, hb.trans (b.mono hb.size)⟩)
      have Q2 : Hid (∀ ww, Below wr.heap.size wr ww → Calls Tryz.prog 40 #[.agg #[.int .i64 T.W, .int .i64 T.L.length, .slice A T.L.length c], .int .i64 k] ww fun e w' => e = .returned (.string ⟨(textM l).toArray⟩) ∧ Below wr.heap.size wr w') := Lib.hid (fun ww hb => (rtext_yes (W := T.W) (HST.out.below hb).gr k l hl hwf hlw).mono fun e w' ⟨a, b⟩ => ⟨a, hb.trans (b.mono hb.size)⟩)
      have Q3 : Hid (∀ ww, Below wr.heap.size wr ww → Calls Tryz.prog 38 #[.pointer (some ⟨t, 0, none⟩), .int .i64 k] ww fun e w' => ∃ A1 c1, e = .returned (.slice A1 T.W c1) ∧ Sl w' w'.heap.size A1 (rc l) ∧ Below wr.heap.size wr w') := Lib.hid (fun ww hb => (trow_yes (HST.out.below hb).tm k l hl).mono fun e w' ⟨A1, c1, a, hs, b⟩ => ⟨A1, c1, a, hs, hb.trans (b.mono hb.size)⟩)
      have Q4 : Hid (∀ ww, Below wr.heap.size wr ww → Calls Tryz.prog 39 #[.agg #[.int .i64 T.W, .int .i64 T.L.length, .slice A T.L.length c], .int .i64 k] ww fun e w' => ∃ A1 c1, e = .returned (.slice A1 T.W c1) ∧ Sl w' w'.heap.size A1 (rc l) ∧ Below ww.heap.size ww w' ∧ Below wr.heap.size wr w') := Lib.hid (fun ww hb => (rcells_yes (W := T.W) (HST.out.below hb).gr k l hl).mono fun e w' ⟨u, a, hr, b⟩ => by
        obtain ⟨A1, c1, e1, _, hs⟩ := hr
        exact ⟨A1, c1, by rw [a, e1, hlen], hs.sl, b, hb.trans (b.mono hb.size)⟩)
      have HK8 : Hid (∀ w', Below wr.heap.size wr w' → Below wr.heap.size wr w' ∧ w'.cell? ⟨w.heap.size, 0, none⟩ = some (.int .i64 T.W) ∧ w'.cell? ⟨w.heap.size, 1, none⟩ = some (.int .i64 T.L.length) ∧ w'.cell? ⟨w.heap.size, 2, none⟩ = some (.slice A T.L.length c)) := Lib.hid (fun w' hb => ⟨hb, (HST.out.below hb).x.cell 0, (HST.out.below hb).x.cell 1, (HST.out.below hb).x.cell 2⟩)
      have HLEN := Lib.hid hlen
      have hw5 := HK.out.q.w5
      have HDR := Lib.hid ((Below.refl wr.heap.size wr).drew)
      clear hl hlen hwf
      go_upto_region 8 with fail
      go_region_held3 (fun w' => Below wr.heap.size wr w' ∧ w'.cell? ⟨w.heap.size, 0, none⟩ = some (.int .i64 T.W) ∧ w'.cell? ⟨w.heap.size, 1, none⟩ = some (.int .i64 T.L.length) ∧ w'.cell? ⟨w.heap.size, 2, none⟩ = some (.slice A T.L.length c))
        (first | exact HK8.out _ hbx | exact HK8.out _ HDR.out)
        (first
          | (go_at_call 21; refine (Q1.out _ (by first | assumption | exact And.left (by assumption))).mono ?_; rintro e wx ⟨rfl, hbx⟩)
          | (go_at_call 40; refine (Q2.out _ (by first | assumption | exact And.left (by assumption))).mono ?_; rintro e wx ⟨rfl, hbx⟩)
          | (go_at_call 38; refine (Q3.out _ (by first | assumption | exact And.left (by assumption))).mono ?_; rintro e wx ⟨A1, c1, rfl, hs1, hbx⟩; have HS1 := Lib.hid hs1; clear hs1)
          | (go_at_call 39; refine (Q4.out _ (by first | assumption | exact And.left (by assumption))).mono ?_; rintro e wx ⟨A2, c2, rfl, hs2, hbw, hbx⟩; have HS2 := Lib.hid hs2; have HS3 := Lib.hid (HS1.out.below hbw); have HSZ := Lib.hid hbw.size; clear hs2 hbw)
          | (go_at_call 37; refine (same_any l l T.W T.W A1 A2 c1 c2 _ HLEN.out.symm HLEN.out.symm (by omega) (by omega) _ _ HS3.out HS2.out HSZ.out (Nat.le_refl _)).mono ?_; rintro e wy ⟨rfl, hby⟩; rw [show decide (l = l) = true by simp]; have hbx' := hbx.trans (hby.mono hbx.size); clear hby hbx; have hbx := hbx'; clear hbx'))
      all_goals
        go_wp2_with (fail)
        go_roundw
        case rel => exact ⟨k + 1, by go_num, by omega, HST.out.below hbx⟩
        case measure => simp [intOf]; omega
    · have hki : ¬ (k : Int) < (T.L.length : Int) := by omega
      obtain ⟨x, hx1⟩ : ∃ x, (cellB T.L T.row T.col).1 = x := ⟨_, rfl⟩
      obtain ⟨ok, hx2⟩ : ∃ ok, (cellB T.L T.row T.col).2 = ok := ⟨_, rfl⟩
      have hqq : ∀ w, (Op.equalIn 10000 83 (.agg #[.string ⟨x.s.toArray⟩, .int .i64 x.w, .bool x.y.b, .bool x.y.u, .bool x.y.i, .int .i64 x.y.f, .int .i64 x.y.g]) (.agg #[.string ⟨x.s.toArray⟩, .int .i64 x.w, .bool x.y.b, .bool x.y.u, .bool x.y.i, .int .i64 x.y.f, .int .i64 x.y.g])).run Tryz.prog w = .ok true w := fun w => (run_eq_cl x x w).trans (by simp)
      have HQQ := Lib.hid hqq
      have hcg := cl_guard
      have HC1 : Hid (∀ ww, Below wr.heap.size wr ww → Calls Tryz.prog 41 #[.pointer (some ⟨t, 0, none⟩), .int .i64 T.row, .int .i64 T.col] ww fun e w' => e = .returned (.tuple #[.agg x.cells.toArray, .bool ok]) ∧ Below ww.heap.size ww w') := Lib.hid (fun ww hb => by have := tcell_yes (HST.out.below hb).tm T.row T.col; rw [hx1, hx2] at this; exact this)
      have HC2 : Hid (∀ ww, Below wr.heap.size wr ww → Calls Tryz.prog 42 #[.agg #[.int .i64 T.W, .int .i64 T.L.length, .slice A T.L.length c], .int .i64 T.row, .int .i64 T.col] ww fun e w' => e = .returned (.tuple #[.agg x.cells.toArray, .bool ok]) ∧ Below ww.heap.size ww w') := Lib.hid (fun ww hb => by have := rcell_any (W := T.W) (HST.out.below hb).gr (fun i l hl => (HK.out.q.wd i l hl).1) T.row T.col; rw [hx1, hx2] at this; exact this)
      have HFX : Hid (∀ w', Below wr.heap.size wr w' → w'.cell? ⟨w.heap.size, 0, none⟩ = some (.int .i64 T.W) ∧ w'.cell? ⟨w.heap.size, 1, none⟩ = some (.int .i64 T.L.length) ∧ w'.cell? ⟨w.heap.size, 2, none⟩ = some (.slice A T.L.length c)) := Lib.hid (fun w' hb => ⟨(HST.out.below hb).x.cell 0, (HST.out.below hb).x.cell 1, (HST.out.below hb).x.cell 2⟩)
      clear hx1 hx2 hqq
      go_upto_region 12 with (first
        | (go_at_call 41; refine (HC1.out _ (Below.refl _ _)).mono ?_; rintro e wa ⟨rfl, hba⟩; have HBA := Lib.hid hba; have HNA := Lib.hid (Blk.new wa 83 czero.cells); clear hba)
        | ((with_reducible refine at_store 10 ?_); refine wpList_store_blk rfl _ _ _ rfl rfl wa.heap.size 0 _ czero.cells x.cells rfl rfl HNA.out (by simp [Cl.len]) cl_size x.one ?_; intro wb hnb hgb; have hbb : Below wa.heap.size wa wb := ((Below.refl _ _).alloc (Nat.le_refl _) _).grown hgb (by simp) (fun j hj => by injection hj with hj; omega); have HNB := Lib.hid (show Blk wb wa.heap.size 83 x.cells from hnb); have HBB := Lib.hid (HBA.out.trans (hbb.mono HBA.out.size)); obtain ⟨g0, g1, g2⟩ := HFX.out wb HBB.out; clear hnb hgb hbb)
        | (go_at_call 42; refine (HC2.out _ HBB.out).mono ?_; rintro e wc ⟨rfl, hbc⟩; have HBC := Lib.hid (HBB.out.trans (hbc.mono HBB.out.size)); have HNC := Lib.hid (Blk.new wc 83 czero.cells); have HNB2 := Lib.hid (HNB.out.below hbc HNB.out.lt); clear hbc g0 g1 g2)
        | ((with_reducible refine at_store 12 ?_); refine wpList_store_blk rfl _ _ _ rfl rfl wc.heap.size 0 _ czero.cells x.cells rfl rfl HNC.out (by simp [Cl.len]) cl_size x.one ?_; intro wd hnd hgd2; have hbd : Below wc.heap.size wc wd := ((Below.refl _ _).alloc (Nat.le_refl _) _).grown hgd2 (by simp) (fun j hj => by injection hj with hj; omega); have HND := Lib.hid (show Blk wd wc.heap.size 83 x.cells from hnd); have HNB3 := Lib.hid (HNB2.out.below hbd HNB2.out.lt); have HBD := Lib.hid (HBC.out.trans (hbd.mono HBC.out.size)); clear hnd hgd2 hbd))
      have hqz := HQQ.out
      obtain ⟨x0, x1, x2, x3, x4, x5, x6⟩ := blk7 HNB3.out
      obtain ⟨y0, y1, y2, y3, y4, y5, y6⟩ := blk7 HND.out
      go_wp2_with (fail)
      go_ret
      exact ⟨rfl, (HST.out.below HBD.out).bel⟩
end Go.Proofs.YtfmkeeaenjeneaaGreatDoor
