/-
  Walks: the reference's New.
  Walks: the law's helper shows: a terminal stands as the document's.
  Three terminals and the document's, apart from each other.
  The law TermPieces, walked.
-/
import Derived.Test.YtfmkeeaenjeneaaGreatDoorRtWrite
import Derived.Test.YtfmkeeaenjeneaaGreatDoorTmAcc
import Derived.Test.YtfmkeeaenjeneaaGreatDoorTmNew
import Derived.Test.YtfmkeeaenjeneaaGreatDoorQuietB
import Derived.Deep.RegionHeld3
import Derived.BigQuiet
import Derived.Deep.QuietTactic
import Derived.Test.YtfmkeeaenjeneaaGreatDoorTmAwake
import Derived.Test.YtfmkeeaenjeneaaGreatDoorTmAwak2
namespace Go.Proofs.YtfmkeeaenjeneaaGreatDoor
open Go.RowKit Go.Sort
set_option linter.unusedVariables false
set_option linter.unusedSimpArgs false

set_option maxRecDepth 100000 in
set_option maxHeartbeats 8000000 in
theorem rtnew_ok (W H : Nat) (w1 : 1 ≤ W) (w5 : W ≤ 500) (h1 : 1 ≤ H) (h5 : H ≤ 500) (w : World) :
    Calls Tryz.prog 6 #[.int .i64 W, .int .i64 H] w fun e w' => ∃ A c, e = .returned (.tuple #[.agg (rtC (tmNew W H) A c (.slice none 0 0)).toArray, .int .i64 0]) ∧ RfAt w' (fun b => w.heap.size ≤ b) A c (tmNew W H).L ∧ Below w.heap.size w w' := by
  have HZ := Lib.hid (Blk.new w 34 rtZ)
  have HC : Hid (∀ wa : World, w.heap.size + 1 ≤ wa.heap.size → Calls Tryz.prog 20 #[.int .i64 W, .int .i64 H] wa fun e w' => ∃ A c, e = .returned (.tuple #[.agg #[.int .i64 W, .int .i64 H, .slice A H c], .int .i64 0]) ∧ RfAt w' (fun b => w.heap.size + 1 ≤ b) A c (blankG W H) ∧ Below wa.heap.size wa w') := Lib.hid (fun wa hb => by
    refine (rnew_ok W H w1 w5 h1 h5 wa).mono ?_
    rintro e w' ⟨V, rfl, ⟨A, c, rfl, hr⟩, hb2⟩
    have hl : (blankG W H).length = H := by simp [blankG]
    exact ⟨A, c, by simp only [rgC, hl], hr.mono (fun b _ h => Nat.le_trans hb h), hb2⟩)
  have HL : Hid ((tmNew W H).L.length = H) := Lib.hid (by simp [tmNew])
  clear w1 w5 h1 h5
  go_enter Tryz.func6, Tryz.ntmps6
  go_wp2_with (first
    | (go_at_call 20; refine (HC.out _ (by simp)).mono ?_; rintro e w2 ⟨A, c, rfl, hr2, hb2⟩; have HR2 := Lib.hid hr2; have HB2 := Lib.hid hb2; have HZ2 := Lib.hid (HZ.out.below hb2 (by simp)); have HG2 := Lib.hid (Blk.new w2 29 (rgC 0 0 none 0)); have hs2 : w.heap.size + 1 ≤ w2.heap.size := (by have := hb2.size; simpa using this); clear hr2 hb2)
    | ((with_reducible refine at_store 6 ?_); refine wpList_store_blk rfl _ _ _ rfl rfl w2.heap.size 0 _ (rgC 0 0 none 0) [.int .i64 W, .int .i64 H, .slice A H c] rfl rfl HG2.out (by simp [rgC]) rg_size (by intro v hv; simp at hv; rcases hv with rfl | rfl | rfl <;> rfl) ?_; intro w3 hn3 hg3; have hb3 : Below w2.heap.size w2 w3 := ((Below.refl _ _).alloc (Nat.le_refl _) _).grown hg3 (by simp) (fun j hj => by injection hj with hj; omega); have HG3 := Lib.hid (show Blk w3 w2.heap.size 29 [.int .i64 W, .int .i64 H, .slice A H c] from hn3); have HR3 := Lib.hid (HR2.out.below hb3); have HZ3 := Lib.hid (HZ2.out.below hb3 (by omega)); have HB3 := Lib.hid (HB2.out.trans (hb3.mono HB2.out.size)); clear hn3 hg3 hb3)
    | ((with_reducible refine at_dst 17 ?_); refine wpList_load_mid rfl _ _ rfl w2.heap.size 0 rfl [.int .i64 W, .int .i64 H, .slice A H c] _ HG3.out.whole Tryz.underlying29 rfl rg_size ?_)
    | ((with_reducible refine at_store 4 ?_); refine wpList_store_blk rfl _ _ _ rfl rfl w.heap.size 0 _ rtZ (rtC (tmNew W H) A c (.slice none 0 0)) rfl (by simp [rtC, HL.out]; rfl) HZ3.out (by simp [rtC, rtZ]) rt_size (rtC_one _ _ _ rfl) ?_; intro w9 hn9 hg9))
  refine bodyPost_ret (results_ct rfl rfl rfl hn9.whole Tryz.underlying34 rfl rt_size) rfl ⟨A, c, rfl, (HR3.out.chg (chg_of_grown hg9) (fun b _ hd e => (by have e' : b = w.heap.size := e; omega))).mono (fun b _ hd => (by omega)), ?_⟩
  exact (((Below.refl _ _).alloc (Nat.le_refl _) _).trans (HB3.out.mono (by simp))).grown hg9 (by have := HB3.out.size; simp at this; omega) (fun j hj => by injection hj with hj; omega)
end Go.Proofs.YtfmkeeaenjeneaaGreatDoor

namespace Go.Proofs.YtfmkeeaenjeneaaGreatDoor
open Go.RowKit Go.Sort
set_option linter.unusedVariables false
set_option linter.unusedSimpArgs false

/-- within shows: the parameter's box, the terminal, the document's rows -/
structure ShS (w W : World) (lo t g rb : Nat) (bs : List Nat) (T : TS) (B : List UInt8) (D : Nat → Prop) (A : Option Addr) (c : Nat) (vB : Value) : Prop where
  bel : Below w.heap.size w W
  x : Blk W w.heap.size 34 (rtC T A c vB)
  tm : TmAt W lo t g rb bs T B
  gr : RfAt W D A c T.L
theorem ShS.below {w W W' : World} {lo t g rb : Nat} {bs : List Nat} {T : TS} {B : List UInt8} {D : Nat → Prop} {A : Option Addr} {c : Nat} {vB : Value} (h : ShS w W lo t g rb bs T B D A c vB) (hb : Below W.heap.size W W') : ShS w W' lo t g rb bs T B D A c vB :=
  ⟨h.bel.trans (hb.mono h.bel.size), h.x.below hb h.x.lt, h.tm.below hb, h.gr.below hb⟩
theorem sh_run_sty (y : Sty) (w : World) : (Op.equalIn 10000 31 (.agg #[.bool y.b, .bool y.u, .bool y.i, .int .i64 y.f, .int .i64 y.g]) (.agg #[.bool y.b, .bool y.u, .bool y.i, .int .i64 y.f, .int .i64 y.g])).run Tryz.prog w = .ok true w := (run_eq_sty 9998 y.b y.u y.i y.b y.u y.i y.f y.g y.f y.g w).trans (by simp)
theorem sh_sty_guard : Tryz.prog.eqGuardType Tryz.prog.depth 31 = false := by kernel_rfl
set_option maxRecDepth 100000 in
set_option maxHeartbeats 8000000 in
theorem shows_any {w : World} {lo t g rb : Nat} {bs : List Nat} {T : TS} {B : List UInt8} {D : Nat → Prop} {A : Option Addr} {c : Nat} {Ab : Option Addr} {cb : Nat} (h : TmAt w lo t g rb bs T B) (hr : RfAt w D A c T.L) (hk : TOk T) :
    Calls Tryz.prog 16 #[.pointer (some ⟨t, 0, none⟩), .agg #[.int .i64 T.W, .int .i64 T.L.length, .slice A T.L.length c, .int .i64 T.row, .int .i64 T.col, .bool T.y.b, .bool T.y.u, .bool T.y.i, .int .i64 T.y.f, .int .i64 T.y.g, .bool T.pend, .bool T.seen, .bool T.mark, .int .i64 T.bells, .int .i64 T.scr, .slice Ab B.length cb, .bool T.joins, .int .i64 T.lr, .int .i64 T.lc]] w fun e w' => e = .returned (.bool true) ∧ Below w.heap.size w w' := by
  have HK := Lib.hid hk
  have hq := Lib.hid (sh_run_sty T.y)
  have hgd := sh_sty_guard
  obtain ⟨W0, HW0, hs0⟩ : ∃ W0, Hid (W0 = w.alloc (.cells #[.int .i64 T.W, .int .i64 T.L.length, .slice A T.L.length c, .int .i64 T.row, .int .i64 T.col, .bool T.y.b, .bool T.y.u, .bool T.y.i, .int .i64 T.y.f, .int .i64 T.y.g, .bool T.pend, .bool T.seen, .bool T.mark, .int .i64 T.bells, .int .i64 T.scr, .slice Ab B.length cb, .bool T.joins, .int .i64 T.lr, .int .i64 T.lc] 34)) ∧ ShS w W0 lo t g rb bs T B D A c (.slice Ab B.length cb) := by
    have hb : Below w.heap.size w (w.alloc (.cells (rtC T A c (.slice Ab B.length cb)).toArray 34)) := (Below.refl _ _).alloc (Nat.le_refl _) _
    exact ⟨_, Lib.hid rfl, hb, Blk.new w 34 (rtC T A c (.slice Ab B.length cb)), h.below hb, hr.below hb⟩
  have HS0 := Lib.hid hs0
  clear h hr hk hs0
  go_enter Tryz.func16, Tryz.ntmps16
  go_upto_region 1 with fail
  rw [← HW0.out]
  clear HW0
  go_upto_region 3 with (first
    | (go_at_call 14; refine (cursor_yes HS0.out.tm).mono ?_; rintro e w1 ⟨rfl, hb1⟩; have HS1 := Lib.hid (HS0.out.below hb1); clear hb1)
    | (go_at_call 15; refine (tsize_yes HS1.out.tm).mono ?_; rintro e w2 ⟨rfl, hb2⟩; have HS2 := Lib.hid (HS1.out.below hb2); clear hb2))
  have q0 : w2.cell? ⟨w.heap.size, 0, none⟩ = some (.int .i64 T.W) := HS2.out.x.cell 0
  have x0 := cell_regrown q0
  have q1 : w2.cell? ⟨w.heap.size, 1, none⟩ = some (.int .i64 T.L.length) := HS2.out.x.cell 1
  have x1 := cell_regrown q1
  have q2 : w2.cell? ⟨w.heap.size, 2, none⟩ = some (.slice A T.L.length c) := HS2.out.x.cell 2
  have x2 := cell_regrown q2
  have q3 : w2.cell? ⟨w.heap.size, 3, none⟩ = some (.int .i64 T.row) := HS2.out.x.cell 3
  have x3 := cell_regrown q3
  have q4 : w2.cell? ⟨w.heap.size, 4, none⟩ = some (.int .i64 T.col) := HS2.out.x.cell 4
  have x4 := cell_regrown q4
  have q5 : w2.cell? ⟨w.heap.size, 5, none⟩ = some (.bool T.y.b) := HS2.out.x.cell 5
  have x5 := cell_regrown q5
  have q6 : w2.cell? ⟨w.heap.size, 6, none⟩ = some (.bool T.y.u) := HS2.out.x.cell 6
  have x6 := cell_regrown q6
  have q7 : w2.cell? ⟨w.heap.size, 7, none⟩ = some (.bool T.y.i) := HS2.out.x.cell 7
  have x7 := cell_regrown q7
  have q8 : w2.cell? ⟨w.heap.size, 8, none⟩ = some (.int .i64 T.y.f) := HS2.out.x.cell 8
  have x8 := cell_regrown q8
  have q9 : w2.cell? ⟨w.heap.size, 9, none⟩ = some (.int .i64 T.y.g) := HS2.out.x.cell 9
  have x9 := cell_regrown q9
  have q10 : w2.cell? ⟨w.heap.size, 10, none⟩ = some (.bool T.pend) := HS2.out.x.cell 10
  have x10 := cell_regrown q10
  have q11 : w2.cell? ⟨w.heap.size, 11, none⟩ = some (.bool T.seen) := HS2.out.x.cell 11
  have x11 := cell_regrown q11
  have q12 : w2.cell? ⟨w.heap.size, 12, none⟩ = some (.bool T.mark) := HS2.out.x.cell 12
  have x12 := cell_regrown q12
  have q13 : w2.cell? ⟨w.heap.size, 13, none⟩ = some (.int .i64 T.bells) := HS2.out.x.cell 13
  have x13 := cell_regrown q13
  have q14 : w2.cell? ⟨w.heap.size, 14, none⟩ = some (.int .i64 T.scr) := HS2.out.x.cell 14
  have x14 := cell_regrown q14
  have q15 : w2.cell? ⟨w.heap.size, 15, none⟩ = some (.slice Ab B.length cb) := HS2.out.x.cell 15
  have x15 := cell_regrown q15
  clear q0 q1 q2 q3 q4 q5 q6 q7 q8 q9 q10 q11 q12 q13 q14 q15
  have Q0 := Lib.hid (fun d os => Calls.regrown_of (tpending_yes (HS2.out.below (below_regrown w2 d os)).tm))
  have Q1 := Lib.hid (fun d os => Calls.regrown_of (tstyle_yes (HS2.out.below (below_regrown w2 d os)).tm))
  have Q2 := Lib.hid (fun d os => Calls.regrown_of (tseen_yes (HS2.out.below (below_regrown w2 d os)).tm))
  have Q3 := Lib.hid (fun d os => Calls.regrown_of (tmarked_yes (HS2.out.below (below_regrown w2 d os)).tm))
  have Q4 := Lib.hid (fun d os => Calls.regrown_of (tbells_yes (HS2.out.below (below_regrown w2 d os)).tm))
  have Q5 := Lib.hid (fun d os => Calls.regrown_of (tscrolled_yes (HS2.out.below (below_regrown w2 d os)).tm))
  have Q6 := Lib.hid (fun d os => Calls.regrown_of ((twaits_yes (HS2.out.below (below_regrown w2 d os)).tm).mono (R' := fun e w' => e = .returned (.int .i64 B.length) ∧ Below (grow (redrawn w2 d) os).heap.size (grow (redrawn w2 d) os) w') (fun e w' h => ⟨h.1, by rw [← h.2]; exact Below.refl _ _⟩)))
  simp only [Sty.cells] at Q1
  have hqs := hq.out
  refine region_below0 (by kernel_rfl) (by kernel_rfl) ?_
  repeat (first
    | go_big_quiet_step (first | with_reducible exact Q0.out _ _ | with_reducible exact Q1.out _ _ | with_reducible exact Q2.out _ _ | with_reducible exact Q3.out _ _ | with_reducible exact Q4.out _ _ | with_reducible exact Q5.out _ _ | with_reducible exact Q6.out _ _)
    | quiet_step (first | with_reducible exact Q0.out _ _ | with_reducible exact Q1.out _ _ | with_reducible exact Q2.out _ _ | with_reducible exact Q3.out _ _ | with_reducible exact Q4.out _ _ | with_reducible exact Q5.out _ _ | with_reducible exact Q6.out _ _))
  refine wpQuiet_nil ?_
  intro _ hw'
  obtain ⟨⟨dq, osq⟩, hw''⟩ := hw'
  subst hw''
  have HS8 := Lib.hid (HS2.out.below (below_regrown w2 dq osq))
  clear x0 x1 x2 x3 x4 x5 x6 x7 x8 x9 x10 x11 x12 x13 x14 x15 Q0 Q1 Q2 Q3 Q4 Q5 Q6
  generalize grow (redrawn w2 dq) osq = w8 at HS8 ⊢
  go_wp2_with (fail)
  clear hqs
  go_loopw [9] (fun v9 wr => ∃ k : Nat, v9 = .int .i64 k ∧ k ≤ T.L.length ∧ ShS w wr lo t g rb bs T B D A c (.slice Ab B.length cb)) (fun v9 _ => T.L.length - (intOf v9).toNat)
  case atStart => exact ⟨0, rfl, by omega, HS8.out⟩
  case round =>
    obtain ⟨k, rfl, hkl, hst⟩ := hrel
    have HST := Lib.hid hst
    clear hst
    have hl5 := HK.out.q.h5
    by_cases hlt : k < T.L.length
    · have hki : (k : Int) < (T.L.length : Int) := by omega
      have hl : T.L[k]? = some (T.L.getD k []) := getD_some hlt
      generalize T.L.getD k [] = l at hl
      obtain ⟨hlen, hwf⟩ := HK.out.q.wd k l hl
      have hlw : l.length ≤ 500 := by have := HK.out.q.w5; omega
      have Q1 : Hid (∀ ww, Below wr.heap.size wr ww → Calls Tryz.prog 21 #[.pointer (some ⟨t, 0, none⟩), .int .i64 k] ww fun e w' => e = .returned (.string ⟨(textM l).toArray⟩) ∧ Below wr.heap.size wr w') := Lib.hid (fun ww hb => (ttext_yes (HST.out.below hb).tm k l hl).mono fun e w' ⟨a, b⟩ => ⟨a, hb.trans (b.mono hb.size)⟩)
      have Q2 : Hid (∀ ww, Below wr.heap.size wr ww → Calls Tryz.prog 40 #[.agg #[.int .i64 T.W, .int .i64 T.L.length, .slice A T.L.length c], .int .i64 k] ww fun e w' => e = .returned (.string ⟨(textM l).toArray⟩) ∧ Below wr.heap.size wr w') := Lib.hid (fun ww hb => (rtext_yes (W := T.W) (HST.out.below hb).gr k l hl hwf hlw).mono fun e w' ⟨a, b⟩ => ⟨a, hb.trans (b.mono hb.size)⟩)
      have Q3 : Hid (∀ ww, Below wr.heap.size wr ww → Calls Tryz.prog 38 #[.pointer (some ⟨t, 0, none⟩), .int .i64 k] ww fun e w' => ∃ A1 c1, e = .returned (.slice A1 T.W c1) ∧ Sl w' w'.heap.size A1 (rc l) ∧ Below wr.heap.size wr w') := Lib.hid (fun ww hb => (trow_yes (HST.out.below hb).tm k l hl).mono fun e w' ⟨A1, c1, a, hs, b⟩ => ⟨A1, c1, a, hs, hb.trans (b.mono hb.size)⟩)
      have Q4 : Hid (∀ ww, Below wr.heap.size wr ww → Calls Tryz.prog 39 #[.agg #[.int .i64 T.W, .int .i64 T.L.length, .slice A T.L.length c], .int .i64 k] ww fun e w' => ∃ A1 c1, e = .returned (.slice A1 T.W c1) ∧ Sl w' w'.heap.size A1 (rc l) ∧ Below ww.heap.size ww w' ∧ Below wr.heap.size wr w') := Lib.hid (fun ww hb => (rcells_yes (W := T.W) (HST.out.below hb).gr k l hl).mono fun e w' ⟨u, a, hr, b⟩ => by
        obtain ⟨A1, c1, e1, _, hs⟩ := hr
        exact ⟨A1, c1, by rw [a, e1, hlen], hs.sl, b, hb.trans (b.mono hb.size)⟩)
      have HK8 : Hid (∀ w', Below wr.heap.size wr w' → Below wr.heap.size wr w' ∧ w'.cell? ⟨w.heap.size, 0, none⟩ = some (.int .i64 T.W) ∧ w'.cell? ⟨w.heap.size, 1, none⟩ = some (.int .i64 T.L.length) ∧ w'.cell? ⟨w.heap.size, 2, none⟩ = some (.slice A T.L.length c)) := Lib.hid (fun w' hb => ⟨hb, (HST.out.below hb).x.cell 0, (HST.out.below hb).x.cell 1, (HST.out.below hb).x.cell 2⟩)
      have HLEN := Lib.hid hlen
      have hw5 := HK.out.q.w5
      have HDR := Lib.hid ((Below.refl wr.heap.size wr).drew)
      clear hl hlen hwf
      go_upto_region 8 with fail
      go_region_held3 (fun w' => Below wr.heap.size wr w' ∧ w'.cell? ⟨w.heap.size, 0, none⟩ = some (.int .i64 T.W) ∧ w'.cell? ⟨w.heap.size, 1, none⟩ = some (.int .i64 T.L.length) ∧ w'.cell? ⟨w.heap.size, 2, none⟩ = some (.slice A T.L.length c))
        (first | exact HK8.out _ hbx | exact HK8.out _ HDR.out)
        (first
          | (go_at_call 21; refine (Q1.out _ (by first | assumption | exact And.left (by assumption))).mono ?_; rintro e wx ⟨rfl, hbx⟩)
          | (go_at_call 40; refine (Q2.out _ (by first | assumption | exact And.left (by assumption))).mono ?_; rintro e wx ⟨rfl, hbx⟩)
          | (go_at_call 38; refine (Q3.out _ (by first | assumption | exact And.left (by assumption))).mono ?_; rintro e wx ⟨A1, c1, rfl, hs1, hbx⟩; have HS1 := Lib.hid hs1; clear hs1)
          | (go_at_call 39; refine (Q4.out _ (by first | assumption | exact And.left (by assumption))).mono ?_; rintro e wx ⟨A2, c2, rfl, hs2, hbw, hbx⟩; have HS2 := Lib.hid hs2; have HS3 := Lib.hid (HS1.out.below hbw); have HSZ := Lib.hid hbw.size; clear hs2 hbw)
          | (go_at_call 37; refine (same_any l l T.W T.W A1 A2 c1 c2 _ HLEN.out.symm HLEN.out.symm (by omega) (by omega) _ _ HS3.out HS2.out HSZ.out (Nat.le_refl _)).mono ?_; rintro e wy ⟨rfl, hby⟩; rw [show decide (l = l) = true by simp]; have hbx' := hbx.trans (hby.mono hbx.size); clear hby hbx; have hbx := hbx'; clear hbx'))
      all_goals
        go_wp2_with (fail)
        go_roundw
        case rel => exact ⟨k + 1, by go_num, by omega, HST.out.below hbx⟩
        case measure => simp [intOf]; omega
    · have hki : ¬ (k : Int) < (T.L.length : Int) := by omega
      obtain ⟨x, hx1⟩ : ∃ x, (cellB T.L T.row T.col).1 = x := ⟨_, rfl⟩
      obtain ⟨ok, hx2⟩ : ∃ ok, (cellB T.L T.row T.col).2 = ok := ⟨_, rfl⟩
      have hqq : ∀ w, (Op.equalIn 10000 83 (.agg #[.string ⟨x.s.toArray⟩, .int .i64 x.w, .bool x.y.b, .bool x.y.u, .bool x.y.i, .int .i64 x.y.f, .int .i64 x.y.g]) (.agg #[.string ⟨x.s.toArray⟩, .int .i64 x.w, .bool x.y.b, .bool x.y.u, .bool x.y.i, .int .i64 x.y.f, .int .i64 x.y.g])).run Tryz.prog w = .ok true w := fun w => (run_eq_cl x x w).trans (by simp)
      have HQQ := Lib.hid hqq
      have hcg := cl_guard
      have HC1 : Hid (∀ ww, Below wr.heap.size wr ww → Calls Tryz.prog 41 #[.pointer (some ⟨t, 0, none⟩), .int .i64 T.row, .int .i64 T.col] ww fun e w' => e = .returned (.tuple #[.agg x.cells.toArray, .bool ok]) ∧ Below ww.heap.size ww w') := Lib.hid (fun ww hb => by have := tcell_yes (HST.out.below hb).tm T.row T.col; rw [hx1, hx2] at this; exact this)
      have HC2 : Hid (∀ ww, Below wr.heap.size wr ww → Calls Tryz.prog 42 #[.agg #[.int .i64 T.W, .int .i64 T.L.length, .slice A T.L.length c], .int .i64 T.row, .int .i64 T.col] ww fun e w' => e = .returned (.tuple #[.agg x.cells.toArray, .bool ok]) ∧ Below ww.heap.size ww w') := Lib.hid (fun ww hb => by have := rcell_any (W := T.W) (HST.out.below hb).gr (fun i l hl => (HK.out.q.wd i l hl).1) T.row T.col; rw [hx1, hx2] at this; exact this)
      have HFX : Hid (∀ w', Below wr.heap.size wr w' → w'.cell? ⟨w.heap.size, 0, none⟩ = some (.int .i64 T.W) ∧ w'.cell? ⟨w.heap.size, 1, none⟩ = some (.int .i64 T.L.length) ∧ w'.cell? ⟨w.heap.size, 2, none⟩ = some (.slice A T.L.length c)) := Lib.hid (fun w' hb => ⟨(HST.out.below hb).x.cell 0, (HST.out.below hb).x.cell 1, (HST.out.below hb).x.cell 2⟩)
      clear hx1 hx2 hqq
      go_upto_region 12 with (first
        | (go_at_call 41; refine (HC1.out _ (Below.refl _ _)).mono ?_; rintro e wa ⟨rfl, hba⟩; have HBA := Lib.hid hba; have HNA := Lib.hid (Blk.new wa 83 czero.cells); clear hba)
        | ((with_reducible refine at_store 10 ?_); refine wpList_store_blk rfl _ _ _ rfl rfl wa.heap.size 0 _ czero.cells x.cells rfl rfl HNA.out (by simp [Cl.len]) cl_size x.one ?_; intro wb hnb hgb; have hbb : Below wa.heap.size wa wb := ((Below.refl _ _).alloc (Nat.le_refl _) _).grown hgb (by simp) (fun j hj => by injection hj with hj; omega); have HNB := Lib.hid (show Blk wb wa.heap.size 83 x.cells from hnb); have HBB := Lib.hid (HBA.out.trans (hbb.mono HBA.out.size)); obtain ⟨g0, g1, g2⟩ := HFX.out wb HBB.out; clear hnb hgb hbb)
        | (go_at_call 42; refine (HC2.out _ HBB.out).mono ?_; rintro e wc ⟨rfl, hbc⟩; have HBC := Lib.hid (HBB.out.trans (hbc.mono HBB.out.size)); have HNC := Lib.hid (Blk.new wc 83 czero.cells); have HNB2 := Lib.hid (HNB.out.below hbc HNB.out.lt); clear hbc g0 g1 g2)
        | ((with_reducible refine at_store 12 ?_); refine wpList_store_blk rfl _ _ _ rfl rfl wc.heap.size 0 _ czero.cells x.cells rfl rfl HNC.out (by simp [Cl.len]) cl_size x.one ?_; intro wd hnd hgd2; have hbd : Below wc.heap.size wc wd := ((Below.refl _ _).alloc (Nat.le_refl _) _).grown hgd2 (by simp) (fun j hj => by injection hj with hj; omega); have HND := Lib.hid (show Blk wd wc.heap.size 83 x.cells from hnd); have HNB3 := Lib.hid (HNB2.out.below hbd HNB2.out.lt); have HBD := Lib.hid (HBC.out.trans (hbd.mono HBC.out.size)); clear hnd hgd2 hbd))
      have hqz := HQQ.out
      obtain ⟨x0, x1, x2, x3, x4, x5, x6⟩ := blk7 HNB3.out
      obtain ⟨y0, y1, y2, y3, y4, y5, y6⟩ := blk7 HND.out
      go_wp2_with (fail)
      go_ret
      exact ⟨rfl, (HST.out.below HBD.out).bel⟩
end Go.Proofs.YtfmkeeaenjeneaaGreatDoor

namespace Go.Proofs.YtfmkeeaenjeneaaGreatDoor
open Go.RowKit Go.Sort
set_option linter.unusedVariables false
set_option linter.unusedSimpArgs false

theorem TmAt.chg_ {w w' : World} {lo t g rb : Nat} {bs : List Nat} {T : TS} {B : List UInt8} {S : Nat → Prop} (h : TmAt w lo t g rb bs T B) (hc : Chg S w w') (hn : ∀ k, TmOwn t g rb bs k → ¬ S k) : TmAt w' lo t g rb bs T B := by
  obtain ⟨xs, h1, h2, h3⟩ := h.blk
  exact ⟨⟨xs, h1, h2, h3.chg hc (hn t (.inl rfl))⟩, h.grid.keep hc (fun k hk h => hn k (.inr hk) h), h.lot, h.row, h.col, h.b32⟩
theorem TmAt.weaken {w : World} {lo lo' t g rb : Nat} {bs : List Nat} {T : TS} {B : List UInt8} (h : TmAt w lo t g rb bs T B) (hl : lo' ≤ lo) : TmAt w lo' t g rb bs T B :=
  ⟨h.blk, { h.grid with lo := fun k hk => Nat.le_trans hl (h.grid.lo k hk) }, Nat.le_trans hl h.lot, h.row, h.col, h.b32⟩
/-- a terminal, with the set of its blocks -/
def TmS (w : World) (lo t : Nat) (T : TS) (B : List UInt8) (O : Nat → Prop) : Prop := ∃ g rb bs, TmAt w lo t g rb bs T B ∧ O = TmOwn t g rb bs
namespace TmS
variable {w w' : World} {lo t : Nat} {T : TS} {B : List UInt8} {O S : Nat → Prop}
theorem chg (h : TmS w lo t T B O) (hc : Chg S w w') (hn : ∀ k, O k → ¬ S k) : TmS w' lo t T B O := by
  obtain ⟨g, rb, bs, h1, rfl⟩ := h
  exact ⟨g, rb, bs, h1.chg_ hc hn, rfl⟩
theorem below (h : TmS w lo t T B O) (hb : Below w.heap.size w w') : TmS w' lo t T B O := by
  obtain ⟨g, rb, bs, h1, rfl⟩ := h
  exact ⟨g, rb, bs, h1.below hb, rfl⟩
theorem lo_ (h : TmS w lo t T B O) {k : Nat} (hk : O k) : lo ≤ k := by
  obtain ⟨g, rb, bs, h1, rfl⟩ := h
  exact h1.own_lo hk
theorem lt (h : TmS w lo t T B O) {k : Nat} (hk : O k) : k < w.heap.size := by
  obtain ⟨g, rb, bs, h1, rfl⟩ := h
  exact h1.own_lt k hk
theorem weaken {lo' : Nat} (h : TmS w lo t T B O) (hl : lo' ≤ lo) : TmS w lo' t T B O := by
  obtain ⟨g, rb, bs, h1, rfl⟩ := h
  exact ⟨g, rb, bs, h1.weaken hl, rfl⟩
theorem write (h : TmS w lo t T B O) (hbase : Base w lo) (hB : B.length < 32) (pb : Nat) (vs : List Part) (hvs : vs.length ≤ 1000) (hP : PartsAt w O pb vs) :
    Calls Tryz.prog 8 #[.pointer (some ⟨t, 0, none⟩), .slice (some ⟨pb, 0, none⟩) vs.length vs.length] w fun e w' => e = .returned (.tuple #[]) ∧ ∃ O', TmS w' lo t (wrA (T, B) vs).1 (wrA (T, B) vs).2 O' ∧ (∀ k, O' k → O k ∨ w.heap.size ≤ k) ∧ Chg O w w' := by
  obtain ⟨g, rb, bs, h1, rfl⟩ := h
  refine (write_any h1 hbase hB pb vs hvs hP).mono ?_
  rintro e w' ⟨he, bs', h2, h3, h4⟩
  refine ⟨he, _, ⟨g, rb, bs', h2, rfl⟩, fun k hk => ?_, h4⟩
  rcases hk with rfl | hk
  · exact .inl (.inl rfl)
  · exact (h3 k hk).imp .inr id
end TmS
theorem tnewS (W H : Nat) (w1 : 1 ≤ W) (w5 : W ≤ 500) (h1 : 1 ≤ H) (h5 : H ≤ 500) (w : World) (hT : BlankT w) :
    Calls Tryz.prog 5 #[.int .i64 W, .int .i64 H] w fun e w' => ∃ t O, e = .returned (.tuple #[.pointer (some ⟨t, 0, none⟩), .int .i64 0]) ∧ TmS w' w.heap.size t (tmNew W H) [] O ∧ Below w.heap.size w w' := by
  refine (tnew_ok W H w1 w5 h1 h5 w hT).mono ?_
  rintro e w' ⟨t, g, rb, bs, he, ht, hb⟩
  exact ⟨t, _, he, ⟨g, rb, bs, ht, rfl⟩, hb⟩

/-- three terminals, and the document's in its box -/
structure Tri (w wr : World) (t : Fin 3 → Nat) (st : Fin 3 → TS × List UInt8) (O : Fin 3 → Nat → Prop) (z : Nat) (T0 : TS) (A : Option Addr) (c : Nat) : Prop where
  tm : ∀ i, TmS wr w.heap.size (t i) (st i).1 (st i).2 (O i)
  apart : ∀ i j, i ≠ j → ∀ k, O i k → ¬ O j k
  box : Blk wr z 34 (rtC T0 A c (.slice none 0 0))
  zno : ∀ i, ¬ O i z
  zlo : w.heap.size ≤ z
  rows : RfAt wr (fun b => b ≠ z ∧ ∀ i, ¬ O i b) A c T0.L
  base : Base wr w.heap.size
  bel : Below w.heap.size w wr
namespace Tri
variable {w wr w' : World} {t : Fin 3 → Nat} {st : Fin 3 → TS × List UInt8} {O : Fin 3 → Nat → Prop} {z : Nat} {T0 : TS} {A : Option Addr} {c : Nat}
theorem below (h : Tri w wr t st O z T0 A c) (hb : Below wr.heap.size wr w') : Tri w w' t st O z T0 A c :=
  ⟨fun i => (h.tm i).below hb, h.apart, h.box.below hb h.box.lt, h.zno, h.zlo, h.rows.below hb, h.base.below hb, h.bel.trans (hb.mono h.bel.size)⟩
theorem write (h : Tri w wr t st O z T0 A c) (i : Fin 3) {T : TS} {B : List UInt8} {O' : Nat → Prop} (hs : TmS w' w.heap.size (t i) T B O') (ho : ∀ k, O' k → O i k ∨ wr.heap.size ≤ k) (hc : Chg (O i) wr w') :
    ∃ st' O2, Tri w w' t st' O2 z T0 A c ∧ st' i = (T, B) ∧ ∀ j, j ≠ i → st' j = st j := by
  refine ⟨fun j => if j = i then (T, B) else st j, fun j => if j = i then O' else O j, ⟨fun j => ?_, fun j l hjl k hj hl => ?_, h.box.chg hc (h.zno i), fun j hj => ?_, h.zlo, ((h.rows.mono (D' := fun b => (b ≠ z ∧ ∀ i, ¬ O i b) ∧ ∀ j, ¬ (if j = i then O' else O j) b) (fun b hb hd => ⟨hd, fun j hj => ?_⟩)).chg hc (fun b _ hb => hb.1.2 i)).mono (fun b _ hd => ⟨hd.1.1, hd.2⟩), h.base.chg hc (fun k hk => (h.tm i).lo_ hk), h.bel.trans (hc.below h.bel.size (fun k hk => (h.tm i).lo_ hk))⟩, by simp, fun j hj => by simp [hj]⟩
  · by_cases e : j = i
    · subst e; simpa using hs
    · simp only [e, if_false]
      exact (h.tm j).chg hc (fun k hk => h.apart j i e k hk)
  · by_cases e : j = i
    · subst e
      have el : l ≠ j := fun e => hjl e.symm
      simp only [if_true] at hj
      simp only [el, if_false] at hl
      rcases ho k hj with h1 | h1
      · exact h.apart j l hjl k h1 hl
      · exact absurd ((h.tm l).lt hl) (by omega)
    · simp only [e, if_false] at hj
      by_cases e2 : l = i
      · subst e2
        simp only [if_true] at hl
        rcases ho k hl with h1 | h1
        · exact h.apart j l hjl k hj h1
        · exact absurd ((h.tm j).lt hj) (by omega)
      · simp only [e2, if_false] at hl
        exact h.apart j l hjl k hj hl
  · by_cases e : j = i
    · subst e
      simp only [if_true] at hj
      rcases ho z hj with h1 | h1
      · exact h.zno j h1
      · exact absurd h.box.lt (by omega)
    · simp only [e, if_false] at hj
      exact h.zno j hj
  · by_cases e : j = i
    · subst e
      simp only [if_true] at hj
      rcases ho b hj with h1 | h1
      · exact hd.2 j h1
      · omega
    · simp only [e, if_false] at hj
      exact hd.2 j hj
/-- bytes that are handed to a terminal as one part -/
theorem parts1 (h : Tri w wr t st O z T0 A c) (i : Fin 3) (A' : Option Addr) (x : List UInt8) (c' : Nat) (hx : x.length ≤ 100000) (hS : Sl wr w.heap.size A' (bv x)) :
    PartsAt (wr.alloc (.cells #[.slice A' x.length c'] 32)) (O i) wr.heap.size [(A', x, c')] := by
  have hb : Below wr.heap.size wr (wr.alloc (.cells #[.slice A' x.length c'] 32)) := (Below.refl _ _).alloc (Nat.le_refl _) _
  have h2 : Blk (wr.alloc (.cells #[.slice A' x.length c'] 32)) wr.heap.size 32 [.slice A' x.length c'] := Blk.new wr _ _
  refine ⟨h2.lt, fun hk => ?_, fun j v hv => ?_, fun v hv => ?_, fun v hv => ?_⟩
  · exact absurd ((h.tm i).lt hk) (by omega)
  · match j, hv with
    | 0, hv => simp at hv; subst hv; exact h2.cell 0
    | j + 1, hv => simp at hv
  · simp at hv
    subst hv
    by_cases h0 : x = []
    · exact .inl h0
    · right
      obtain ⟨b, o, e, hbl, hc⟩ := hS.open_ (by rw [bv_length]; exact List.length_pos_iff.2 h0)
      have := h.bel.size
      exact ⟨b, o, e, by simp; omega, fun hk => absurd ((h.tm i).lo_ hk) (by omega), fun i hi => (hb.cell (p := ⟨b, o + i, none⟩) (by show b < wr.heap.size; omega)).trans (hc i _ (bv_get hi))⟩
  · simp at hv
    subst hv
    exact hx
theorem parts2 (h : Tri w wr t st O z T0 A c) (i : Fin 3) (A' : Option Addr) (x : List UInt8) (c' : Nat) (hx : x.length ≤ 100000) (hS : Sl wr w.heap.size A' (bv x)) :
    PartsAt (wr.alloc (.cells #[.slice A' x.length c', .slice none 0 0] 32)) (O i) wr.heap.size [(A', x, c'), (none, [], 0)] := by
  have hb : Below wr.heap.size wr (wr.alloc (.cells #[.slice A' x.length c', .slice none 0 0] 32)) := (Below.refl _ _).alloc (Nat.le_refl _) _
  have h2 : Blk (wr.alloc (.cells #[.slice A' x.length c', .slice none 0 0] 32)) wr.heap.size 32 [.slice A' x.length c', .slice none 0 0] := Blk.new wr _ _
  refine ⟨h2.lt, fun hk => ?_, fun j v hv => ?_, fun v hv => ?_, fun v hv => ?_⟩
  · exact absurd ((h.tm i).lt hk) (by omega)
  · match j, hv with
    | 0, hv => simp at hv; subst hv; exact h2.cell 0
    | 1, hv => simp at hv; subst hv; exact h2.cell 1
    | j + 2, hv => simp at hv
  · simp at hv
    rcases hv with rfl | rfl
    · by_cases h0 : x = []
      · exact .inl h0
      · right
        obtain ⟨b, o, e, hbl, hc⟩ := hS.open_ (by rw [bv_length]; exact List.length_pos_iff.2 h0)
        have := h.bel.size
        exact ⟨b, o, e, by simp; omega, fun hk => absurd ((h.tm i).lo_ hk) (by omega), fun i hi => (hb.cell (p := ⟨b, o + i, none⟩) (by show b < wr.heap.size; omega)).trans (hc i _ (bv_get hi))⟩
    · exact .inl rfl
  · simp at hv
    rcases hv with rfl | rfl
    · exact hx
    · simp
theorem wr1 (h : Tri w wr t st O z T0 A c) (i : Fin 3) (hlt : (st i).2.length < 32) (A' : Option Addr) (x : List UInt8) (m c' : Nat) (hm : m = x.length) (hx : x.length ≤ 100000) (hS : Sl wr w.heap.size A' (bv x)) :
    Calls Tryz.prog 8 #[.pointer (some ⟨t i, 0, none⟩), .slice (some ⟨wr.heap.size, 0, none⟩) 1 1] (wr.alloc (.cells #[.slice A' m c'] 32)) fun e w' => e = .returned (.tuple #[]) ∧ ∃ st' O', Tri w w' t st' O' z T0 A c ∧ st' i = wrT (st i) x ∧ ∀ j, j ≠ i → st' j = st j := by
  subst hm
  have hb : Below wr.heap.size wr (wr.alloc (.cells #[.slice A' x.length c'] 32)) := (Below.refl _ _).alloc (Nat.le_refl _) _
  have h1 := h.below hb
  refine ((h1.tm i).write h1.base hlt wr.heap.size [(A', x, c')] (by simp) (h.parts1 i A' x c' hx hS)).mono ?_
  rintro e w' ⟨rfl, O', a1, a2, a3⟩
  obtain ⟨st', O2, b1, b2, b3⟩ := h1.write i a1 a2 a3
  exact ⟨rfl, st', O2, b1, by rw [b2]; rfl, b3⟩
theorem wr2 (h : Tri w wr t st O z T0 A c) (i : Fin 3) (hlt : (st i).2.length < 32) (A' : Option Addr) (x : List UInt8) (m c' : Nat) (hm : m = x.length) (hx : x.length ≤ 100000) (hS : Sl wr w.heap.size A' (bv x)) :
    Calls Tryz.prog 8 #[.pointer (some ⟨t i, 0, none⟩), .slice (some ⟨wr.heap.size, 0, none⟩) 2 2] (wr.alloc (.cells #[.slice A' m c', .slice none 0 0] 32)) fun e w' => e = .returned (.tuple #[]) ∧ ∃ st' O', Tri w w' t st' O' z T0 A c ∧ st' i = wrT (st i) x ∧ ∀ j, j ≠ i → st' j = st j := by
  subst hm
  have hb : Below wr.heap.size wr (wr.alloc (.cells #[.slice A' x.length c', .slice none 0 0] 32)) := (Below.refl _ _).alloc (Nat.le_refl _) _
  have h1 := h.below hb
  refine ((h1.tm i).write h1.base hlt wr.heap.size [(A', x, c'), (none, [], 0)] (by simp) (h.parts2 i A' x c' hx hS)).mono ?_
  rintro e w' ⟨rfl, O', a1, a2, a3⟩
  obtain ⟨st', O2, b1, b2, b3⟩ := h1.write i a1 a2 a3
  exact ⟨rfl, st', O2, b1, by rw [b2]; rfl, b3⟩
end Tri
end Go.Proofs.YtfmkeeaenjeneaaGreatDoor

namespace Go.Proofs.YtfmkeeaenjeneaaGreatDoor
open Go.RowKit Go.Sort
set_option linter.unusedVariables false
set_option linter.unusedSimpArgs false

/-- a guarded load of a whole struct, where the guard's slot is known -/
theorem wpList_load_mid_g {P : Program} {ops : Array Oper} {rest : List Oper} {op : Oper} {a : Act} {w : World} {Q : Exit → Act → World → Prop} (hw : Region.wanted op (yielded ops a.tmps) = true) (ty : TypeId) (x : Operand) (ho : op.op = .load ty x)
    (b o : Nat) (hx : a.eval x = .pointer (some ⟨b, o, none⟩)) (cs : List Value) (d : TypeDesc) (hc : w.rangeAt b o cs)
    (hu : P.underlying ty = some d) (hd : d.isRow = true) (hi : (P.info? ty).map (·.size) = some cs.length)
    (h : wpList P ops Q rest (a.put op.dst (.agg cs.toArray)) w) : wpList P ops Q (op :: rest) a w :=
  wpList_step fun K hK => by rw [if_pos hw]; exact wp_load_mid ty x ho b o hx cs d hc hu hd hi (hK _ _ h)
theorem rt_cells {w : World} {z : Nat} {T : TS} {A : Option Addr} {c : Nat} {vB : Value} (h : Blk w z 34 (rtC T A c vB)) : w.cell? ⟨z, 0, none⟩ = some (.int .i64 T.W) ∧ w.cell? ⟨z, 1, none⟩ = some (.int .i64 T.L.length) ∧ w.cell? ⟨z, 2, none⟩ = some (.slice A T.L.length c) ∧ w.cell? ⟨z, 3, none⟩ = some (.int .i64 T.row) ∧ w.cell? ⟨z, 4, none⟩ = some (.int .i64 T.col) ∧ w.cell? ⟨z, 5, none⟩ = some (.bool T.y.b) ∧ w.cell? ⟨z, 6, none⟩ = some (.bool T.y.u) ∧ w.cell? ⟨z, 7, none⟩ = some (.bool T.y.i) ∧ w.cell? ⟨z, 8, none⟩ = some (.int .i64 T.y.f) ∧ w.cell? ⟨z, 9, none⟩ = some (.int .i64 T.y.g) ∧ w.cell? ⟨z, 10, none⟩ = some (.bool T.pend) ∧ w.cell? ⟨z, 11, none⟩ = some (.bool T.seen) ∧ w.cell? ⟨z, 12, none⟩ = some (.bool T.mark) ∧ w.cell? ⟨z, 13, none⟩ = some (.int .i64 T.bells) ∧ w.cell? ⟨z, 14, none⟩ = some (.int .i64 T.scr) ∧ w.cell? ⟨z, 15, none⟩ = some (vB) ∧ w.cell? ⟨z, 16, none⟩ = some (.bool T.joins) ∧ w.cell? ⟨z, 17, none⟩ = some (.int .i64 T.lr) ∧ w.cell? ⟨z, 18, none⟩ = some (.int .i64 T.lc) :=
  ⟨h.cell 0, h.cell 1, h.cell 2, h.cell 3, h.cell 4, h.cell 5, h.cell 6, h.cell 7, h.cell 8, h.cell 9, h.cell 10, h.cell 11, h.cell 12, h.cell 13, h.cell 14, h.cell 15, h.cell 16, h.cell 17, h.cell 18⟩
theorem rt_load {w : World} {z : Nat} {T : TS} {A : Option Addr} {c : Nat} {vB : Value} (h : Blk w z 34 (rtC T A c vB)) : (Instr.loadAt 34 (.pointer (some ⟨z, 0, none⟩))).run Tryz.prog w = .ok (.agg #[.int .i64 T.W, .int .i64 T.L.length, .slice A T.L.length c, .int .i64 T.row, .int .i64 T.col, .bool T.y.b, .bool T.y.u, .bool T.y.i, .int .i64 T.y.f, .int .i64 T.y.g, .bool T.pend, .bool T.seen, .bool T.mark, .int .i64 T.bells, .int .i64 T.scr, vB, .bool T.joins, .int .i64 T.lr, .int .i64 T.lc]) w :=
  run_loadAt_mid w z 0 34 (rtC T A c vB) _ h.whole Tryz.underlying34 rfl rt_size
theorem cut5_any (A : Option Addr) (n c : Nat) (hn : n ≤ c) (w : World) :
    Calls Tryz.prog 9 #[.slice A n c] w fun e w' => e = .returned (.slice A (min n 300) c) ∧ w = w' := by
  have hci : min (n : Int) 300 ≤ (c : Int) := by omega
  have hmi : 0 ≤ min (n : Int) 300 := by omega
  have e : (min (n : Int) 300).toNat = min n 300 := by omega
  have E := Lib.hid e
  clear e
  go_enter Tryz.func9, Tryz.ntmps9
  go_wp2
  go_ret
  exact ⟨by rw [← E.out]; rfl, rfl⟩
theorem TmS.tok {w : World} {lo t : Nat} {T : TS} {B : List UInt8} {O : Nat → Prop} (h : TmS w lo t T B O) : TOk T := by
  obtain ⟨g, rb, bs, h1, _⟩ := h
  exact ⟨h1.grid.rws_, h1.row, h1.col⟩
theorem shows_S {w : World} {lo t : Nat} {T : TS} {B : List UInt8} {O : Nat → Prop} {D : Nat → Prop} {A : Option Addr} {c : Nat} {Ab : Option Addr} {cb : Nat} (h : TmS w lo t T B O) (hr : RfAt w D A c T.L) :
    Calls Tryz.prog 16 #[.pointer (some ⟨t, 0, none⟩), .agg #[.int .i64 T.W, .int .i64 T.L.length, .slice A T.L.length c, .int .i64 T.row, .int .i64 T.col, .bool T.y.b, .bool T.y.u, .bool T.y.i, .int .i64 T.y.f, .int .i64 T.y.g, .bool T.pend, .bool T.seen, .bool T.mark, .int .i64 T.bells, .int .i64 T.scr, .slice Ab B.length cb, .bool T.joins, .int .i64 T.lr, .int .i64 T.lc]] w fun e w' => e = .returned (.bool true) ∧ Below w.heap.size w w' := by
  have hk := h.tok
  obtain ⟨g, rb, bs, h1, _⟩ := h
  exact shows_any h1 hr hk
theorem tri_start {w w5 : World} {ta tb tc z : Nat} {Oa Ob Oc : Nat → Prop} {T0 : TS} {A : Option Addr} {c : Nat} (a1 a2 a3 : Nat) (ha : TmS w5 w.heap.size ta T0 [] Oa) (hb : TmS w5 w.heap.size tb T0 [] Ob) (hc : TmS w5 w.heap.size tc T0 [] Oc) (la : ∀ k, Oa k → k < a1) (lb : ∀ k, Ob k → a1 ≤ k ∧ k < a2) (lc : ∀ k, Oc k → a2 ≤ k ∧ k < a3) (h12 : a1 ≤ a2) (h23 : a2 ≤ a3) (hz : a3 ≤ z) (hbox : Blk w5 z 34 (rtC T0 A c (.slice none 0 0))) (hr : RfAt w5 (fun b => a3 ≤ b ∧ b ≠ z) A c T0.L) (hzl : w.heap.size ≤ z) (hbase : Base w5 w.heap.size) (hbel : Below w.heap.size w w5) :
    ∃ (t : Fin 3 → Nat) (st : Fin 3 → TS × List UInt8) (O : Fin 3 → Nat → Prop), ta = t 0 ∧ tb = t 1 ∧ tc = t 2 ∧ st 0 = (T0, []) ∧ st 1 = (T0, []) ∧ st 2 = (T0, []) ∧ Tri w w5 t st O z T0 A c := by
  refine ⟨fun i => if i = 0 then ta else if i = 1 then tb else tc, fun _ => (T0, []), fun i => if i = 0 then Oa else if i = 1 then Ob else Oc, rfl, rfl, rfl, rfl, rfl, rfl, ⟨fun i => ?_, fun i j hij k hi hj => ?_, hbox, fun i hi => ?_, hzl, hr.mono (fun b _ hd => ⟨hd.2, fun i hi => ?_⟩), hbase, hbel⟩⟩
  · match i with
    | 0 => exact ha
    | 1 => exact hb
    | 2 => exact hc
  · match i, j with
    | 0, 0 => exact hij rfl
    | 0, 1 => have := la k hi; have := lb k hj; omega
    | 0, 2 => have := la k hi; have := lc k hj; omega
    | 1, 0 => have := la k hj; have := lb k hi; omega
    | 1, 1 => exact hij rfl
    | 1, 2 => have := lb k hi; have := lc k hj; omega
    | 2, 0 => have := la k hj; have := lc k hi; omega
    | 2, 1 => have := lb k hj; have := lc k hi; omega
    | 2, 2 => exact hij rfl
  · match i with
    | 0 => have := la z hi; omega
    | 1 => have := lb z hi; omega
    | 2 => have := lc z hi; omega
  · match i with
    | 0 => have := la b hi; have := hd.1; omega
    | 1 => have := lb b hi; have := hd.1; omega
    | 2 => have := lc b hi; have := hd.1; omega
/-- behind all: the three terminals and the document's show the same -/
structure Fin3 (w wr : World) (t : Fin 3 → Nat) (T : TS) (B : List UInt8) (z : Nat) (A : Option Addr) (c : Nat) (Ab : Option Addr) (cb : Nat) : Prop where
  tm : ∀ i, ∃ O, TmS wr w.heap.size (t i) T B O
  box : Blk wr z 34 (rtC T A c (.slice Ab B.length cb))
  rows : RfAt wr (fun _ => True) A c T.L
  base : Base wr w.heap.size
  bel : Below w.heap.size w wr
theorem Fin3.below {w wr w' : World} {t : Fin 3 → Nat} {T : TS} {B : List UInt8} {z : Nat} {A : Option Addr} {c : Nat} {Ab : Option Addr} {cb : Nat} (h : Fin3 w wr t T B z A c Ab cb) (hb : Below wr.heap.size wr w') : Fin3 w w' t T B z A c Ab cb :=
  ⟨fun i => by obtain ⟨O, ho⟩ := h.tm i; exact ⟨O, ho.below hb⟩, h.box.below hb h.box.lt, h.rows.below hb, h.base.below hb, h.bel.trans (hb.mono h.bel.size)⟩
theorem Fin3.shows {w wr : World} {t : Fin 3 → Nat} {T : TS} {B : List UInt8} {z : Nat} {A : Option Addr} {c : Nat} {Ab : Option Addr} {cb : Nat} (h : Fin3 w wr t T B z A c Ab cb) (i : Fin 3) :
    Calls Tryz.prog 16 #[.pointer (some ⟨t i, 0, none⟩), .agg #[.int .i64 T.W, .int .i64 T.L.length, .slice A T.L.length c, .int .i64 T.row, .int .i64 T.col, .bool T.y.b, .bool T.y.u, .bool T.y.i, .int .i64 T.y.f, .int .i64 T.y.g, .bool T.pend, .bool T.seen, .bool T.mark, .int .i64 T.bells, .int .i64 T.scr, .slice Ab B.length cb, .bool T.joins, .int .i64 T.lr, .int .i64 T.lc]] wr fun e w' => e = .returned (.bool true) ∧ Fin3 w w' t T B z A c Ab cb := by
  obtain ⟨O, ho⟩ := h.tm i
  exact (shows_S ho h.rows).mono fun e w' ⟨he, hb⟩ => ⟨he, h.below hb⟩
theorem Tri.fin {w wr w7 w8 : World} {t : Fin 3 → Nat} {st : Fin 3 → TS × List UInt8} {O : Fin 3 → Nat → Prop} {z : Nat} {T0 T : TS} {B : List UInt8} {A A9 Ab : Option Addr} {c c9 cb : Nat} (h : Tri w wr t st O z T0 A c) (hst : ∀ i, st i = (T, B)) (hb : Below wr.heap.size wr w7)
    (hr : RfAt w7 (fun b => (b ≠ z ∧ ∀ i, ¬ O i b) ∨ wr.heap.size ≤ b) A9 c9 T.L) (hg : w7.grownBy w8 (some z)) (hn : Blk w8 z 34 (rtC T A9 c9 (.slice Ab B.length cb))) : Fin3 w w8 t T B z A9 c9 Ab cb := by
  have h7 := h.below hb
  have hc := chg_of_grown hg
  have hlo : ∀ k, one z k → w.heap.size ≤ k := fun k hk => by
    have e : k = z := hk
    subst e
    exact h.zlo
  have hzl := h.box.lt
  exact ⟨fun i => ⟨O i, by have := (h7.tm i).chg hc (fun k hk e => h.zno i (by have e' : k = z := e; rw [← e']; exact hk)); rw [hst i] at this; exact this⟩, hn, (hr.chg hc (fun b _ hd e => by
    have e' : b = z := e
    rcases hd with hd | hd
    · exact hd.1 e'
    · omega)).mono (fun _ _ _ => trivial), h7.base.chg hc hlo, h7.bel.trans (hc.below h7.bel.size hlo)⟩
end Go.Proofs.YtfmkeeaenjeneaaGreatDoor

