/-
  Walks: the reference's feed.
-/
import Derived.Test.YtfmkeeaenjeneaaGreatDoorRtMem
namespace Go.Proofs.YtfmkeeaenjeneaaGreatDoor
open Go.RowKit Go.Sort
set_option linter.unusedVariables false
set_option linter.unusedSimpArgs false

theorem w64 (x : Int) : IntKind.i64.wrap x = wrap64 x := by rw [IntKind.wrap_i64]; unfold wrap64; omega
set_option maxRecDepth 100000 in
set_option maxHeartbeats 8000000 in
theorem rfeed_any {w : World} {D : Nat → Prop} {A : Option Addr} {c : Nat} {T : TS} {vB : Value} (h : RfAt w D A c T.L) (hk : TOk T) (hv : vB.oneCell' = true) :
    Calls Tryz.prog 79 #[.agg #[.int .i64 T.W, .int .i64 T.L.length, .slice A T.L.length c, .int .i64 T.row, .int .i64 T.col, .bool T.y.b, .bool T.y.u, .bool T.y.i, .int .i64 T.y.f, .int .i64 T.y.g, .bool T.pend, .bool T.seen, .bool T.mark, .int .i64 T.bells, .int .i64 T.scr, vB, .bool T.joins, .int .i64 T.lr, .int .i64 T.lc]] w fun e w' => ∃ V, e = .returned V ∧ RtV w' (fun b => D b ∨ w.heap.size ≤ b) V (feedT T) vB ∧ Below w.heap.size w w' := by
  have hrow := hk.row
  have hh5 := hk.q.h5
  have hq := hk.q
  by_cases hr : T.row + 1 < T.L.length
  · have HE := Lib.hid (show feedT T = { T with pend := false, row := T.row + 1 } from if_pos hr)
    rw [HE.out]
    have hri : (T.row : Int) < (T.L.length : Int) - 1 := by omega
    obtain ⟨W0, HW0, HS0⟩ := rt_start (vB := vB) h
    have HV := Lib.hid hv
    go_enter Tryz.func79, Tryz.ntmps79
    go_upto_region 1 with fail
    rw [← HW0.out]
    clear HW0
    clear h hk hv hq
    go_wp2_with (first
        | ((with_reducible refine at_store 3 ?_); refine wpList_store_cell rfl _ _ _ rfl rfl w.heap.size 10 _ (rtC T A c vB) (.bool false) rfl rfl HS0.out.x (by simp [rtC]) (by kernel_rfl) rfl ?_; intro w1 hn hg; have HS1 := Lib.hid (HS0.out.set (T' := { T with pend := false }) hg hn rfl); have e1_H : w1.cell? ⟨w.heap.size, 1, none⟩ = some (.int .i64 { T with pend := false }.L.length) := HS1.out.x.cell 1; have e1_row : w1.cell? ⟨w.heap.size, 3, none⟩ = some (.int .i64 { T with pend := false }.row) := HS1.out.x.cell 3; clear hn hg)
        | ((with_reducible refine at_store 14 ?_); refine wpList_store_cell rfl _ _ _ rfl rfl w.heap.size 3 _ (rtC { T with pend := false } A c vB) (.int .i64 ((T.row : Int) + 1)) rfl rfl HS1.out.x (by simp [rtC]) (by kernel_rfl) rfl ?_; intro w2 hn hg; have HS2 := Lib.hid (HS1.out.set (T' := { T with pend := false, row := T.row + 1 }) hg hn rfl); clear hn hg e1_H e1_row)
        | ((with_reducible refine at_dst 15 ?_); refine wpList_load_mid rfl _ _ rfl w.heap.size 0 rfl (rtC { T with pend := false, row := T.row + 1 } A c vB) _ HS2.out.x.whole Tryz.underlying34 rfl rt_size ?_)
        | ((with_reducible refine at_store 2 ?_); refine wpList_store_blk rfl _ _ _ rfl rfl (w.heap.size + 1) 0 _ rtZ (rtC { T with pend := false, row := T.row + 1 } A c vB) rfl rfl HS2.out.z (by simp [rtC, rtZ]) rt_size (rtC_one _ _ _ HV.out) ?_; intro w9 hn9 hg9))
    exact bodyPost_ret (results_c rfl rfl hn9.whole Tryz.underlying34 rfl rt_size) rfl ⟨_, rfl, HS2.out.fin hg9⟩
  · have HE := Lib.hid (show feedT T = { T with pend := false, L := scrollM T.W T.L 1, scr := wrap64 (T.scr + 1) } from (if_neg hr).trans (by rw [w64]))
    rw [HE.out]
    have hri : ¬ (T.row : Int) < (T.L.length : Int) - 1 := by omega
    obtain ⟨W0, HW0, HS0⟩ := rt_start (vB := vB) h
    have HV := Lib.hid hv
    go_enter Tryz.func79, Tryz.ntmps79
    go_upto_region 1 with fail
    rw [← HW0.out]
    clear HW0
    clear h hk hv
    go_wp2_with (first
        | ((with_reducible refine at_store 3 ?_); refine wpList_store_cell rfl _ _ _ rfl rfl w.heap.size 10 _ (rtC T A c vB) (.bool false) rfl rfl HS0.out.x (by simp [rtC]) (by kernel_rfl) rfl ?_; intro w1 hn hg; have HS1 := Lib.hid (HS0.out.set (T' := { T with pend := false }) hg hn rfl); have e1_W : w1.cell? ⟨w.heap.size, 0, none⟩ = some (.int .i64 { T with pend := false }.W) := HS1.out.x.cell 0; have e1_H : w1.cell? ⟨w.heap.size, 1, none⟩ = some (.int .i64 { T with pend := false }.L.length) := HS1.out.x.cell 1; have e1_L : w1.cell? ⟨w.heap.size, 2, none⟩ = some (.slice A { T with pend := false }.L.length c) := HS1.out.x.cell 2; have e1_row : w1.cell? ⟨w.heap.size, 3, none⟩ = some (.int .i64 { T with pend := false }.row) := HS1.out.x.cell 3; clear hn hg)
        | (go_at_call 116; refine (rscroll_any HS1.out.g hq 1).mono ?_; rintro e w2 ⟨V, rfl, hr2, hb2⟩; obtain ⟨A2, c2, rfl, hr3⟩ := RtS.back (T' := { T with pend := false, L := scrollM T.W T.L 1 }) hr2 HS1.out; have HR2 := Lib.hid hr3; have HS2 := Lib.hid (HS1.out.below hb2); clear hr2 hr3 hb2 e1_H e1_row e1_W e1_L)
        | ((with_reducible refine at_store 22 ?_); refine wpList_store_blk rfl _ _ _ rfl rfl w.heap.size 0 _ (rtC { T with pend := false } A c vB) (rgC T.W (scrollM T.W T.L 1).length A2 c2) rfl rfl HS2.out.x (by simp [rtC, rgC]) rg_size (rgC_one _ _ _ _) ?_; intro w3 hn hg; have HS3 : Hid (RtS w w3 D { T with pend := false, L := scrollM T.W T.L 1 } A2 c2 vB) := Lib.hid (HS2.out.putG HR2.out hg hn); have e3_scr : w3.cell? ⟨w.heap.size, 14, none⟩ = some (.int .i64 { T with pend := false, L := scrollM T.W T.L 1 }.scr) := HS3.out.x.cell 14; clear hn hg)
        | ((with_reducible refine at_store 26 ?_); refine wpList_store_cell rfl _ _ _ rfl rfl w.heap.size 14 _ (rtC { T with pend := false, L := scrollM T.W T.L 1 } A2 c2 vB) (.int .i64 (wrap64 (T.scr + 1))) rfl rfl HS3.out.x (by simp [rtC]) (by kernel_rfl) rfl ?_; intro w4 hn hg; have HS4 := Lib.hid (HS3.out.set (T' := { T with pend := false, L := scrollM T.W T.L 1, scr := wrap64 (T.scr + 1) }) hg hn rfl); clear hn hg e3_scr)
        | ((with_reducible refine at_dst 27 ?_); refine wpList_load_mid rfl _ _ rfl w.heap.size 0 rfl (rtC { T with pend := false, L := scrollM T.W T.L 1, scr := wrap64 (T.scr + 1) } A2 c2 vB) _ HS4.out.x.whole Tryz.underlying34 rfl rt_size ?_)
        | ((with_reducible refine at_store 2 ?_); refine wpList_store_blk rfl _ _ _ rfl rfl (w.heap.size + 1) 0 _ rtZ (rtC { T with pend := false, L := scrollM T.W T.L 1, scr := wrap64 (T.scr + 1) } A2 c2 vB) rfl rfl HS4.out.z (by simp [rtC, rtZ]) rt_size (rtC_one _ _ _ HV.out) ?_; intro w9 hn9 hg9))
    exact bodyPost_ret (results_c rfl rfl hn9.whole Tryz.underlying34 rfl rt_size) rfl ⟨_, rfl, HS4.out.fin hg9⟩
end Go.Proofs.YtfmkeeaenjeneaaGreatDoor
