/-
  Walks: the reference's erased.
-/
import Derived.Test.YtfmkeeaenjeneaaGreatDoorRtErase
namespace Go.Proofs.YtfmkeeaenjeneaaGreatDoor
open Go.RowKit Go.Sort
set_option linter.unusedVariables false
set_option linter.unusedSimpArgs false

theorem rerasef_z {w : World} {D : Nat → Prop} {A : Option Addr} {c : Nat} {T : TS} {vB : Value} (h : RfAt w D A c T.L) (hk : TOk T) (hv : vB.oneCell' = true) (fr fc tr tc : Nat) (h1 : fr ≤ tr + 1) (h2 : tr < T.L.length) (h3 : fc ≤ 500) (h4 : tc ≤ 500) (a1 a2 a3 z : Int) (e1 : a1 = fr) (e2 : a2 = fc) (e3 : a3 = tr) (hz : z = (tc : Int) + 1) (R : TS) (hR : eraseRows T fr fc tr tc (tr + 1 - fr) = R) :
    Calls Tryz.prog 152 #[.agg #[.int .i64 T.W, .int .i64 T.L.length, .slice A T.L.length c, .int .i64 T.row, .int .i64 T.col, .bool T.y.b, .bool T.y.u, .bool T.y.i, .int .i64 T.y.f, .int .i64 T.y.g, .bool T.pend, .bool T.seen, .bool T.mark, .int .i64 T.bells, .int .i64 T.scr, vB, .bool T.joins, .int .i64 T.lr, .int .i64 T.lc], .int .i64 a1, .int .i64 a2, .int .i64 a3, .int .i64 z] w fun e w' => ∃ V, e = .returned V ∧ RtV w' (fun b => D b ∨ w.heap.size ≤ b) V R vB ∧ Below w.heap.size w w' := by
  subst e1; subst e2; subst e3; subst hR
  exact rerasef_any h hk hv fr fc tr tc h1 h2 h3 h4 z hz
theorem RtS.fin2 {w W w9 : World} {D : Nat → Prop} {T T' : TS} {A A' : Option Addr} {c c' : Nat} {vB vC : Value} (h : RtS w W D T A c vB) (hr : RfAt W (DD w D) A' c' T'.L) (hg : W.grownBy w9 (some (w.heap.size + 1))) : (RtV w9 (fun b => D b ∨ w.heap.size ≤ b) (.agg (rtC T' A' c' vC).toArray) T' vC) ∧ Below w.heap.size w w9 :=
  ⟨⟨A', c', rfl, (hr.chg (chg_of_grown hg) (fun b _ hd e => by have e' : b = w.heap.size + 1 := e; rcases hd with ⟨_, h⟩ | h <;> omega)).mono (fun b _ hd => hd.elim (fun h => .inl h.1) (fun h => .inr (by omega)))⟩, h.bel.grown hg h.bel.size (fun j hj => by injection hj with hj; omega)⟩

set_option maxRecDepth 100000 in
set_option maxHeartbeats 8000000 in
theorem rerased_any {w : World} {D : Nat → Prop} {A : Option Addr} {c : Nat} {T : TS} {vB : Value} (h : RfAt w D A c T.L) (hk : TOk T) (hv : vB.oneCell' = true) (n : Int) (b : Bool) :
    Calls Tryz.prog 142 #[.agg #[.int .i64 T.W, .int .i64 T.L.length, .slice A T.L.length c, .int .i64 T.row, .int .i64 T.col, .bool T.y.b, .bool T.y.u, .bool T.y.i, .int .i64 T.y.f, .int .i64 T.y.g, .bool T.pend, .bool T.seen, .bool T.mark, .int .i64 T.bells, .int .i64 T.scr, vB, .bool T.joins, .int .i64 T.lr, .int .i64 T.lc], .int .i64 n, .bool b] w fun e w' => ∃ V, e = .returned V ∧ RtV w' (fun b => D b ∨ w.heap.size ≤ b) V (eraseT T n (if b then T.row else 0) (if b then T.row else T.L.length - 1)) vB ∧ Below w.heap.size w w' := by
  have hrow := hk.row
  have hcol := hk.col
  have hh1 := hk.q.h1
  have hh5 := hk.q.h5
  have hw1 := hk.q.w1
  have hw5 := hk.q.w5
  have hhi : (T.L.length : Int) ≤ 500 := by omega
  have hci : (T.col : Int) ≤ 500 := by omega
  have HK := Lib.hid hk
  obtain ⟨f, hf⟩ : ∃ f, f = if b then T.row else 0 := ⟨_, rfl⟩
  obtain ⟨l, hl⟩ : ∃ l, l = if b then T.row else T.L.length - 1 := ⟨_, rfl⟩
  rw [← hf, ← hl]
  have hn : n = 0 ∨ n = 1 ∨ n = 2 ∨ (n ≠ 0 ∧ n ≠ 1 ∧ n ≠ 2) := by omega
  cases b
  · have hf' : f = 0 := hf
    have hl' : l = (T.L.length - 1) := hl
    subst hf' hl'
    clear hf hl
    rcases hn with rfl | rfl | rfl | ⟨n0, n1, n2⟩
    · have HE : Hid (eraseT T 0 0 (T.L.length - 1) = eraseRows T T.row T.col (T.L.length - 1) (T.W - 1) ((T.L.length - 1) + 1 - T.row)) := Lib.hid (rfl)
      rw [HE.out]
      obtain ⟨R, hR0⟩ : ∃ R, eraseRows T T.row T.col (T.L.length - 1) (T.W - 1) ((T.L.length - 1) + 1 - T.row) = R := ⟨_, rfl⟩
      rw [hR0]
      have HR0 := Lib.hid hR0
      clear hR0 HE
      obtain ⟨W0, HW0, HS0⟩ := rt_start (vB := vB) h
      have HV := Lib.hid hv
      go_enter Tryz.func142, Tryz.ntmps142
      go_upto_region 1 with fail
      rw [← HW0.out]
      clear HW0
      have e0_W : W0.cell? ⟨w.heap.size, 0, none⟩ = some (.int .i64 T.W) := HS0.out.x.cell 0
      have e0_H : W0.cell? ⟨w.heap.size, 1, none⟩ = some (.int .i64 T.L.length) := HS0.out.x.cell 1
      clear h hk hv
      go_quiet (fail)
      have HS1 : Hid (RtS w (W0.drewN nq) D T A c vB) := Lib.hid (HS0.out.below (below_drewN W0 nq))
      generalize W0.drewN nq = w1 at HS1 ⊢
      clear e0_W e0_H
      have e1_W : w1.cell? ⟨w.heap.size, 0, none⟩ = some (.int .i64 T.W) := HS1.out.x.cell 0
      have e1_H : w1.cell? ⟨w.heap.size, 1, none⟩ = some (.int .i64 T.L.length) := HS1.out.x.cell 1
      have e1_row : w1.cell? ⟨w.heap.size, 3, none⟩ = some (.int .i64 T.row) := HS1.out.x.cell 3
      have e1_col : w1.cell? ⟨w.heap.size, 4, none⟩ = some (.int .i64 T.col) := HS1.out.x.cell 4
      go_wp2_with (first
          | ((with_reducible refine at_dst 22 ?_); refine wpList_load_mid rfl _ _ rfl w.heap.size 0 rfl (rtC T A c vB) _ HS1.out.x.whole Tryz.underlying34 rfl rt_size ?_)
          | (go_at_call 152; refine (rerasef_z HS1.out.g HK.out HV.out T.row T.col (T.L.length - 1) (T.W - 1) (by omega) (by omega) (by omega) (by omega) _ _ _ _ (by omega) (by omega) (by omega) (by omega) R HR0.out).mono ?_; rintro e w5 ⟨V, rfl, hr2, hb2⟩; obtain ⟨A2, c2, rfl, hr3⟩ := RtS.backT hr2 HS1.out; have HR2 := Lib.hid hr3; have HS5 := Lib.hid (HS1.out.below hb2); clear hr2 hr3 hb2 e1_W e1_H e1_row e1_col)
          | ((with_reducible refine at_store 6 ?_); refine wpList_store_blk rfl _ _ _ rfl rfl (w.heap.size + 1) 0 _ rtZ (rtC R A2 c2 vB) rfl rfl HS5.out.z (by simp [rtC, rtZ]) rt_size (rtC_one _ _ _ HV.out) ?_; intro w9 hn9 hg9))
      exact bodyPost_ret (results_c rfl rfl hn9.whole Tryz.underlying34 rfl rt_size) rfl ⟨_, rfl, HS5.out.fin2 HR2.out hg9⟩
    · have HE : Hid (eraseT T 1 0 (T.L.length - 1) = eraseRows T 0 0 T.row T.col (T.row + 1 - 0)) := Lib.hid (rfl)
      rw [HE.out]
      obtain ⟨R, hR0⟩ : ∃ R, eraseRows T 0 0 T.row T.col (T.row + 1 - 0) = R := ⟨_, rfl⟩
      rw [hR0]
      have HR0 := Lib.hid hR0
      clear hR0 HE
      obtain ⟨W0, HW0, HS0⟩ := rt_start (vB := vB) h
      have HV := Lib.hid hv
      go_enter Tryz.func142, Tryz.ntmps142
      go_upto_region 1 with fail
      rw [← HW0.out]
      clear HW0
      have e0_W : W0.cell? ⟨w.heap.size, 0, none⟩ = some (.int .i64 T.W) := HS0.out.x.cell 0
      have e0_H : W0.cell? ⟨w.heap.size, 1, none⟩ = some (.int .i64 T.L.length) := HS0.out.x.cell 1
      clear h hk hv
      go_quiet (fail)
      have HS1 : Hid (RtS w (W0.drewN nq) D T A c vB) := Lib.hid (HS0.out.below (below_drewN W0 nq))
      generalize W0.drewN nq = w1 at HS1 ⊢
      clear e0_W e0_H
      have e1_W : w1.cell? ⟨w.heap.size, 0, none⟩ = some (.int .i64 T.W) := HS1.out.x.cell 0
      have e1_H : w1.cell? ⟨w.heap.size, 1, none⟩ = some (.int .i64 T.L.length) := HS1.out.x.cell 1
      have e1_row : w1.cell? ⟨w.heap.size, 3, none⟩ = some (.int .i64 T.row) := HS1.out.x.cell 3
      have e1_col : w1.cell? ⟨w.heap.size, 4, none⟩ = some (.int .i64 T.col) := HS1.out.x.cell 4
      go_wp2_with (first
          | ((with_reducible refine at_dst 34 ?_); refine wpList_load_mid rfl _ _ rfl w.heap.size 0 rfl (rtC T A c vB) _ HS1.out.x.whole Tryz.underlying34 rfl rt_size ?_)
          | (go_at_call 152; refine (rerasef_z HS1.out.g HK.out HV.out 0 0 T.row T.col (by omega) (by omega) (by omega) (by omega) _ _ _ _ (by omega) (by omega) (by omega) (by omega) R HR0.out).mono ?_; rintro e w5 ⟨V, rfl, hr2, hb2⟩; obtain ⟨A2, c2, rfl, hr3⟩ := RtS.backT hr2 HS1.out; have HR2 := Lib.hid hr3; have HS5 := Lib.hid (HS1.out.below hb2); clear hr2 hr3 hb2 e1_W e1_H e1_row e1_col)
          | ((with_reducible refine at_store 6 ?_); refine wpList_store_blk rfl _ _ _ rfl rfl (w.heap.size + 1) 0 _ rtZ (rtC R A2 c2 vB) rfl rfl HS5.out.z (by simp [rtC, rtZ]) rt_size (rtC_one _ _ _ HV.out) ?_; intro w9 hn9 hg9))
      exact bodyPost_ret (results_c rfl rfl hn9.whole Tryz.underlying34 rfl rt_size) rfl ⟨_, rfl, HS5.out.fin2 HR2.out hg9⟩
    · have HE : Hid (eraseT T 2 0 (T.L.length - 1) = eraseRows T 0 0 (T.L.length - 1) (T.W - 1) ((T.L.length - 1) + 1 - 0)) := Lib.hid (rfl)
      rw [HE.out]
      obtain ⟨R, hR0⟩ : ∃ R, eraseRows T 0 0 (T.L.length - 1) (T.W - 1) ((T.L.length - 1) + 1 - 0) = R := ⟨_, rfl⟩
      rw [hR0]
      have HR0 := Lib.hid hR0
      clear hR0 HE
      obtain ⟨W0, HW0, HS0⟩ := rt_start (vB := vB) h
      have HV := Lib.hid hv
      go_enter Tryz.func142, Tryz.ntmps142
      go_upto_region 1 with fail
      rw [← HW0.out]
      clear HW0
      have e0_W : W0.cell? ⟨w.heap.size, 0, none⟩ = some (.int .i64 T.W) := HS0.out.x.cell 0
      have e0_H : W0.cell? ⟨w.heap.size, 1, none⟩ = some (.int .i64 T.L.length) := HS0.out.x.cell 1
      clear h hk hv
      go_quiet (fail)
      have HS1 : Hid (RtS w (W0.drewN nq) D T A c vB) := Lib.hid (HS0.out.below (below_drewN W0 nq))
      generalize W0.drewN nq = w1 at HS1 ⊢
      clear e0_W e0_H
      have e1_W : w1.cell? ⟨w.heap.size, 0, none⟩ = some (.int .i64 T.W) := HS1.out.x.cell 0
      have e1_H : w1.cell? ⟨w.heap.size, 1, none⟩ = some (.int .i64 T.L.length) := HS1.out.x.cell 1
      have e1_row : w1.cell? ⟨w.heap.size, 3, none⟩ = some (.int .i64 T.row) := HS1.out.x.cell 3
      have e1_col : w1.cell? ⟨w.heap.size, 4, none⟩ = some (.int .i64 T.col) := HS1.out.x.cell 4
      go_wp2_with (first
          | ((with_reducible refine at_dst 44 ?_); refine wpList_load_mid rfl _ _ rfl w.heap.size 0 rfl (rtC T A c vB) _ HS1.out.x.whole Tryz.underlying34 rfl rt_size ?_)
          | (go_at_call 152; refine (rerasef_z HS1.out.g HK.out HV.out 0 0 (T.L.length - 1) (T.W - 1) (by omega) (by omega) (by omega) (by omega) _ _ _ _ (by omega) (by omega) (by omega) (by omega) R HR0.out).mono ?_; rintro e w5 ⟨V, rfl, hr2, hb2⟩; obtain ⟨A2, c2, rfl, hr3⟩ := RtS.backT hr2 HS1.out; have HR2 := Lib.hid hr3; have HS5 := Lib.hid (HS1.out.below hb2); clear hr2 hr3 hb2 e1_W e1_H e1_row e1_col)
          | ((with_reducible refine at_store 6 ?_); refine wpList_store_blk rfl _ _ _ rfl rfl (w.heap.size + 1) 0 _ rtZ (rtC R A2 c2 vB) rfl rfl HS5.out.z (by simp [rtC, rtZ]) rt_size (rtC_one _ _ _ HV.out) ?_; intro w9 hn9 hg9))
      exact bodyPost_ret (results_c rfl rfl hn9.whole Tryz.underlying34 rfl rt_size) rfl ⟨_, rfl, HS5.out.fin2 HR2.out hg9⟩
    · have HE : Hid (eraseT T n 0 (T.L.length - 1) = T) := Lib.hid (by unfold eraseT; rw [if_neg n0, if_neg n1, if_neg n2])
      rw [HE.out]
      have n0' : (n == 0) = false := by simpa using n0
      have n1' : (n == 1) = false := by simpa using n1
      have n2' : (n == 2) = false := by simpa using n2
      clear n0 n1 n2
      obtain ⟨W0, HW0, HS0⟩ := rt_start (vB := vB) h
      have HV := Lib.hid hv
      go_enter Tryz.func142, Tryz.ntmps142
      go_upto_region 1 with fail
      rw [← HW0.out]
      clear HW0
      have e0_W : W0.cell? ⟨w.heap.size, 0, none⟩ = some (.int .i64 T.W) := HS0.out.x.cell 0
      have e0_H : W0.cell? ⟨w.heap.size, 1, none⟩ = some (.int .i64 T.L.length) := HS0.out.x.cell 1
      clear h hk hv
      go_quiet (fail)
      have HS1 : Hid (RtS w (W0.drewN nq) D T A c vB) := Lib.hid (HS0.out.below (below_drewN W0 nq))
      generalize W0.drewN nq = w1 at HS1 ⊢
      clear e0_W e0_H
      have e1_W : w1.cell? ⟨w.heap.size, 0, none⟩ = some (.int .i64 T.W) := HS1.out.x.cell 0
      have e1_H : w1.cell? ⟨w.heap.size, 1, none⟩ = some (.int .i64 T.L.length) := HS1.out.x.cell 1
      have e1_row : w1.cell? ⟨w.heap.size, 3, none⟩ = some (.int .i64 T.row) := HS1.out.x.cell 3
      have e1_col : w1.cell? ⟨w.heap.size, 4, none⟩ = some (.int .i64 T.col) := HS1.out.x.cell 4
      go_wp2_with (first
          | ((with_reducible refine at_dst 19 ?_); refine wpList_load_mid rfl _ _ rfl w.heap.size 0 rfl (rtC T A c vB) _ HS1.out.x.whole Tryz.underlying34 rfl rt_size ?_)
          | ((with_reducible refine at_store 6 ?_); refine wpList_store_blk rfl _ _ _ rfl rfl (w.heap.size + 1) 0 _ rtZ (rtC T A c vB) rfl rfl HS1.out.z (by simp [rtC, rtZ]) rt_size (rtC_one _ _ _ HV.out) ?_; intro w9 hn9 hg9))
      exact bodyPost_ret (results_c rfl rfl hn9.whole Tryz.underlying34 rfl rt_size) rfl ⟨_, rfl, HS1.out.fin hg9⟩
  · have hf' : f = T.row := hf
    have hl' : l = T.row := hl
    subst hf' hl'
    clear hf hl
    rcases hn with rfl | rfl | rfl | ⟨n0, n1, n2⟩
    · have HE : Hid (eraseT T 0 T.row T.row = eraseRows T T.row T.col T.row (T.W - 1) (T.row + 1 - T.row)) := Lib.hid (rfl)
      rw [HE.out]
      obtain ⟨R, hR0⟩ : ∃ R, eraseRows T T.row T.col T.row (T.W - 1) (T.row + 1 - T.row) = R := ⟨_, rfl⟩
      rw [hR0]
      have HR0 := Lib.hid hR0
      clear hR0 HE
      obtain ⟨W0, HW0, HS0⟩ := rt_start (vB := vB) h
      have HV := Lib.hid hv
      go_enter Tryz.func142, Tryz.ntmps142
      go_upto_region 1 with fail
      rw [← HW0.out]
      clear HW0
      have e0_W : W0.cell? ⟨w.heap.size, 0, none⟩ = some (.int .i64 T.W) := HS0.out.x.cell 0
      have e0_H : W0.cell? ⟨w.heap.size, 1, none⟩ = some (.int .i64 T.L.length) := HS0.out.x.cell 1
      clear h hk hv
      go_quiet (fail)
      have HS1 : Hid (RtS w (W0.drewN nq) D T A c vB) := Lib.hid (HS0.out.below (below_drewN W0 nq))
      generalize W0.drewN nq = w1 at HS1 ⊢
      clear e0_W e0_H
      have e1_W : w1.cell? ⟨w.heap.size, 0, none⟩ = some (.int .i64 T.W) := HS1.out.x.cell 0
      have e1_H : w1.cell? ⟨w.heap.size, 1, none⟩ = some (.int .i64 T.L.length) := HS1.out.x.cell 1
      have e1_row : w1.cell? ⟨w.heap.size, 3, none⟩ = some (.int .i64 T.row) := HS1.out.x.cell 3
      have e1_col : w1.cell? ⟨w.heap.size, 4, none⟩ = some (.int .i64 T.col) := HS1.out.x.cell 4
      go_wp2_with (fail)
      go_quiet (fail)
      have HS2 : Hid (RtS w (w1.drewN nq) D T A c vB) := Lib.hid (HS1.out.below (below_drewN w1 nq))
      generalize w1.drewN nq = w2 at HS2 ⊢
      clear e1_W e1_H e1_row e1_col
      have e2_W : w2.cell? ⟨w.heap.size, 0, none⟩ = some (.int .i64 T.W) := HS2.out.x.cell 0
      have e2_H : w2.cell? ⟨w.heap.size, 1, none⟩ = some (.int .i64 T.L.length) := HS2.out.x.cell 1
      have e2_row : w2.cell? ⟨w.heap.size, 3, none⟩ = some (.int .i64 T.row) := HS2.out.x.cell 3
      have e2_col : w2.cell? ⟨w.heap.size, 4, none⟩ = some (.int .i64 T.col) := HS2.out.x.cell 4
      go_wp2_with (first
          | ((with_reducible refine at_dst 22 ?_); refine wpList_load_mid rfl _ _ rfl w.heap.size 0 rfl (rtC T A c vB) _ HS2.out.x.whole Tryz.underlying34 rfl rt_size ?_)
          | (go_at_call 152; refine (rerasef_z HS2.out.g HK.out HV.out T.row T.col T.row (T.W - 1) (by omega) (by omega) (by omega) (by omega) _ _ _ _ (by omega) (by omega) (by omega) (by omega) R HR0.out).mono ?_; rintro e w5 ⟨V, rfl, hr2, hb2⟩; obtain ⟨A2, c2, rfl, hr3⟩ := RtS.backT hr2 HS2.out; have HR2 := Lib.hid hr3; have HS5 := Lib.hid (HS2.out.below hb2); clear hr2 hr3 hb2 e2_W e2_H e2_row e2_col)
          | ((with_reducible refine at_store 6 ?_); refine wpList_store_blk rfl _ _ _ rfl rfl (w.heap.size + 1) 0 _ rtZ (rtC R A2 c2 vB) rfl rfl HS5.out.z (by simp [rtC, rtZ]) rt_size (rtC_one _ _ _ HV.out) ?_; intro w9 hn9 hg9))
      exact bodyPost_ret (results_c rfl rfl hn9.whole Tryz.underlying34 rfl rt_size) rfl ⟨_, rfl, HS5.out.fin2 HR2.out hg9⟩
    · have HE : Hid (eraseT T 1 T.row T.row = eraseRows T T.row 0 T.row T.col (T.row + 1 - T.row)) := Lib.hid (rfl)
      rw [HE.out]
      obtain ⟨R, hR0⟩ : ∃ R, eraseRows T T.row 0 T.row T.col (T.row + 1 - T.row) = R := ⟨_, rfl⟩
      rw [hR0]
      have HR0 := Lib.hid hR0
      clear hR0 HE
      obtain ⟨W0, HW0, HS0⟩ := rt_start (vB := vB) h
      have HV := Lib.hid hv
      go_enter Tryz.func142, Tryz.ntmps142
      go_upto_region 1 with fail
      rw [← HW0.out]
      clear HW0
      have e0_W : W0.cell? ⟨w.heap.size, 0, none⟩ = some (.int .i64 T.W) := HS0.out.x.cell 0
      have e0_H : W0.cell? ⟨w.heap.size, 1, none⟩ = some (.int .i64 T.L.length) := HS0.out.x.cell 1
      clear h hk hv
      go_quiet (fail)
      have HS1 : Hid (RtS w (W0.drewN nq) D T A c vB) := Lib.hid (HS0.out.below (below_drewN W0 nq))
      generalize W0.drewN nq = w1 at HS1 ⊢
      clear e0_W e0_H
      have e1_W : w1.cell? ⟨w.heap.size, 0, none⟩ = some (.int .i64 T.W) := HS1.out.x.cell 0
      have e1_H : w1.cell? ⟨w.heap.size, 1, none⟩ = some (.int .i64 T.L.length) := HS1.out.x.cell 1
      have e1_row : w1.cell? ⟨w.heap.size, 3, none⟩ = some (.int .i64 T.row) := HS1.out.x.cell 3
      have e1_col : w1.cell? ⟨w.heap.size, 4, none⟩ = some (.int .i64 T.col) := HS1.out.x.cell 4
      go_wp2_with (fail)
      go_quiet (fail)
      have HS2 : Hid (RtS w (w1.drewN nq) D T A c vB) := Lib.hid (HS1.out.below (below_drewN w1 nq))
      generalize w1.drewN nq = w2 at HS2 ⊢
      clear e1_W e1_H e1_row e1_col
      have e2_W : w2.cell? ⟨w.heap.size, 0, none⟩ = some (.int .i64 T.W) := HS2.out.x.cell 0
      have e2_H : w2.cell? ⟨w.heap.size, 1, none⟩ = some (.int .i64 T.L.length) := HS2.out.x.cell 1
      have e2_row : w2.cell? ⟨w.heap.size, 3, none⟩ = some (.int .i64 T.row) := HS2.out.x.cell 3
      have e2_col : w2.cell? ⟨w.heap.size, 4, none⟩ = some (.int .i64 T.col) := HS2.out.x.cell 4
      go_wp2_with (first
          | ((with_reducible refine at_dst 34 ?_); refine wpList_load_mid rfl _ _ rfl w.heap.size 0 rfl (rtC T A c vB) _ HS2.out.x.whole Tryz.underlying34 rfl rt_size ?_)
          | (go_at_call 152; refine (rerasef_z HS2.out.g HK.out HV.out T.row 0 T.row T.col (by omega) (by omega) (by omega) (by omega) _ _ _ _ (by omega) (by omega) (by omega) (by omega) R HR0.out).mono ?_; rintro e w5 ⟨V, rfl, hr2, hb2⟩; obtain ⟨A2, c2, rfl, hr3⟩ := RtS.backT hr2 HS2.out; have HR2 := Lib.hid hr3; have HS5 := Lib.hid (HS2.out.below hb2); clear hr2 hr3 hb2 e2_W e2_H e2_row e2_col)
          | ((with_reducible refine at_store 6 ?_); refine wpList_store_blk rfl _ _ _ rfl rfl (w.heap.size + 1) 0 _ rtZ (rtC R A2 c2 vB) rfl rfl HS5.out.z (by simp [rtC, rtZ]) rt_size (rtC_one _ _ _ HV.out) ?_; intro w9 hn9 hg9))
      exact bodyPost_ret (results_c rfl rfl hn9.whole Tryz.underlying34 rfl rt_size) rfl ⟨_, rfl, HS5.out.fin2 HR2.out hg9⟩
    · have HE : Hid (eraseT T 2 T.row T.row = eraseRows T T.row 0 T.row (T.W - 1) (T.row + 1 - T.row)) := Lib.hid (rfl)
      rw [HE.out]
      obtain ⟨R, hR0⟩ : ∃ R, eraseRows T T.row 0 T.row (T.W - 1) (T.row + 1 - T.row) = R := ⟨_, rfl⟩
      rw [hR0]
      have HR0 := Lib.hid hR0
      clear hR0 HE
      obtain ⟨W0, HW0, HS0⟩ := rt_start (vB := vB) h
      have HV := Lib.hid hv
      go_enter Tryz.func142, Tryz.ntmps142
      go_upto_region 1 with fail
      rw [← HW0.out]
      clear HW0
      have e0_W : W0.cell? ⟨w.heap.size, 0, none⟩ = some (.int .i64 T.W) := HS0.out.x.cell 0
      have e0_H : W0.cell? ⟨w.heap.size, 1, none⟩ = some (.int .i64 T.L.length) := HS0.out.x.cell 1
      clear h hk hv
      go_quiet (fail)
      have HS1 : Hid (RtS w (W0.drewN nq) D T A c vB) := Lib.hid (HS0.out.below (below_drewN W0 nq))
      generalize W0.drewN nq = w1 at HS1 ⊢
      clear e0_W e0_H
      have e1_W : w1.cell? ⟨w.heap.size, 0, none⟩ = some (.int .i64 T.W) := HS1.out.x.cell 0
      have e1_H : w1.cell? ⟨w.heap.size, 1, none⟩ = some (.int .i64 T.L.length) := HS1.out.x.cell 1
      have e1_row : w1.cell? ⟨w.heap.size, 3, none⟩ = some (.int .i64 T.row) := HS1.out.x.cell 3
      have e1_col : w1.cell? ⟨w.heap.size, 4, none⟩ = some (.int .i64 T.col) := HS1.out.x.cell 4
      go_wp2_with (fail)
      go_quiet (fail)
      have HS2 : Hid (RtS w (w1.drewN nq) D T A c vB) := Lib.hid (HS1.out.below (below_drewN w1 nq))
      generalize w1.drewN nq = w2 at HS2 ⊢
      clear e1_W e1_H e1_row e1_col
      have e2_W : w2.cell? ⟨w.heap.size, 0, none⟩ = some (.int .i64 T.W) := HS2.out.x.cell 0
      have e2_H : w2.cell? ⟨w.heap.size, 1, none⟩ = some (.int .i64 T.L.length) := HS2.out.x.cell 1
      have e2_row : w2.cell? ⟨w.heap.size, 3, none⟩ = some (.int .i64 T.row) := HS2.out.x.cell 3
      have e2_col : w2.cell? ⟨w.heap.size, 4, none⟩ = some (.int .i64 T.col) := HS2.out.x.cell 4
      go_wp2_with (first
          | ((with_reducible refine at_dst 44 ?_); refine wpList_load_mid rfl _ _ rfl w.heap.size 0 rfl (rtC T A c vB) _ HS2.out.x.whole Tryz.underlying34 rfl rt_size ?_)
          | (go_at_call 152; refine (rerasef_z HS2.out.g HK.out HV.out T.row 0 T.row (T.W - 1) (by omega) (by omega) (by omega) (by omega) _ _ _ _ (by omega) (by omega) (by omega) (by omega) R HR0.out).mono ?_; rintro e w5 ⟨V, rfl, hr2, hb2⟩; obtain ⟨A2, c2, rfl, hr3⟩ := RtS.backT hr2 HS2.out; have HR2 := Lib.hid hr3; have HS5 := Lib.hid (HS2.out.below hb2); clear hr2 hr3 hb2 e2_W e2_H e2_row e2_col)
          | ((with_reducible refine at_store 6 ?_); refine wpList_store_blk rfl _ _ _ rfl rfl (w.heap.size + 1) 0 _ rtZ (rtC R A2 c2 vB) rfl rfl HS5.out.z (by simp [rtC, rtZ]) rt_size (rtC_one _ _ _ HV.out) ?_; intro w9 hn9 hg9))
      exact bodyPost_ret (results_c rfl rfl hn9.whole Tryz.underlying34 rfl rt_size) rfl ⟨_, rfl, HS5.out.fin2 HR2.out hg9⟩
    · have HE : Hid (eraseT T n T.row T.row = T) := Lib.hid (by unfold eraseT; rw [if_neg n0, if_neg n1, if_neg n2])
      rw [HE.out]
      have n0' : (n == 0) = false := by simpa using n0
      have n1' : (n == 1) = false := by simpa using n1
      have n2' : (n == 2) = false := by simpa using n2
      clear n0 n1 n2
      obtain ⟨W0, HW0, HS0⟩ := rt_start (vB := vB) h
      have HV := Lib.hid hv
      go_enter Tryz.func142, Tryz.ntmps142
      go_upto_region 1 with fail
      rw [← HW0.out]
      clear HW0
      have e0_W : W0.cell? ⟨w.heap.size, 0, none⟩ = some (.int .i64 T.W) := HS0.out.x.cell 0
      have e0_H : W0.cell? ⟨w.heap.size, 1, none⟩ = some (.int .i64 T.L.length) := HS0.out.x.cell 1
      clear h hk hv
      go_quiet (fail)
      have HS1 : Hid (RtS w (W0.drewN nq) D T A c vB) := Lib.hid (HS0.out.below (below_drewN W0 nq))
      generalize W0.drewN nq = w1 at HS1 ⊢
      clear e0_W e0_H
      have e1_W : w1.cell? ⟨w.heap.size, 0, none⟩ = some (.int .i64 T.W) := HS1.out.x.cell 0
      have e1_H : w1.cell? ⟨w.heap.size, 1, none⟩ = some (.int .i64 T.L.length) := HS1.out.x.cell 1
      have e1_row : w1.cell? ⟨w.heap.size, 3, none⟩ = some (.int .i64 T.row) := HS1.out.x.cell 3
      have e1_col : w1.cell? ⟨w.heap.size, 4, none⟩ = some (.int .i64 T.col) := HS1.out.x.cell 4
      go_wp2_with (fail)
      go_quiet (fail)
      have HS2 : Hid (RtS w (w1.drewN nq) D T A c vB) := Lib.hid (HS1.out.below (below_drewN w1 nq))
      generalize w1.drewN nq = w2 at HS2 ⊢
      clear e1_W e1_H e1_row e1_col
      have e2_W : w2.cell? ⟨w.heap.size, 0, none⟩ = some (.int .i64 T.W) := HS2.out.x.cell 0
      have e2_H : w2.cell? ⟨w.heap.size, 1, none⟩ = some (.int .i64 T.L.length) := HS2.out.x.cell 1
      have e2_row : w2.cell? ⟨w.heap.size, 3, none⟩ = some (.int .i64 T.row) := HS2.out.x.cell 3
      have e2_col : w2.cell? ⟨w.heap.size, 4, none⟩ = some (.int .i64 T.col) := HS2.out.x.cell 4
      go_wp2_with (first
          | ((with_reducible refine at_dst 19 ?_); refine wpList_load_mid rfl _ _ rfl w.heap.size 0 rfl (rtC T A c vB) _ HS2.out.x.whole Tryz.underlying34 rfl rt_size ?_)
          | ((with_reducible refine at_store 6 ?_); refine wpList_store_blk rfl _ _ _ rfl rfl (w.heap.size + 1) 0 _ rtZ (rtC T A c vB) rfl rfl HS2.out.z (by simp [rtC, rtZ]) rt_size (rtC_one _ _ _ HV.out) ?_; intro w9 hn9 hg9))
      exact bodyPost_ret (results_c rfl rfl hn9.whole Tryz.underlying34 rfl rt_size) rfl ⟨_, rfl, HS2.out.fin hg9⟩
end Go.Proofs.YtfmkeeaenjeneaaGreatDoor
