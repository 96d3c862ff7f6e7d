/-
  Walks: the reference's erase and erased.
-/
import Derived.Test.YtfmkeeaenjeneaaGreatDoorRtMove
namespace Go.Proofs.YtfmkeeaenjeneaaGreatDoor
open Go.RowKit Go.Sort
set_option linter.unusedVariables false
set_option linter.unusedSimpArgs false

theorem RtS.backG {w W W' : World} {D : Nat → Prop} {T : TS} {A : Option Addr} {c : Nat} {vB V : Value} {W0 : Nat} {L0 : List (List Cl)} (hf : RfV W' (fun b => DD w D b ∨ W.heap.size ≤ b) V W0 L0) (h : RtS w W D T A c vB) : RfV W' (DD w D) V W0 L0 := by
  obtain ⟨A, c, h1, h2⟩ := hf
  exact ⟨A, c, h1, h2.mono (fun b _ hd => hd.elim id (fun hd => .inr (by have := h.size; omega)))⟩
set_option maxRecDepth 100000 in
set_option maxHeartbeats 8000000 in
theorem rerasef_any {w : World} {D : Nat → Prop} {A : Option Addr} {c : Nat} {T : TS} {vB : Value} (h : RfAt w D A c T.L) (hk : TOk T) (hv : vB.oneCell' = true) (fr fc tr tc : Nat) (h1 : fr ≤ tr + 1) (h2 : tr < T.L.length) (h3 : fc ≤ 500) (h4 : tc ≤ 500) (z : Int) (hz : z = (tc : Int) + 1) :
    Calls Tryz.prog 152 #[.agg #[.int .i64 T.W, .int .i64 T.L.length, .slice A T.L.length c, .int .i64 T.row, .int .i64 T.col, .bool T.y.b, .bool T.y.u, .bool T.y.i, .int .i64 T.y.f, .int .i64 T.y.g, .bool T.pend, .bool T.seen, .bool T.mark, .int .i64 T.bells, .int .i64 T.scr, vB, .bool T.joins, .int .i64 T.lr, .int .i64 T.lc], .int .i64 fr, .int .i64 fc, .int .i64 tr, .int .i64 z] w fun e w' => ∃ V, e = .returned V ∧ RtV w' (fun b => D b ∨ w.heap.size ≤ b) V (eraseRows T fr fc tr tc (tr + 1 - fr)) vB ∧ Below w.heap.size w w' := by
  have hh5 := hk.q.h5
  have hw5 := hk.q.w5
  obtain ⟨R, hR⟩ : ∃ R, R = eraseRows T fr fc tr tc (tr + 1 - fr) := ⟨_, rfl⟩
  rw [← hR]
  have HR := Lib.hid hR
  have HK := Lib.hid hk
  have HZ := Lib.hid hz
  have htr : (tr : Int) ≤ 499 := by omega
  have hfr : (fr : Int) ≤ 500 := by omega
  clear hR hk hz
  obtain ⟨W0, HW0, HS0⟩ := rt_start (vB := vB) h
  have HV := Lib.hid hv
  go_enter Tryz.func152, Tryz.ntmps152
  go_upto_region 1 with fail
  rw [← HW0.out]
  clear HW0
  clear h hv
  go_wp2_with (fail)
  go_loopw [11] (fun v11 wr => ∃ (i : Nat) (L1 : List (List Cl)) (A1 : Option Addr) (c1 : Nat), v11 = .int .i64 i ∧ fr ≤ i ∧ i ≤ tr + 1 ∧ R = eraseRows { T with L := L1 } fr fc tr tc (tr + 1 - i) ∧ L1.length = T.L.length ∧ Rws T.W L1 ∧ RtS w wr D { T with L := L1 } A1 c1 vB) (fun v11 _ => tr + 1 - (intOf v11).toNat)
  case atStart => exact ⟨fr, T.L, A, c, rfl, by omega, h1, HR.out, rfl, HK.out.q, HS0.out⟩
  case round =>
    obtain ⟨i, L1, A1, c1, rfl, hi0, hi1, hr, hl, hq, hs⟩ := hrel
    have HRR := Lib.hid hr
    have HL := Lib.hid hl
    have HQ := Lib.hid hq
    have HS := Lib.hid hs
    clear hr hl hq hs
    by_cases hlt : i ≤ tr
    · have hii : (i : Int) ≤ (tr : Int) := by omega
      have e_W : wr.cell? ⟨w.heap.size, 0, none⟩ = some (.int .i64 T.W) := HS.out.x.cell 0
      have e_H : wr.cell? ⟨w.heap.size, 1, none⟩ = some (.int .i64 L1.length) := HS.out.x.cell 1
      have e_L : wr.cell? ⟨w.heap.size, 2, none⟩ = some (.slice A1 L1.length c1) := HS.out.x.cell 2
      have HN : Hid (R = eraseRows { T with L := (eraseG T.W L1 i (if i = fr then (fc : Int) else 0) (if i = tr then z else (T.W : Int))).1 } fr fc tr tc (tr + 1 - (i + 1))) := Lib.hid (by
        rw [HRR.out, show tr + 1 - i = (tr + 1 - (i + 1)) + 1 by omega]
        conv => lhs; rw [eraseRows]
        simp only
        rw [show tr + 1 - (tr + 1 - (i + 1) + 1) = i by omega, HZ.out]
        have ey : (if i = tr then (tc : Int) else (T.W : Int) - 1) + 1 = if i = tr then (tc : Int) + 1 else (T.W : Int) := by split <;> omega
        rw [ey])
      have fin : ∀ (x y : Int) w3 w4 A2 c2, x = (if i = fr then (fc : Int) else 0) → y = (if i = tr then z else (T.W : Int)) → Hid (RtS w w3 D { T with L := L1 } A1 c1 vB) → Hid (RfAt w3 (DD w D) A2 c2 (eraseG T.W L1 i x y).1) → w3.grownBy w4 (some w.heap.size) → Blk w4 w.heap.size 34 (splice (rtC { T with L := L1 } A1 c1 vB) 0 (rgC T.W (eraseG T.W L1 i x y).1.length A2 c2)) →
          Hid (∃ L2, R = eraseRows { T with L := L2 } fr fc tr tc (tr + 1 - (i + 1)) ∧ L2.length = T.L.length ∧ Rws T.W L2 ∧ RtS w w4 D { T with L := L2 } A2 c2 vB) := fun x y w3 w4 A2 c2 ex ey hs hr hg hn => by
        subst ex; subst ey
        exact Lib.hid ⟨_, HN.out, by rw [eraseG_len]; exact HL.out, HQ.out.erase _ _ _, hs.out.putG hr.out hg hn⟩
      have FIN := Lib.hid fin
      clear fin HN
      by_cases hf : i = fr
      all_goals
        by_cases ht : i = tr
      all_goals
        have hfb := hf
        have htb := ht
        try have hfi : ((i : Int) == (fr : Int)) = true := by simp; omega
        try have hfi : ((i : Int) == (fr : Int)) = false := by simp; omega
        try have hti : ((i : Int) == (tr : Int)) = true := by simp; omega
        try have hti : ((i : Int) == (tr : Int)) = false := by simp; omega
        have HF := Lib.hid hf
        have HT := Lib.hid ht
        clear hf ht hfb htb
        go_wp2_with (fail)
        go_quiet (fail)
        have HSQ : Hid (RtS w (wr.drewN nq) D { T with L := L1 } A1 c1 vB) := Lib.hid (HS.out.below (below_drewN wr nq))
        generalize wr.drewN nq = w1 at HSQ ⊢
        have q_W : w1.cell? ⟨w.heap.size, 0, none⟩ = some (.int .i64 T.W) := HSQ.out.x.cell 0
        have q_H : w1.cell? ⟨w.heap.size, 1, none⟩ = some (.int .i64 L1.length) := HSQ.out.x.cell 1
        have q_L : w1.cell? ⟨w.heap.size, 2, none⟩ = some (.slice A1 L1.length c1) := HSQ.out.x.cell 2
        go_wp2_with (first
          | (go_at_call 158; refine (rerase_any HSQ.out.g HQ.out _ _ _).mono ?_; rintro e w2 ⟨V, rfl, hr2, hb2⟩; obtain ⟨A2, c2, rfl, hr3⟩ := RtS.backG hr2 HSQ.out; have HR2 := Lib.hid hr3; have HS2 := Lib.hid (HSQ.out.below hb2); clear hr2 hr3 hb2 q_W q_H q_L)
          | ((with_reducible refine at_store 40 ?_); refine wpList_store_blk rfl _ _ _ rfl rfl w.heap.size 0 _ (rtC { T with L := L1 } A1 c1 vB) (rgC T.W _ A2 c2) rfl rfl HS2.out.x (by simp [rtC, rgC]) rg_size (rgC_one _ _ _ _) ?_; intro w4 hn hg; have H4 := FIN.out _ _ _ _ _ _ (by first | rw [if_pos HF.out] | rw [if_neg HF.out]) (by first | rw [if_pos HT.out] | rw [if_neg HT.out]) HS2 HR2 hg hn; clear hn hg))
        go_roundw
        case rel =>
          obtain ⟨L2, a1, a2, a3, a4⟩ := H4.out
          exact ⟨i + 1, L2, A2, c2, by go_num, by omega, by omega, a1, a2, a3, a4⟩
        case measure => simp [intOf]; omega
    · have hii : ¬ (i : Int) ≤ (tr : Int) := by omega
      have HE : Hid (R = { T with L := L1 }) := Lib.hid (by rw [HRR.out, show tr + 1 - i = 0 by omega]; rfl)
      go_wp2_with (first
        | ((with_reducible refine at_dst 41 ?_); refine wpList_load_mid rfl _ _ rfl w.heap.size 0 rfl (rtC { T with L := L1 } A1 c1 vB) _ HS.out.x.whole Tryz.underlying34 rfl rt_size ?_)
        | ((with_reducible refine at_store 10 ?_); refine wpList_store_blk rfl _ _ _ rfl rfl (w.heap.size + 1) 0 _ rtZ (rtC { T with L := L1 } A1 c1 vB) rfl rfl HS.out.z (by simp [rtC, rtZ]) rt_size (rtC_one _ _ _ HV.out) ?_; intro w9 hn9 hg9))
      rw [HE.out]
      exact bodyPost_ret (results_c rfl rfl hn9.whole Tryz.underlying34 rfl rt_size) rfl ⟨_, rfl, HS.out.fin hg9⟩
end Go.Proofs.YtfmkeeaenjeneaaGreatDoor
