/-
  Walks: the reference's printed.
-/
import Derived.Test.YtfmkeeaenjeneaaGreatDoorRtRune
import Derived.Test.YtfmkeeaenjeneaaGreatDoorRegK
import Derived.Deep.RegionLaw
import Derived.Deep.DeepCutAuto
namespace Go.Proofs.YtfmkeeaenjeneaaGreatDoor
open Go.RowKit Go.Sort
set_option linter.unusedVariables false
set_option linter.unusedSimpArgs false

theorem enters_rputT : ∀ args w, (callFunc 122 args).run Tryz.prog w = .ok (.enter 122 args) w := enters_of Tryz.func122 (by kernel_rfl) rfl
set_option maxRecDepth 100000 in
set_option maxHeartbeats 8000000 in
theorem rprint_any {w : World} {D : Nat → Prop} {A : Option Addr} {c : Nat} {T : TS} {vB : Value} (h : RfAt w D A c T.L) (hk : TOk T) (hv : vB.oneCell' = true) (r : Int) (hof : 0 < ofI r) :
    Calls Tryz.prog 84 #[.agg #[.int .i64 T.W, .int .i64 T.L.length, .slice A T.L.length c, .int .i64 T.row, .int .i64 T.col, .bool T.y.b, .bool T.y.u, .bool T.y.i, .int .i64 T.y.f, .int .i64 T.y.g, .bool T.pend, .bool T.seen, .bool T.mark, .int .i64 T.bells, .int .i64 T.scr, vB, .bool T.joins, .int .i64 T.lr, .int .i64 T.lc], .int .i32 r] w fun e w' => ∃ V, e = .returned V ∧ RtV w' (fun b => D b ∨ w.heap.size ≤ b) V (printT T (enc (rfix r)) (ofI r).toNat) vB ∧ Below w.heap.size w w' := by
  have HK := Lib.hid hk
  obtain ⟨eb, heb⟩ : ∃ e, enc (rfix r) = e := ⟨_, rfl⟩
  have hel : eb.length ≤ 4 := by rw [← heb]; exact (enc_le (rfix r)).1
  have HEB := Lib.hid heb
  rw [heb]
  have ho01 := ofI_01 r
  obtain ⟨k, hkk⟩ : ∃ k : Nat, ofI r = (k : Int) := ⟨(ofI r).toNat, by omega⟩
  have e : (ofI r).toNat = k := by omega
  rw [e]
  have hk1 : 1 ≤ k := by omega
  have hk2 : k ≤ 2 := by omega
  have HOF : Hid (∀ W, Calls Tryz.prog 83 #[.int .i32 r] W fun e w' => e = .returned (.int .i64 k) ∧ Below W.heap.size W w') := Lib.hid (fun W => by rw [← hkk]; exact rof_any r W)
  have hcol := hk.col
  have hw5 := hk.q.w5
  have hw1 := hk.q.w1
  clear heb ho01 hkk e hof
  unfold printT
  by_cases hw : T.W < k
  · rw [if_pos hw]
    have hwi : (T.W : Int) < (k : Int) := by omega
    obtain ⟨W0, HW0, HS0⟩ := rt_start (vB := vB) h
    have HV := Lib.hid hv
    go_enter Tryz.func84, Tryz.ntmps84
    go_upto_region 1 with fail
    rw [← HW0.out]
    clear HW0
    clear h hv hk
    go_wp2_with (first
      | (go_at_call 83; refine (HOF.out _).mono ?_; rintro e w1 ⟨rfl, hb1⟩; have HS1 := Lib.hid (HS0.out.below hb1); have e1_W : w1.cell? ⟨w.heap.size, 0, none⟩ = some (.int .i64 T.W) := HS1.out.x.cell 0; clear hb1)
      | ((with_reducible refine at_store 13 ?_); refine wpList_store_cell rfl _ _ _ rfl rfl w.heap.size 16 _ (rtC T A c vB) (.bool false) rfl rfl HS1.out.x (by simp [rtC]) (by kernel_rfl) rfl ?_; intro w2 hn hg; have HS2 := Lib.hid (HS1.out.set (T' := { T with joins := false }) hg hn rfl); clear hn hg)
      | ((with_reducible refine at_dst 14 ?_); refine wpList_load_mid rfl _ _ rfl w.heap.size 0 rfl (rtC { T with joins := false } A c vB) _ HS2.out.x.whole Tryz.underlying34 rfl rt_size ?_)
      | ((with_reducible refine at_store 4 ?_); refine wpList_store_blk rfl _ _ _ rfl rfl (w.heap.size + 1) 0 _ rtZ (rtC { T with joins := false } A c vB) rfl rfl HS2.out.z (by simp [rtC, rtZ]) rt_size (rtC_one _ _ _ HV.out) ?_; intro w9 hn9 hg9))
    exact bodyPost_ret (results_c rfl rfl hn9.whole Tryz.underlying34 rfl rt_size) rfl ⟨_, rfl, HS2.out.fin hg9⟩
  · rw [if_neg hw]
    have hwi : ¬ (T.W : Int) < (k : Int) := by omega
    obtain ⟨T1, hT1⟩ : ∃ T1, T1 = (if T.pend = true ∨ T.W < T.col + k then feedT { T with col := 0 } else T) := ⟨_, rfl⟩
    rw [← hT1]
    have hk0 : TOk { T with col := 0 } := ⟨hk.q, hk.row, hw1⟩
    have hkt : TOk T1 := by rw [hT1]; split; exact hk0.feed; exact hk
    have hfit : T1.col + k ≤ T1.W := by
      rw [hT1]
      split
      · have e1 : (feedT { T with col := 0 }).col = 0 := by unfold feedT; split <;> rfl
        have e2 : (feedT { T with col := 0 }).W = T.W := by unfold feedT; split <;> rfl
        rw [e1, e2]; omega
      · next hn => exact Nat.le_of_not_lt fun h => hn (.inr h)
    have hc1 := hkt.col
    have hw15 := hkt.q.w5
    have HK0 := Lib.hid hk0
    have HKT := Lib.hid hkt
    obtain ⟨d, hd⟩ : ∃ d, d = decide (T.pend = true ∨ T.W < T.col + k) := ⟨_, rfl⟩
    have HT1 : Hid (T1 = if d = true then feedT { T with col := 0 } else T) := Lib.hid (by rw [hT1, hd]; simp)
    have HD := Lib.hid hd
    clear hT1 hd hk hk0 hkt
    obtain ⟨W0, HW0, HS0⟩ := rt_start (vB := vB) h
    have HV := Lib.hid hv
    go_enter Tryz.func84, Tryz.ntmps84
    go_upto_region 1 with fail
    rw [← HW0.out]
    clear HW0
    clear h hv
    go_upto_region 5 with (go_at_call 83; refine (HOF.out _).mono ?_; rintro e w1 ⟨rfl, hb1⟩; have HS1 := Lib.hid (HS0.out.below hb1); have e1_W : w1.cell? ⟨w.heap.size, 0, none⟩ = some (.int .i64 T.W) := HS1.out.x.cell 0; have e1_col : w1.cell? ⟨w.heap.size, 4, none⟩ = some (.int .i64 T.col) := HS1.out.x.cell 4; have e1_pend : w1.cell? ⟨w.heap.size, 10, none⟩ = some (.bool T.pend) := HS1.out.x.cell 10; clear hb1)
    go_cut [26] (fun s wx => s = .bool d ∧ w1 = wx)
    case first =>
      obtain ⟨p, hp⟩ : ∃ p, p = T.pend := ⟨_, rfl⟩
      rw [← hp] at e1_pend HD
      clear hp
      cases p
      · by_cases hc : T.W < T.col + k
        · have hci : (T.W : Int) < (T.col : Int) + (k : Int) := by omega
          have HDT := Lib.hid (show d = true by rw [HD.out]; simp [hc])
          go_wp2_with fail
          go_meet
          exact ⟨by rw [HDT.out], rfl⟩
        · have hci : ¬ (T.W : Int) < (T.col : Int) + (k : Int) := by omega
          have HDT := Lib.hid (show d = false by rw [HD.out]; simp; omega)
          go_wp2_with fail
          go_meet
          exact ⟨by rw [HDT.out], rfl⟩
      · have HDT := Lib.hid (show d = true by rw [HD.out]; simp)
        go_wp2_with fail
        go_meet
        exact ⟨by rw [HDT.out], rfl⟩
    case rest =>
    obtain ⟨rfl, rfl⟩ := hcut
    clear e1_W e1_col e1_pend HD
    go_upto_if 26 with fail
    go_cut [5] (fun s5 wx => s5 = .int .i64 k ∧ GridQ w wx D T1 vB)
    case first =>
      cases d
      · have HE := Lib.hid (show T1 = T by rw [HT1.out]; rfl)
        go_wp2_with fail
        go_meet
        exact ⟨rfl, A, c, by rw [HE.out]; exact HS1.out⟩
      · have HE := Lib.hid (show T1 = feedT { T with col := 0 } by rw [HT1.out]; rfl)
        go_wp2_with (first
            | ((with_reducible refine at_store 27 ?_); refine wpList_store_cell rfl _ _ _ rfl rfl w.heap.size 4 _ (rtC T A c vB) (.int .i64 0) rfl rfl HS1.out.x (by simp [rtC]) (by kernel_rfl) rfl ?_; intro w2 hn hg; have HS2 := Lib.hid (HS1.out.set (T' := { T with col := 0 }) hg hn rfl); clear hn hg)
            | ((with_reducible refine at_dst 28 ?_); refine wpList_load_mid rfl _ _ rfl w.heap.size 0 rfl (rtC { T with col := 0 } A c vB) _ HS2.out.x.whole Tryz.underlying34 rfl rt_size ?_)
            | (go_at_call 79; refine (rfeed_any HS2.out.g HK0.out HV.out).mono ?_; rintro e w3 ⟨V, rfl, ⟨A3, c3, rfl, hr3⟩, hb3⟩; have HR3 : Hid (RfAt w3 (DD w D) A3 c3 (feedT { T with col := 0 }).L) := Lib.hid (hr3.mono (fun b _ hd => hd.elim id (fun hd => .inr (by have := HS2.out.size; omega)))); have HS3 := Lib.hid (HS2.out.below hb3); clear hr3 hb3)
            | ((with_reducible refine at_store 2 ?_); refine wpList_store_blk rfl _ _ _ rfl rfl w.heap.size 0 _ (rtC { T with col := 0 } A c vB) (rtC (feedT { T with col := 0 }) A3 c3 vB) rfl rfl HS3.out.x (by simp [rtC]) rt_size (rtC_one _ _ _ HV.out) ?_; intro w4 hn hg; have HS4 : Hid (RtS w w4 D (feedT { T with col := 0 }) A3 c3 vB) := Lib.hid (HS3.out.put HR3.out hg hn); clear hn hg))
        go_meet
        exact ⟨rfl, A3, c3, by rw [HE.out]; exact HS4.out⟩
    case rest =>
    clear HS1 HS0 HT1
    obtain ⟨rfl, A1, c1, hS5⟩ := hcut
    have HS5 := Lib.hid hS5
    clear hS5
    generalize wc = w5 at HS5 ⊢
    have HBY3 : Hid (RunB r w5) := Lib.hid (runB r w5)
    unfold RunB at HBY3
    rw [HEB.out] at HBY3
    have HKC : Hid (∀ W, Below w5.heap.size w5 W → W.cell? ⟨w.heap.size, 0, none⟩ = some (.int .i64 T1.W) ∧ W.cell? ⟨w.heap.size, 1, none⟩ = some (.int .i64 T1.L.length) ∧ W.cell? ⟨w.heap.size, 2, none⟩ = some (.slice A1 T1.L.length c1) ∧ W.cell? ⟨w.heap.size, 3, none⟩ = some (.int .i64 T1.row) ∧ W.cell? ⟨w.heap.size, 4, none⟩ = some (.int .i64 T1.col) ∧ W.cell? ⟨w.heap.size, 5, none⟩ = some (.bool T1.y.b) ∧ W.cell? ⟨w.heap.size, 6, none⟩ = some (.bool T1.y.u) ∧ W.cell? ⟨w.heap.size, 7, none⟩ = some (.bool T1.y.i) ∧ W.cell? ⟨w.heap.size, 8, none⟩ = some (.int .i64 T1.y.f) ∧ W.cell? ⟨w.heap.size, 9, none⟩ = some (.int .i64 T1.y.g)) := Lib.hid (fun W hW => by
      have hx := (HS5.out.below hW).x
      exact ⟨hx.cell 0, hx.cell 1, hx.cell 2, hx.cell 3, hx.cell 4, hx.cell 5, hx.cell 6, hx.cell 7, hx.cell 8, hx.cell 9⟩)
    have HPUT : Hid (∀ W, Below w5.heap.size w5 W → Calls Tryz.prog 122 #[.agg #[.int .i64 T1.W, .int .i64 T1.L.length, .slice A1 T1.L.length c1], .int .i64 T1.row, .int .i64 T1.col, .string ⟨eb.toArray⟩, .int .i64 k, .agg #[.bool T1.y.b, .bool T1.y.u, .bool T1.y.i, .int .i64 T1.y.f, .int .i64 T1.y.g]] W fun e w' => ∃ A5 c5, e = .returned (.tuple #[.agg #[.int .i64 T1.W, .int .i64 ((putM T1.W T1.L T1.row T1.col eb k T1.y).1).length, .slice A5 ((putM T1.W T1.L T1.row T1.col eb k T1.y).1).length c5], .int .i64 (putM T1.W T1.L T1.row T1.col eb k T1.y).2]) ∧ RfAt w' (DD w D) A5 c5 ((putM T1.W T1.L T1.row T1.col eb k T1.y).1) ∧ Below w5.heap.size w5 w' ∧ w'.frozen? ⟨w.heap.size, 0, none⟩ = false ∧ w'.frozen? ⟨w.heap.size, 1, none⟩ = false ∧ w'.frozen? ⟨w.heap.size, 2, none⟩ = false) := Lib.hid (fun W hW => by
      have hs := HS5.out.below hW
      refine (rput_any hs.g HKT.out.q T1.row T1.col eb k T1.y (by omega)).mono ?_
      rintro e w' ⟨V, rfl, hr, hb⟩
      obtain ⟨A5, c5, rfl, hr5⟩ := RtS.backG hr hs
      have hx := (hs.below hb).x
      exact ⟨A5, c5, rfl, hr5, hW.trans (hb.mono hW.size), hx.frozen 0, hx.frozen 1, hx.frozen 2⟩)
    have HDR : Hid (Below w5.heap.size w5 w5.drew) := Lib.hid (Below.refl _ _).drew
    obtain ⟨k_W, k_H, k_L, k_row, k_col, k_b, k_u, k_i, k_f, k_g⟩ := HKC.out w5 (Below.refl _ _)
    obtain ⟨P, hP⟩ : ∃ P, P = (putM T1.W T1.L T1.row T1.col eb k T1.y).1 := ⟨_, rfl⟩
    rw [← hP] at HPUT
    have HP := Lib.hid hP
    clear hP
    go_upto_region 8 with fail
    go_cut [5] (fun s5 wx => s5 = .int .i64 k ∧ GridQ w wx D { T1 with L := P } vB)
    case first =>
      have HSd : Hid ((fun W : World => W.cell? ⟨w.heap.size, 0, none⟩ = some (.int .i64 T1.W) ∧ W.cell? ⟨w.heap.size, 1, none⟩ = some (.int .i64 T1.L.length) ∧ W.cell? ⟨w.heap.size, 2, none⟩ = some (.slice A1 T1.L.length c1) ∧ W.cell? ⟨w.heap.size, 3, none⟩ = some (.int .i64 T1.row) ∧ W.cell? ⟨w.heap.size, 4, none⟩ = some (.int .i64 T1.col) ∧ W.cell? ⟨w.heap.size, 5, none⟩ = some (.bool T1.y.b) ∧ W.cell? ⟨w.heap.size, 6, none⟩ = some (.bool T1.y.u) ∧ W.cell? ⟨w.heap.size, 7, none⟩ = some (.bool T1.y.i) ∧ W.cell? ⟨w.heap.size, 8, none⟩ = some (.int .i64 T1.y.f) ∧ W.cell? ⟨w.heap.size, 9, none⟩ = some (.int .i64 T1.y.g)) w5.drew) := Lib.hid (HKC.out _ HDR.out)
      refine wp_region_K (fun W : World => W.cell? ⟨w.heap.size, 0, none⟩ = some (.int .i64 T1.W) ∧ W.cell? ⟨w.heap.size, 1, none⟩ = some (.int .i64 T1.L.length) ∧ W.cell? ⟨w.heap.size, 2, none⟩ = some (.slice A1 T1.L.length c1) ∧ W.cell? ⟨w.heap.size, 3, none⟩ = some (.int .i64 T1.row) ∧ W.cell? ⟨w.heap.size, 4, none⟩ = some (.int .i64 T1.col) ∧ W.cell? ⟨w.heap.size, 5, none⟩ = some (.bool T1.y.b) ∧ W.cell? ⟨w.heap.size, 6, none⟩ = some (.bool T1.y.u) ∧ W.cell? ⟨w.heap.size, 7, none⟩ = some (.bool T1.y.i) ∧ W.cell? ⟨w.heap.size, 8, none⟩ = some (.int .i64 T1.y.f) ∧ W.cell? ⟨w.heap.size, 9, none⟩ = some (.int .i64 T1.y.g)) 17 (by kernel_rfl) ?_
      refine wpAnyK_take (i := 0) (v := ?v0) rfl (by kernel_rfl) (by kernel_rfl) (by kernel_rfl) (by kernel_rfl) (fun _ _ _ h => h) (Or.inl ⟨by rfl, fun w hSw => ?hy0⟩) HSd.out ?rest0
      case hy0 =>
        dsimp only at hSw
        go_simp
        try with_reducible rfl
      try simp only [Act.put, List.setIfInBounds_toArray, List.set_cons_zero, List.set_cons_succ]
      refine wpAnyK_take (i := 1) (v := ?v1) rfl (by kernel_rfl) (by kernel_rfl) (by kernel_rfl) (by kernel_rfl) (fun _ _ _ h => h) (Or.inl ⟨by rfl, fun w hSw => ?hy1⟩) HSd.out ?rest1
      case hy1 =>
        dsimp only at hSw
        go_simp
        try with_reducible rfl
      try simp only [Act.put, List.setIfInBounds_toArray, List.set_cons_zero, List.set_cons_succ]
      refine wpAnyK_take (i := 2) (v := ?v2) rfl (by kernel_rfl) (by kernel_rfl) (by kernel_rfl) (by kernel_rfl) (fun _ _ _ h => h) (Or.inl ⟨by rfl, fun w hSw => ?hy2⟩) HSd.out ?rest2
      case hy2 =>
        dsimp only at hSw
        go_simp
        try with_reducible rfl
      try simp only [Act.put, List.setIfInBounds_toArray, List.set_cons_zero, List.set_cons_succ]
      refine wpAnyK_take (i := 3) (v := ?v3) rfl (by kernel_rfl) (by kernel_rfl) (by kernel_rfl) (by kernel_rfl) (fun _ _ _ h => h) (Or.inl ⟨by rfl, fun w hSw => ?hy3⟩) HSd.out ?rest3
      case hy3 =>
        dsimp only at hSw
        go_simp
        try with_reducible rfl
      try simp only [Act.put, List.setIfInBounds_toArray, List.set_cons_zero, List.set_cons_succ]
      refine wpAnyK_take (i := 4) (v := ?v4) rfl (by kernel_rfl) (by kernel_rfl) (by kernel_rfl) (by kernel_rfl) (fun _ _ _ h => h) (Or.inl ⟨by rfl, fun w hSw => ?hy4⟩) HSd.out ?rest4
      case hy4 =>
        dsimp only at hSw
        go_simp
        try with_reducible rfl
      try simp only [Act.put, List.setIfInBounds_toArray, List.set_cons_zero, List.set_cons_succ]
      refine wpAnyK_take (i := 5) (v := ?v5) rfl (by kernel_rfl) (by kernel_rfl) (by kernel_rfl) (by kernel_rfl) (fun _ _ _ h => h) (Or.inl ⟨by rfl, fun w hSw => ?hy5⟩) HSd.out ?rest5
      case hy5 =>
        dsimp only at hSw
        go_simp
        try with_reducible rfl
      try simp only [Act.put, List.setIfInBounds_toArray, List.set_cons_zero, List.set_cons_succ]
      refine wpAnyK_take (i := 6) (v := ?v6) rfl (by kernel_rfl) (by kernel_rfl) (by kernel_rfl) (by kernel_rfl) (fun _ _ _ h => h) (Or.inl ⟨by rfl, fun w hSw => ?hy6⟩) HSd.out ?rest6
      case hy6 =>
        dsimp only at hSw
        go_simp
        try with_reducible rfl
      try simp only [Act.put, List.setIfInBounds_toArray, List.set_cons_zero, List.set_cons_succ]
      refine wpAnyK_take (i := 9) (v := ?v9) rfl (by kernel_rfl) (by kernel_rfl) (by kernel_rfl) (by kernel_rfl) (fun _ _ _ h => h) (Or.inl ⟨by rfl, fun w hSw => ?hy9⟩) HSd.out ?rest9
      case hy9 =>
        dsimp only at hSw
        go_simp
        try with_reducible rfl
      try simp only [Act.put, List.setIfInBounds_toArray, List.set_cons_zero, List.set_cons_succ]
      refine wpAnyK_take (i := 10) (v := ?v10) rfl (by kernel_rfl) (by kernel_rfl) (by kernel_rfl) (by kernel_rfl) (fun _ _ _ h => h) (Or.inl ⟨by rfl, fun w hSw => ?hy10⟩) HSd.out ?rest10
      case hy10 =>
        dsimp only at hSw
        go_simp
        try with_reducible rfl
      try simp only [Act.put, List.setIfInBounds_toArray, List.set_cons_zero, List.set_cons_succ]
      refine wpAnyK_take (i := 11) (v := ?v11) rfl (by kernel_rfl) (by kernel_rfl) (by kernel_rfl) (by kernel_rfl) (fun _ _ _ h => h) (Or.inl ⟨by rfl, fun w hSw => ?hy11⟩) HSd.out ?rest11
      case hy11 =>
        dsimp only at hSw
        go_simp
        try with_reducible rfl
      try simp only [Act.put, List.setIfInBounds_toArray, List.set_cons_zero, List.set_cons_succ]
      refine wpAnyK_only (i := 7) (by kernel_rfl) rfl (fun K hK => ?_)
      refine step_call rfl 87 _ _ rfl enters_rbytes #[.int .i32 r] (by simp [Act.eval, Act.put]) (HBY3.out _ HDR.out) ?_
      rintro e wx ⟨A4, rfl, hcv4, hcv4d, hbx⟩
      refine ⟨_, rfl, ?_⟩
      have HBX := Lib.hid hbx
      have HSx : Hid ((fun W : World => W.cell? ⟨w.heap.size, 0, none⟩ = some (.int .i64 T1.W) ∧ W.cell? ⟨w.heap.size, 1, none⟩ = some (.int .i64 T1.L.length) ∧ W.cell? ⟨w.heap.size, 2, none⟩ = some (.slice A1 T1.L.length c1) ∧ W.cell? ⟨w.heap.size, 3, none⟩ = some (.int .i64 T1.row) ∧ W.cell? ⟨w.heap.size, 4, none⟩ = some (.int .i64 T1.col) ∧ W.cell? ⟨w.heap.size, 5, none⟩ = some (.bool T1.y.b) ∧ W.cell? ⟨w.heap.size, 6, none⟩ = some (.bool T1.y.u) ∧ W.cell? ⟨w.heap.size, 7, none⟩ = some (.bool T1.y.i) ∧ W.cell? ⟨w.heap.size, 8, none⟩ = some (.int .i64 T1.y.f) ∧ W.cell? ⟨w.heap.size, 9, none⟩ = some (.int .i64 T1.y.g)) wx) := Lib.hid (HKC.out _ hbx)
      refine hK.out _ _ (.inr HSx.out) ?_
      clear hK K hbx
      try simp only [Act.put, List.setIfInBounds_toArray, List.set_cons_zero, List.set_cons_succ]
      refine wpAnyK_only (i := 8) (by kernel_rfl) rfl (fun K hK => ?_)
      go_simp
      refine hK.out _ _ (.inr HSx.out) ?_
      clear hK K
      try simp only [Act.put, List.setIfInBounds_toArray, List.set_cons_zero, List.set_cons_succ]
      refine wpAnyK_only (i := 12) (by kernel_rfl) rfl (fun K hK => ?_)
      refine step_call rfl 122 _ _ rfl enters_rputT #[.agg #[.int .i64 T1.W, .int .i64 T1.L.length, .slice A1 T1.L.length c1], .int .i64 T1.row, .int .i64 T1.col, .string ⟨eb.toArray⟩, .int .i64 k, .agg #[.bool T1.y.b, .bool T1.y.u, .bool T1.y.i, .int .i64 T1.y.f, .int .i64 T1.y.g]] (by simp [Act.eval, Act.put]) (HPUT.out _ HBX.out) ?_
      rintro e w6 ⟨A5, c5, rfl, hr5, hp5, fz0, fz1, fz2⟩
      refine ⟨_, rfl, ?_⟩
      have HR5 := Lib.hid hr5
      have HP5 := Lib.hid hp5
      have HSp : Hid ((fun W : World => W.cell? ⟨w.heap.size, 0, none⟩ = some (.int .i64 T1.W) ∧ W.cell? ⟨w.heap.size, 1, none⟩ = some (.int .i64 T1.L.length) ∧ W.cell? ⟨w.heap.size, 2, none⟩ = some (.slice A1 T1.L.length c1) ∧ W.cell? ⟨w.heap.size, 3, none⟩ = some (.int .i64 T1.row) ∧ W.cell? ⟨w.heap.size, 4, none⟩ = some (.int .i64 T1.col) ∧ W.cell? ⟨w.heap.size, 5, none⟩ = some (.bool T1.y.b) ∧ W.cell? ⟨w.heap.size, 6, none⟩ = some (.bool T1.y.u) ∧ W.cell? ⟨w.heap.size, 7, none⟩ = some (.bool T1.y.i) ∧ W.cell? ⟨w.heap.size, 8, none⟩ = some (.int .i64 T1.y.f) ∧ W.cell? ⟨w.heap.size, 9, none⟩ = some (.int .i64 T1.y.g)) w6) := Lib.hid (HKC.out _ hp5)
      refine hK.out _ _ (.inr HSp.out) ?_
      clear hK K hr5 hp5 hcv4 hcv4d
      try simp only [Act.put, List.setIfInBounds_toArray, List.set_cons_zero, List.set_cons_succ]
      refine wpAnyK_takeP (i := 13) (v := ?v13) rfl (by kernel_rfl) (by kernel_rfl) (by kernel_rfl) (by kernel_rfl) (fun _ _ _ h => h) (Or.inl ⟨by rfl, fun w hSw => ?hy13⟩) (.inr HSp.out) ?rest13
      case hy13 =>
        go_simp
        try with_reducible rfl
      try simp only [Act.put, List.setIfInBounds_toArray, List.set_cons_zero, List.set_cons_succ]
      refine wpAnyK_takeP (i := 14) (v := ?v14) rfl (by kernel_rfl) (by kernel_rfl) (by kernel_rfl) (by kernel_rfl) (fun _ _ _ h => h) (Or.inl ⟨by rfl, fun w hSw => ?hy14⟩) (.inr HSp.out) ?rest14
      case hy14 =>
        go_simp
        try with_reducible rfl
      try simp only [Act.put, List.setIfInBounds_toArray, List.set_cons_zero, List.set_cons_succ]
      refine wpAnyK_takeP (i := 15) (v := ?v15) rfl (by kernel_rfl) (by kernel_rfl) (by kernel_rfl) (by kernel_rfl) (fun _ _ _ h => h) (Or.inl ⟨by rfl, fun w hSw => ?hy15⟩) (.inr HSp.out) ?rest15
      case hy15 =>
        go_simp
        try with_reducible rfl
      try simp only [Act.put, List.setIfInBounds_toArray, List.set_cons_zero, List.set_cons_succ]
      refine wpAnyK_takeP (i := 16) (v := ?v16) rfl (by kernel_rfl) (by kernel_rfl) (by kernel_rfl) (by kernel_rfl) (fun _ _ _ h => h) (Or.inl ⟨by rfl, fun w hSw => ?hy16⟩) (.inr HSp.out) ?rest16
      case hy16 =>
        go_simp
        try with_reducible rfl
      try simp only [Act.put, List.setIfInBounds_toArray, List.set_cons_zero, List.set_cons_succ]
      refine wpAnyK_only (i := 17) (by kernel_rfl) rfl (fun K hK => ?_)
      obtain ⟨j0, j1, j2, _⟩ := HKC.out _ HP5.out
      go_simp
      refine hK.out _ _ (.inl (by kernel_rfl)) ?_
      clear hK K
      try simp only [Act.put, List.setIfInBounds_toArray, List.set_cons_zero, List.set_cons_succ]
      refine wpAnyK_done (by kernel_rfl) ?_ _
      go_wp2_with fail
      go_meet
      exact ⟨rfl, A5, c5, gridP_fin HS5.out HR5.out HP5.out⟩
    case rest =>
    clear k_W k_H k_L k_row k_col k_b k_u k_i k_f k_g HPUT HKC HBY3 HDR
    obtain ⟨rfl, A7, c7, hS7⟩ := hcut
    have HS7 := Lib.hid hS7
    clear hS7 HS5
    generalize wc = w7 at HS7 ⊢
    have e7_row : w7.cell? ⟨w.heap.size, 3, none⟩ = some (.int .i64 T1.row) := HS7.out.x.cell 3
    have e7_col : w7.cell? ⟨w.heap.size, 4, none⟩ = some (.int .i64 T1.col) := HS7.out.x.cell 4
    by_cases hce : T1.col + k = T1.W
    · have hcei : (T1.col : Int) + (k : Int) = (T1.W : Int) := by omega
      have hge : (T1.W : Int) ≤ (T1.col : Int) + (k : Int) := by omega
      have hwm : ((T1.W - 1 : Nat) : Int) = (T1.W : Int) - 1 := by omega
      have hck : ((T1.col + k : Nat) : Int) = (T1.col : Int) + (k : Int) := by omega
      have HCK := Lib.hid hck
      have HWM := Lib.hid hwm
      have HCE := Lib.hid hce
      clear hcei hce hwm hck
      go_wp2_with (first
        | ((with_reducible refine at_store 51 ?_); refine wpList_store_cell rfl _ _ _ rfl rfl w.heap.size 16 _ (rtC { T1 with L := P } A7 c7 vB) (.bool true) rfl rfl HS7.out.x (by simp [rtC]) (by kernel_rfl) rfl ?_; intro w8 hn hg; have HS8 : Hid (RtS w w8 D { T1 with L := P, joins := true } A7 c7 vB) := Lib.hid (HS7.out.set (T' := { T1 with L := P, joins := true }) hg hn rfl); have e8_row : w8.cell? ⟨w.heap.size, 3, none⟩ = some (.int .i64 T1.row) := HS8.out.x.cell 3; have e8_col : w8.cell? ⟨w.heap.size, 4, none⟩ = some (.int .i64 T1.col) := HS8.out.x.cell 4; clear hn hg e7_row e7_col)
        | ((with_reducible refine at_store 52 ?_); refine wpList_store_cell rfl _ _ _ rfl rfl w.heap.size 17 _ (rtC { T1 with L := P, joins := true } A7 c7 vB) (.int .i64 T1.row) rfl rfl HS8.out.x (by simp [rtC]) (by kernel_rfl) rfl ?_; intro w9 hn hg; have HS9 : Hid (RtS w w9 D { T1 with L := P, joins := true, lr := T1.row } A7 c7 vB) := Lib.hid (HS8.out.set (T' := { T1 with L := P, joins := true, lr := T1.row }) hg hn rfl); clear hn hg)
        | ((with_reducible refine at_store 53 ?_); refine wpList_store_cell rfl _ _ _ rfl rfl w.heap.size 18 _ (rtC { T1 with L := P, joins := true, lr := T1.row } A7 c7 vB) (.int .i64 T1.col) rfl rfl HS9.out.x (by simp [rtC]) (by kernel_rfl) rfl ?_; intro w10 hn hg; have HS10 : Hid (RtS w w10 D { T1 with L := P, joins := true, lr := T1.row, lc := T1.col } A7 c7 vB) := Lib.hid (HS9.out.set (T' := { T1 with L := P, joins := true, lr := T1.row, lc := T1.col }) hg hn rfl); have e10_W : w10.cell? ⟨w.heap.size, 0, none⟩ = some (.int .i64 T1.W) := HS10.out.x.cell 0; have e10_col : w10.cell? ⟨w.heap.size, 4, none⟩ = some (.int .i64 T1.col) := HS10.out.x.cell 4; clear hn hg e8_row e8_col)
        | ((with_reducible refine at_store 58 ?_); refine wpList_store_cell rfl _ _ _ rfl rfl w.heap.size 4 _ (rtC { T1 with L := P, joins := true, lr := T1.row, lc := T1.col } A7 c7 vB) (.int .i64 ((T1.col : Int) + (k : Int))) rfl rfl HS10.out.x (by simp [rtC]) (by kernel_rfl) rfl ?_; intro w11 hn hg; rw [← HCK.out] at hn; have HS11 : Hid (RtS w w11 D { T1 with L := P, joins := true, lr := T1.row, lc := T1.col, col := T1.col + k } A7 c7 vB) := Lib.hid (HS10.out.set (T' := { T1 with L := P, joins := true, lr := T1.row, lc := T1.col, col := T1.col + k }) hg hn rfl); have e11_W : w11.cell? ⟨w.heap.size, 0, none⟩ = some (.int .i64 T1.W) := HS11.out.x.cell 0; have e11_col : w11.cell? ⟨w.heap.size, 4, none⟩ = some (.int .i64 ((T1.col : Int) + (k : Int))) := (by rw [← HCK.out]; exact HS11.out.x.cell 4); clear hn hg e10_W e10_col)
        | ((with_reducible refine at_store 69 ?_); refine wpList_store_cell rfl _ _ _ rfl rfl w.heap.size 4 _ (rtC { T1 with L := P, joins := true, lr := T1.row, lc := T1.col, col := T1.col + k } A7 c7 vB) (.int .i64 ((T1.W : Int) - 1)) rfl rfl HS11.out.x (by simp [rtC]) (by kernel_rfl) rfl ?_; intro w12 hn hg; rw [← HWM.out] at hn; have HS12 : Hid (RtS w w12 D { T1 with L := P, joins := true, lr := T1.row, lc := T1.col, col := T1.W - 1 } A7 c7 vB) := Lib.hid (HS11.out.set (T' := { T1 with L := P, joins := true, lr := T1.row, lc := T1.col, col := T1.W - 1 }) hg hn rfl); clear hn hg e11_W e11_col)
        | ((with_reducible refine at_store 70 ?_); refine wpList_store_cell rfl _ _ _ rfl rfl w.heap.size 10 _ (rtC { T1 with L := P, joins := true, lr := T1.row, lc := T1.col, col := T1.W - 1 } A7 c7 vB) (.bool true) rfl rfl HS12.out.x (by simp [rtC]) (by kernel_rfl) rfl ?_; intro w13 hn hg; have HS13 : Hid (RtS w w13 D { T1 with L := P, joins := true, lr := T1.row, lc := T1.col, col := T1.W - 1, pend := true } A7 c7 vB) := Lib.hid (HS12.out.set (T' := { T1 with L := P, joins := true, lr := T1.row, lc := T1.col, col := T1.W - 1, pend := true }) hg hn rfl); clear hn hg)
        | ((with_reducible refine at_dst 71 ?_); refine wpList_load_mid rfl _ _ rfl w.heap.size 0 rfl (rtC { T1 with L := P, joins := true, lr := T1.row, lc := T1.col, col := T1.W - 1, pend := true } A7 c7 vB) _ HS13.out.x.whole Tryz.underlying34 rfl rt_size ?_)
        | ((with_reducible refine at_store 4 ?_); refine wpList_store_blk rfl _ _ _ rfl rfl (w.heap.size + 1) 0 _ rtZ (rtC { T1 with L := P, joins := true, lr := T1.row, lc := T1.col, col := T1.W - 1, pend := true } A7 c7 vB) rfl rfl HS13.out.z (by simp [rtC, rtZ]) rt_size (rtC_one _ _ _ HV.out) ?_; intro w9 hn9 hg9))
      have hE : storeT T1 eb k = { T1 with L := P, joins := true, lr := T1.row, lc := T1.col, col := T1.W - 1, pend := true } := by
        unfold storeT
        rw [if_pos HCE.out, if_pos HCE.out, ← HP.out]
      rw [hE]
      exact bodyPost_ret (results_c rfl rfl hn9.whole Tryz.underlying34 rfl rt_size) rfl ⟨_, rfl, HS13.out.fin hg9⟩
    · have hge : ¬ (T1.W : Int) ≤ (T1.col : Int) + (k : Int) := by omega
      have hck : ((T1.col + k : Nat) : Int) = (T1.col : Int) + (k : Int) := by omega
      have HCK := Lib.hid hck
      have HCE := Lib.hid hce
      clear hce hck
      go_wp2_with (first
        | ((with_reducible refine at_store 51 ?_); refine wpList_store_cell rfl _ _ _ rfl rfl w.heap.size 16 _ (rtC { T1 with L := P } A7 c7 vB) (.bool true) rfl rfl HS7.out.x (by simp [rtC]) (by kernel_rfl) rfl ?_; intro w8 hn hg; have HS8 : Hid (RtS w w8 D { T1 with L := P, joins := true } A7 c7 vB) := Lib.hid (HS7.out.set (T' := { T1 with L := P, joins := true }) hg hn rfl); have e8_row : w8.cell? ⟨w.heap.size, 3, none⟩ = some (.int .i64 T1.row) := HS8.out.x.cell 3; have e8_col : w8.cell? ⟨w.heap.size, 4, none⟩ = some (.int .i64 T1.col) := HS8.out.x.cell 4; clear hn hg e7_row e7_col)
        | ((with_reducible refine at_store 52 ?_); refine wpList_store_cell rfl _ _ _ rfl rfl w.heap.size 17 _ (rtC { T1 with L := P, joins := true } A7 c7 vB) (.int .i64 T1.row) rfl rfl HS8.out.x (by simp [rtC]) (by kernel_rfl) rfl ?_; intro w9 hn hg; have HS9 : Hid (RtS w w9 D { T1 with L := P, joins := true, lr := T1.row } A7 c7 vB) := Lib.hid (HS8.out.set (T' := { T1 with L := P, joins := true, lr := T1.row }) hg hn rfl); clear hn hg)
        | ((with_reducible refine at_store 53 ?_); refine wpList_store_cell rfl _ _ _ rfl rfl w.heap.size 18 _ (rtC { T1 with L := P, joins := true, lr := T1.row } A7 c7 vB) (.int .i64 T1.col) rfl rfl HS9.out.x (by simp [rtC]) (by kernel_rfl) rfl ?_; intro w10 hn hg; have HS10 : Hid (RtS w w10 D { T1 with L := P, joins := true, lr := T1.row, lc := T1.col } A7 c7 vB) := Lib.hid (HS9.out.set (T' := { T1 with L := P, joins := true, lr := T1.row, lc := T1.col }) hg hn rfl); have e10_W : w10.cell? ⟨w.heap.size, 0, none⟩ = some (.int .i64 T1.W) := HS10.out.x.cell 0; have e10_col : w10.cell? ⟨w.heap.size, 4, none⟩ = some (.int .i64 T1.col) := HS10.out.x.cell 4; clear hn hg e8_row e8_col)
        | ((with_reducible refine at_store 58 ?_); refine wpList_store_cell rfl _ _ _ rfl rfl w.heap.size 4 _ (rtC { T1 with L := P, joins := true, lr := T1.row, lc := T1.col } A7 c7 vB) (.int .i64 ((T1.col : Int) + (k : Int))) rfl rfl HS10.out.x (by simp [rtC]) (by kernel_rfl) rfl ?_; intro w11 hn hg; rw [← HCK.out] at hn; have HS11 : Hid (RtS w w11 D { T1 with L := P, joins := true, lr := T1.row, lc := T1.col, col := T1.col + k } A7 c7 vB) := Lib.hid (HS10.out.set (T' := { T1 with L := P, joins := true, lr := T1.row, lc := T1.col, col := T1.col + k }) hg hn rfl); have e11_W : w11.cell? ⟨w.heap.size, 0, none⟩ = some (.int .i64 T1.W) := HS11.out.x.cell 0; have e11_col : w11.cell? ⟨w.heap.size, 4, none⟩ = some (.int .i64 ((T1.col : Int) + (k : Int))) := (by rw [← HCK.out]; exact HS11.out.x.cell 4); clear hn hg e10_W e10_col)
        | ((with_reducible refine at_dst 71 ?_); refine wpList_load_mid rfl _ _ rfl w.heap.size 0 rfl (rtC { T1 with L := P, joins := true, lr := T1.row, lc := T1.col, col := T1.col + k } A7 c7 vB) _ HS11.out.x.whole Tryz.underlying34 rfl rt_size ?_)
        | ((with_reducible refine at_store 4 ?_); refine wpList_store_blk rfl _ _ _ rfl rfl (w.heap.size + 1) 0 _ rtZ (rtC { T1 with L := P, joins := true, lr := T1.row, lc := T1.col, col := T1.col + k } A7 c7 vB) rfl rfl HS11.out.z (by simp [rtC, rtZ]) rt_size (rtC_one _ _ _ HV.out) ?_; intro w9 hn9 hg9))
      have hE : storeT T1 eb k = { T1 with L := P, joins := true, lr := T1.row, lc := T1.col, col := T1.col + k } := by
        unfold storeT
        rw [if_neg HCE.out, if_neg HCE.out, ← HP.out]
      rw [hE]
      exact bodyPost_ret (results_c rfl rfl hn9.whole Tryz.underlying34 rfl rt_size) rfl ⟨_, rfl, HS11.out.fin hg9⟩
end Go.Proofs.YtfmkeeaenjeneaaGreatDoor
