/-
  Walks: the reference's moved and control.
-/
import Derived.Test.YtfmkeeaenjeneaaGreatDoorRtFeed
import Derived.Test.YtfmkeeaenjeneaaGreatDoorRtOk
namespace Go.Proofs.YtfmkeeaenjeneaaGreatDoor
open Go.RowKit Go.Sort
set_option linter.unusedVariables false
set_option linter.unusedSimpArgs false

theorem RtS.backT {w W W' : World} {D : Nat → Prop} {T T' : TS} {A : Option Addr} {c : Nat} {vB vC V : Value} (hf : RtV W' (fun b => DD w D b ∨ W.heap.size ≤ b) V T' vC) (h : RtS w W D T A c vB) : RtV W' (DD w D) V T' vC :=
  hf.mono (fun b _ hd => hd.elim id (fun hd => .inr (by have := h.size; omega)))
set_option maxRecDepth 100000 in
set_option maxHeartbeats 8000000 in
theorem rmoved_any {w : World} {D : Nat → Prop} {A : Option Addr} {c : Nat} {T : TS} {vB : Value} (h : RfAt w D A c T.L) (hk : TOk T) (hv : vB.oneCell' = true) (row col : Int) (r0 : -9223372036854775808 ≤ row) (r1 : row ≤ 9223372036854775807) (c0 : -9223372036854775808 ≤ col) (c1 : col ≤ 9223372036854775807) :
    Calls Tryz.prog 141 #[.agg #[.int .i64 T.W, .int .i64 T.L.length, .slice A T.L.length c, .int .i64 T.row, .int .i64 T.col, .bool T.y.b, .bool T.y.u, .bool T.y.i, .int .i64 T.y.f, .int .i64 T.y.g, .bool T.pend, .bool T.seen, .bool T.mark, .int .i64 T.bells, .int .i64 T.scr, vB, .bool T.joins, .int .i64 T.lr, .int .i64 T.lc], .int .i64 row, .int .i64 col] w fun e w' => ∃ V, e = .returned V ∧ RtV w' (fun b => D b ∨ w.heap.size ≤ b) V (moveT T row col) vB ∧ Below w.heap.size w w' := by
  have hh1 := hk.q.h1
  have hh5 := hk.q.h5
  have hw1 := hk.q.w1
  have hw5 := hk.q.w5
  have HM1 : Hid (max 0 (min row ((T.L.length : Int) - 1)) = (wi row T.L.length : Int)) := Lib.hid (by unfold wi; omega)
  have HM2 : Hid (max 0 (min col ((T.W : Int) - 1)) = (wi col T.W : Int)) := Lib.hid (by unfold wi; omega)
  obtain ⟨W0, HW0, HS0⟩ := rt_start (vB := vB) h
  have HV := Lib.hid hv
  go_enter Tryz.func141, Tryz.ntmps141
  go_upto_region 1 with fail
  rw [← HW0.out]
  clear HW0
  have e0_H : W0.cell? ⟨w.heap.size, 1, none⟩ = some (.int .i64 T.L.length) := HS0.out.x.cell 1
  have e0_W : W0.cell? ⟨w.heap.size, 0, none⟩ = some (.int .i64 T.W) := HS0.out.x.cell 0
  have hhi : (T.L.length : Int) ≤ 500 := by omega
  have hwi : (T.W : Int) ≤ 500 := by omega
  clear h hk hv
  go_wp2_with (first
      | ((with_reducible refine at_store 21 ?_); refine wpList_store_cell rfl _ _ _ rfl rfl w.heap.size 3 _ (rtC T A c vB) (.int .i64 (max 0 (min row ((T.L.length : Int) - 1)))) rfl rfl HS0.out.x (by simp [rtC]) (by kernel_rfl) rfl ?_; intro w1 hn hg; rw [HM1.out] at hn; have HS1 := Lib.hid (HS0.out.set (T' := { T with row := wi row T.L.length }) hg hn rfl); clear hn hg)
      | ((with_reducible refine at_store 22 ?_); refine wpList_store_cell rfl _ _ _ rfl rfl w.heap.size 4 _ (rtC { T with row := wi row T.L.length } A c vB) (.int .i64 (max 0 (min col ((T.W : Int) - 1)))) rfl rfl HS1.out.x (by simp [rtC]) (by kernel_rfl) rfl ?_; intro w2 hn hg; rw [HM2.out] at hn; have HS2 := Lib.hid (HS1.out.set (T' := { T with row := wi row T.L.length, col := wi col T.W }) hg hn rfl); clear hn hg)
      | ((with_reducible refine at_store 23 ?_); refine wpList_store_cell rfl _ _ _ rfl rfl w.heap.size 10 _ (rtC { T with row := wi row T.L.length, col := wi col T.W } A c vB) (.bool false) rfl rfl HS2.out.x (by simp [rtC]) (by kernel_rfl) rfl ?_; intro w3 hn hg; have HS3 := Lib.hid (HS2.out.set (T' := (moveT T row col)) hg hn rfl); clear hn hg)
      | ((with_reducible refine at_dst 24 ?_); refine wpList_load_mid rfl _ _ rfl w.heap.size 0 rfl (rtC (moveT T row col) A c vB) _ HS3.out.x.whole Tryz.underlying34 rfl rt_size ?_)
      | ((with_reducible refine at_store 6 ?_); refine wpList_store_blk rfl _ _ _ rfl rfl (w.heap.size + 1) 0 _ rtZ (rtC (moveT T row col) A c vB) rfl rfl HS3.out.z (by simp [rtC, rtZ]) rt_size (rtC_one _ _ _ HV.out) ?_; intro w9 hn9 hg9))
  exact bodyPost_ret (results_c rfl rfl hn9.whole Tryz.underlying34 rfl rt_size) rfl ⟨_, rfl, HS3.out.fin hg9⟩

theorem ctl_cases (T : TS) (c : UInt8) : ((c.toNat : Int) = 7 ∧ ctlT T c = { T with joins := false, bells := wrap64 (T.bells + 1) }) ∨ ((c.toNat : Int) = 8 ∧ ctlT T c = moveT { T with joins := false } T.row ((T.col : Int) - 1)) ∨ ((c.toNat : Int) = 9 ∧ ctlT T c = moveT { T with joins := false } T.row (((T.col : Int) / 8 + 1) * 8)) ∨ ((c.toNat : Int) = 10 ∧ ctlT T c = feedT { T with joins := false }) ∨ ((c.toNat : Int) = 13 ∧ ctlT T c = moveT { T with joins := false } T.row 0) ∨ (((c.toNat : Int) ≠ 7 ∧ (c.toNat : Int) ≠ 8 ∧ (c.toNat : Int) ≠ 9 ∧ (c.toNat : Int) ≠ 10 ∧ (c.toNat : Int) ≠ 13) ∧ ctlT T c = { T with joins := false }) := by
  have HN : ∀ n : Nat, n < 256 → ((c.toNat : Int) = n ↔ c = UInt8.ofNat n) := by
    intro n hn
    constructor
    · intro e
      apply UInt8.toNat_inj.1
      rw [UInt8.toNat_ofNat']
      omega
    · rintro rfl
      rw [UInt8.toNat_ofNat']
      omega
  have n7 := HN 7 (by omega)
  have n8 := HN 8 (by omega)
  have n9 := HN 9 (by omega)
  have n10 := HN 10 (by omega)
  have n13 := HN 13 (by omega)
  by_cases a7 : c = UInt8.ofNat 7
  · exact .inl ⟨n7.2 a7, by rw [a7, ← w64]; rfl⟩
  · by_cases a8 : c = UInt8.ofNat 8
    · exact .inr (.inl ⟨n8.2 a8, by rw [a8]; rfl⟩)
    · by_cases a9 : c = UInt8.ofNat 9
      · exact .inr (.inr (.inl ⟨n9.2 a9, by rw [a9]; exact congrArg (moveT _ _) (by show (((T.col / 8 + 1) * 8 : Nat) : Int) = ((T.col : Int) / 8 + 1) * 8; omega)⟩))
      · by_cases a10 : c = UInt8.ofNat 10
        · exact .inr (.inr (.inr (.inl ⟨n10.2 a10, by rw [a10]; rfl⟩)))
        · by_cases a13 : c = UInt8.ofNat 13
          · exact .inr (.inr (.inr (.inr (.inl ⟨n13.2 a13, by rw [a13]; rfl⟩))))
          · refine .inr (.inr (.inr (.inr (.inr ⟨⟨fun e => a7 (n7.1 e), fun e => a8 (n8.1 e), fun e => a9 (n9.1 e), fun e => a10 (n10.1 e), fun e => a13 (n13.1 e)⟩, ?_⟩))))
            unfold ctlT
            dsimp only
            rw [if_neg (show ¬ c = 7 from a7), if_neg (show ¬ c = 8 from a8), if_neg (show ¬ c = 9 from a9), if_neg (show ¬ c = 10 from a10), if_neg (show ¬ c = 13 from a13)]
theorem wi_self {i n : Nat} (h : i < n) : wi (i : Int) n = i := by unfold wi; omega

set_option maxRecDepth 100000 in
set_option maxHeartbeats 8000000 in
theorem rcontrol_any {w : World} {D : Nat → Prop} {A : Option Addr} {c : Nat} {T : TS} {vB : Value} (h : RfAt w D A c T.L) (hk : TOk T) (hv : vB.oneCell' = true) (b : UInt8) :
    Calls Tryz.prog 55 #[.agg #[.int .i64 T.W, .int .i64 T.L.length, .slice A T.L.length c, .int .i64 T.row, .int .i64 T.col, .bool T.y.b, .bool T.y.u, .bool T.y.i, .int .i64 T.y.f, .int .i64 T.y.g, .bool T.pend, .bool T.seen, .bool T.mark, .int .i64 T.bells, .int .i64 T.scr, vB, .bool T.joins, .int .i64 T.lr, .int .i64 T.lc], .int .u8 b.toNat] w fun e w' => ∃ V, e = .returned V ∧ RtV w' (fun b => D b ∨ w.heap.size ≤ b) V (ctlT T b) vB ∧ Below w.heap.size w w' := by
  have hrow := hk.row
  have hcol := hk.col
  have hw1 := hk.q.w1
  have hw5 := hk.q.w5
  have hci : (T.col : Int) ≤ 500 := by omega
  have hwi : (T.W : Int) ≤ 500 := by omega
  have hbd : 0 ≤ (b.toNat : Int) ∧ (b.toNat : Int) ≤ 255 := by have := b.toNat_lt; omega
  have hk1 : TOk { T with joins := false } := ⟨hk.q, hk.row, hk.col⟩
  rcases ctl_cases T b with ⟨hb, hr⟩ | ⟨hb, hr⟩ | ⟨hb, hr⟩ | ⟨hb, hr⟩ | ⟨hb, hr⟩ | ⟨⟨b7, b8, b9, b10, b13⟩, hr⟩
  · rw [hr]
    obtain ⟨W0, HW0, HS0⟩ := rt_start (vB := vB) h
    have HV := Lib.hid hv
    go_enter Tryz.func55, Tryz.ntmps55
    go_upto_region 1 with fail
    rw [← HW0.out]
    clear HW0
    clear h hk hv hr hk1
    go_wp2_with (first
        | ((with_reducible refine at_store 5 ?_); refine wpList_store_cell rfl _ _ _ rfl rfl w.heap.size 16 _ (rtC T A c vB) (.bool false) rfl rfl HS0.out.x (by simp [rtC]) (by kernel_rfl) rfl ?_; intro w1 hn hg; have HS1 := Lib.hid (HS0.out.set (T' := { T with joins := false }) hg hn rfl); have e1_bells : w1.cell? ⟨w.heap.size, 13, none⟩ = some (.int .i64 { T with joins := false }.bells) := HS1.out.x.cell 13; clear hn hg)
        | ((with_reducible refine at_store 12 ?_); refine wpList_store_cell rfl _ _ _ rfl rfl w.heap.size 13 _ (rtC { T with joins := false } A c vB) (.int .i64 (wrap64 (T.bells + 1))) rfl rfl HS1.out.x (by simp [rtC]) (by kernel_rfl) rfl ?_; intro w2 hn hg; have HS2 := Lib.hid (HS1.out.set (T' := { T with joins := false, bells := wrap64 (T.bells + 1) }) hg hn rfl); clear hn hg e1_bells)
        | ((with_reducible refine at_dst 43 ?_); refine wpList_load_mid rfl _ _ rfl w.heap.size 0 rfl (rtC { T with joins := false, bells := wrap64 (T.bells + 1) } A c vB) _ HS2.out.x.whole Tryz.underlying34 rfl rt_size ?_)
        | ((with_reducible refine at_store 4 ?_); refine wpList_store_blk rfl _ _ _ rfl rfl (w.heap.size + 1) 0 _ rtZ (rtC { T with joins := false, bells := wrap64 (T.bells + 1) } A c vB) rfl rfl HS2.out.z (by simp [rtC, rtZ]) rt_size (rtC_one _ _ _ HV.out) ?_; intro w9 hn9 hg9))
    exact bodyPost_ret (results_c rfl rfl hn9.whole Tryz.underlying34 rfl rt_size) rfl ⟨_, rfl, HS2.out.fin hg9⟩
  · rw [hr]
    have HM : Hid (max 0 ((T.col : Int) - 1) = (wi ((T.col : Int) - 1) T.W : Int)) := Lib.hid (by unfold wi; omega)
    have HR : Hid (moveT { T with joins := false } T.row ((T.col : Int) - 1) = { T with joins := false, col := wi ((T.col : Int) - 1) T.W, pend := false }) := Lib.hid (by unfold moveT; simp only; rw [wi_self hrow])
    rw [HR.out]
    obtain ⟨W0, HW0, HS0⟩ := rt_start (vB := vB) h
    have HV := Lib.hid hv
    go_enter Tryz.func55, Tryz.ntmps55
    go_upto_region 1 with fail
    rw [← HW0.out]
    clear HW0
    clear h hk hv hr hk1
    go_wp2_with (first
        | ((with_reducible refine at_store 5 ?_); refine wpList_store_cell rfl _ _ _ rfl rfl w.heap.size 16 _ (rtC T A c vB) (.bool false) rfl rfl HS0.out.x (by simp [rtC]) (by kernel_rfl) rfl ?_; intro w1 hn hg; have HS1 := Lib.hid (HS0.out.set (T' := { T with joins := false }) hg hn rfl); have e1_col : w1.cell? ⟨w.heap.size, 4, none⟩ = some (.int .i64 { T with joins := false }.col) := HS1.out.x.cell 4; clear hn hg)
        | ((with_reducible refine at_store 19 ?_); refine wpList_store_cell rfl _ _ _ rfl rfl w.heap.size 4 _ (rtC { T with joins := false } A c vB) (.int .i64 (max 0 ((T.col : Int) - 1))) rfl rfl HS1.out.x (by simp [rtC]) (by kernel_rfl) rfl ?_; intro w2 hn hg; rw [HM.out] at hn; have HS2 := Lib.hid (HS1.out.set (T' := { T with joins := false, col := wi ((T.col : Int) - 1) T.W }) hg hn rfl); clear hn hg e1_col)
        | ((with_reducible refine at_store 20 ?_); refine wpList_store_cell rfl _ _ _ rfl rfl w.heap.size 10 _ (rtC { T with joins := false, col := wi ((T.col : Int) - 1) T.W } A c vB) (.bool false) rfl rfl HS2.out.x (by simp [rtC]) (by kernel_rfl) rfl ?_; intro w3 hn hg; have HS3 := Lib.hid (HS2.out.set (T' := { T with joins := false, col := wi ((T.col : Int) - 1) T.W, pend := false }) hg hn rfl); clear hn hg)
        | ((with_reducible refine at_dst 43 ?_); refine wpList_load_mid rfl _ _ rfl w.heap.size 0 rfl (rtC { T with joins := false, col := wi ((T.col : Int) - 1) T.W, pend := false } A c vB) _ HS3.out.x.whole Tryz.underlying34 rfl rt_size ?_)
        | ((with_reducible refine at_store 4 ?_); refine wpList_store_blk rfl _ _ _ rfl rfl (w.heap.size + 1) 0 _ rtZ (rtC { T with joins := false, col := wi ((T.col : Int) - 1) T.W, pend := false } A c vB) rfl rfl HS3.out.z (by simp [rtC, rtZ]) rt_size (rtC_one _ _ _ HV.out) ?_; intro w9 hn9 hg9))
    exact bodyPost_ret (results_c rfl rfl hn9.whole Tryz.underlying34 rfl rt_size) rfl ⟨_, rfl, HS3.out.fin hg9⟩
  · rw [hr]
    have HM : Hid (min ((T.W : Int) - 1) ((T.col : Int) / 8 * 8 + 8) = (wi (((T.col : Int) / 8 + 1) * 8) T.W : Int)) := Lib.hid (by unfold wi; omega)
    have HR : Hid (moveT { T with joins := false } T.row (((T.col : Int) / 8 + 1) * 8) = { T with joins := false, col := wi (((T.col : Int) / 8 + 1) * 8) T.W, pend := false }) := Lib.hid (by unfold moveT; simp only; rw [wi_self hrow])
    rw [HR.out]
    obtain ⟨W0, HW0, HS0⟩ := rt_start (vB := vB) h
    have HV := Lib.hid hv
    go_enter Tryz.func55, Tryz.ntmps55
    go_upto_region 1 with fail
    rw [← HW0.out]
    clear HW0
    clear h hk hv hr hk1
    go_wp2_with (first
        | ((with_reducible refine at_store 5 ?_); refine wpList_store_cell rfl _ _ _ rfl rfl w.heap.size 16 _ (rtC T A c vB) (.bool false) rfl rfl HS0.out.x (by simp [rtC]) (by kernel_rfl) rfl ?_; intro w1 hn hg; have HS1 := Lib.hid (HS0.out.set (T' := { T with joins := false }) hg hn rfl); have e1_W : w1.cell? ⟨w.heap.size, 0, none⟩ = some (.int .i64 { T with joins := false }.W) := HS1.out.x.cell 0; have e1_col : w1.cell? ⟨w.heap.size, 4, none⟩ = some (.int .i64 { T with joins := false }.col) := HS1.out.x.cell 4; clear hn hg)
        | ((with_reducible refine at_store 33 ?_); refine wpList_store_cell rfl _ _ _ rfl rfl w.heap.size 4 _ (rtC { T with joins := false } A c vB) (.int .i64 (min ((T.W : Int) - 1) ((T.col : Int) / 8 * 8 + 8))) rfl rfl HS1.out.x (by simp [rtC]) (by kernel_rfl) rfl ?_; intro w2 hn hg; rw [HM.out] at hn; have HS2 := Lib.hid (HS1.out.set (T' := { T with joins := false, col := wi (((T.col : Int) / 8 + 1) * 8) T.W }) hg hn rfl); clear hn hg e1_W e1_col)
        | ((with_reducible refine at_store 34 ?_); refine wpList_store_cell rfl _ _ _ rfl rfl w.heap.size 10 _ (rtC { T with joins := false, col := wi (((T.col : Int) / 8 + 1) * 8) T.W } A c vB) (.bool false) rfl rfl HS2.out.x (by simp [rtC]) (by kernel_rfl) rfl ?_; intro w3 hn hg; have HS3 := Lib.hid (HS2.out.set (T' := { T with joins := false, col := wi (((T.col : Int) / 8 + 1) * 8) T.W, pend := false }) hg hn rfl); clear hn hg)
        | ((with_reducible refine at_dst 43 ?_); refine wpList_load_mid rfl _ _ rfl w.heap.size 0 rfl (rtC { T with joins := false, col := wi (((T.col : Int) / 8 + 1) * 8) T.W, pend := false } A c vB) _ HS3.out.x.whole Tryz.underlying34 rfl rt_size ?_)
        | ((with_reducible refine at_store 4 ?_); refine wpList_store_blk rfl _ _ _ rfl rfl (w.heap.size + 1) 0 _ rtZ (rtC { T with joins := false, col := wi (((T.col : Int) / 8 + 1) * 8) T.W, pend := false } A c vB) rfl rfl HS3.out.z (by simp [rtC, rtZ]) rt_size (rtC_one _ _ _ HV.out) ?_; intro w9 hn9 hg9))
    exact bodyPost_ret (results_c rfl rfl hn9.whole Tryz.underlying34 rfl rt_size) rfl ⟨_, rfl, HS3.out.fin hg9⟩
  · rw [hr]
    obtain ⟨W0, HW0, HS0⟩ := rt_start (vB := vB) h
    have HV := Lib.hid hv
    go_enter Tryz.func55, Tryz.ntmps55
    go_upto_region 1 with fail
    rw [← HW0.out]
    clear HW0
    clear h hk hv hr
    go_wp2_with (first
        | ((with_reducible refine at_store 5 ?_); refine wpList_store_cell rfl _ _ _ rfl rfl w.heap.size 16 _ (rtC T A c vB) (.bool false) rfl rfl HS0.out.x (by simp [rtC]) (by kernel_rfl) rfl ?_; intro w1 hn hg; have HS1 := Lib.hid (HS0.out.set (T' := { T with joins := false }) hg hn rfl); clear hn hg)
        | ((with_reducible refine at_dst 37 ?_); refine wpList_load_mid rfl _ _ rfl w.heap.size 0 rfl (rtC { T with joins := false } A c vB) _ HS1.out.x.whole Tryz.underlying34 rfl rt_size ?_)
        | (go_at_call 79; refine (rfeed_any HS1.out.g hk1 HV.out).mono ?_; rintro e w2 ⟨V, rfl, hr2, hb2⟩; obtain ⟨A2, c2, rfl, hr3⟩ := RtS.backT hr2 HS1.out; have HR2 := Lib.hid hr3; have HS2 := Lib.hid (HS1.out.below hb2); clear hr2 hr3 hb2)
        | ((with_reducible refine at_store 2 ?_); refine wpList_store_blk rfl _ _ _ rfl rfl w.heap.size 0 _ (rtC { T with joins := false } A c vB) (rtC (feedT { T with joins := false }) A2 c2 vB) rfl rfl HS2.out.x (by simp [rtC]) rt_size (rtC_one _ _ _ HV.out) ?_; intro w3 hn hg; have HS3 := Lib.hid (HS2.out.put (T' := feedT { T with joins := false }) (A' := A2) (c' := c2) (c := c) (A := A) HR2.out hg hn); clear hn hg)
        | ((with_reducible refine at_dst 43 ?_); refine wpList_load_mid rfl _ _ rfl w.heap.size 0 rfl (rtC (feedT { T with joins := false }) A2 c2 vB) _ HS3.out.x.whole Tryz.underlying34 rfl rt_size ?_)
        | ((with_reducible refine at_store 4 ?_); refine wpList_store_blk rfl _ _ _ rfl rfl (w.heap.size + 1) 0 _ rtZ (rtC (feedT { T with joins := false }) A2 c2 vB) rfl rfl HS3.out.z (by simp [rtC, rtZ]) rt_size (rtC_one _ _ _ HV.out) ?_; intro w9 hn9 hg9))
    exact bodyPost_ret (results_c rfl rfl hn9.whole Tryz.underlying34 rfl rt_size) rfl ⟨_, rfl, HS3.out.fin hg9⟩
  · rw [hr]
    have HM : Hid ((0 : Int) = (wi 0 T.W : Int)) := Lib.hid (by unfold wi; omega)
    have HR : Hid (moveT { T with joins := false } T.row 0 = { T with joins := false, col := wi 0 T.W, pend := false }) := Lib.hid (by unfold moveT; simp only; rw [wi_self hrow])
    rw [HR.out]
    obtain ⟨W0, HW0, HS0⟩ := rt_start (vB := vB) h
    have HV := Lib.hid hv
    go_enter Tryz.func55, Tryz.ntmps55
    go_upto_region 1 with fail
    rw [← HW0.out]
    clear HW0
    clear h hk hv hr hk1
    go_wp2_with (first
        | ((with_reducible refine at_store 5 ?_); refine wpList_store_cell rfl _ _ _ rfl rfl w.heap.size 16 _ (rtC T A c vB) (.bool false) rfl rfl HS0.out.x (by simp [rtC]) (by kernel_rfl) rfl ?_; intro w1 hn hg; have HS1 := Lib.hid (HS0.out.set (T' := { T with joins := false }) hg hn rfl); clear hn hg)
        | ((with_reducible refine at_store 41 ?_); refine wpList_store_cell rfl _ _ _ rfl rfl w.heap.size 4 _ (rtC { T with joins := false } A c vB) (.int .i64 0) rfl rfl HS1.out.x (by simp [rtC]) (by kernel_rfl) rfl ?_; intro w2 hn hg; rw [HM.out] at hn; have HS2 := Lib.hid (HS1.out.set (T' := { T with joins := false, col := wi 0 T.W }) hg hn rfl); clear hn hg)
        | ((with_reducible refine at_store 42 ?_); refine wpList_store_cell rfl _ _ _ rfl rfl w.heap.size 10 _ (rtC { T with joins := false, col := wi 0 T.W } A c vB) (.bool false) rfl rfl HS2.out.x (by simp [rtC]) (by kernel_rfl) rfl ?_; intro w3 hn hg; have HS3 := Lib.hid (HS2.out.set (T' := { T with joins := false, col := wi 0 T.W, pend := false }) hg hn rfl); clear hn hg)
        | ((with_reducible refine at_dst 43 ?_); refine wpList_load_mid rfl _ _ rfl w.heap.size 0 rfl (rtC { T with joins := false, col := wi 0 T.W, pend := false } A c vB) _ HS3.out.x.whole Tryz.underlying34 rfl rt_size ?_)
        | ((with_reducible refine at_store 4 ?_); refine wpList_store_blk rfl _ _ _ rfl rfl (w.heap.size + 1) 0 _ rtZ (rtC { T with joins := false, col := wi 0 T.W, pend := false } A c vB) rfl rfl HS3.out.z (by simp [rtC, rtZ]) rt_size (rtC_one _ _ _ HV.out) ?_; intro w9 hn9 hg9))
    exact bodyPost_ret (results_c rfl rfl hn9.whole Tryz.underlying34 rfl rt_size) rfl ⟨_, rfl, HS3.out.fin hg9⟩
  · rw [hr]
    have b7' : ((b.toNat : Int) == 7) = false := by simpa using b7
    have b8' : ((b.toNat : Int) == 8) = false := by simpa using b8
    have b9' : ((b.toNat : Int) == 9) = false := by simpa using b9
    have b10' : ((b.toNat : Int) == 10) = false := by simpa using b10
    have b13' : ((b.toNat : Int) == 13) = false := by simpa using b13
    clear b7 b8 b9 b10 b13
    obtain ⟨W0, HW0, HS0⟩ := rt_start (vB := vB) h
    have HV := Lib.hid hv
    go_enter Tryz.func55, Tryz.ntmps55
    go_upto_region 1 with fail
    rw [← HW0.out]
    clear HW0
    clear h hk hv hr hk1
    go_wp2_with (first
        | ((with_reducible refine at_store 5 ?_); refine wpList_store_cell rfl _ _ _ rfl rfl w.heap.size 16 _ (rtC T A c vB) (.bool false) rfl rfl HS0.out.x (by simp [rtC]) (by kernel_rfl) rfl ?_; intro w1 hn hg; have HS1 := Lib.hid (HS0.out.set (T' := { T with joins := false }) hg hn rfl); clear hn hg)
        | ((with_reducible refine at_dst 43 ?_); refine wpList_load_mid rfl _ _ rfl w.heap.size 0 rfl (rtC { T with joins := false } A c vB) _ HS1.out.x.whole Tryz.underlying34 rfl rt_size ?_)
        | ((with_reducible refine at_store 4 ?_); refine wpList_store_blk rfl _ _ _ rfl rfl (w.heap.size + 1) 0 _ rtZ (rtC { T with joins := false } A c vB) rfl rfl HS1.out.z (by simp [rtC, rtZ]) rt_size (rtC_one _ _ _ HV.out) ?_; intro w9 hn9 hg9))
    exact bodyPost_ret (results_c rfl rfl hn9.whole Tryz.underlying34 rfl rt_size) rfl ⟨_, rfl, HS1.out.fin hg9⟩
end Go.Proofs.YtfmkeeaenjeneaaGreatDoor
