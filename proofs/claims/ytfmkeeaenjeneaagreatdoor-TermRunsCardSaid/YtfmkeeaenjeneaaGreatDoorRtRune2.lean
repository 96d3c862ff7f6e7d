/-
  Walks: the reference's rune1, whole.
-/
import Derived.Test.YtfmkeeaenjeneaaGreatDoorRtPrint
import Derived.Test.YtfmkeeaenjeneaaGreatDoorRtPlain
namespace Go.Proofs.YtfmkeeaenjeneaaGreatDoor
open Go.RowKit Go.Sort
set_option linter.unusedVariables false
set_option linter.unusedSimpArgs false

set_option maxRecDepth 100000 in
set_option maxHeartbeats 8000000 in
theorem rrune_stay {w : World} {D : Nat → Prop} {A : Option Addr} {c : Nat} {T : TS} {vB : Value} (h : RfAt w D A c T.L) (hk : TOk T) (hv : vB.oneCell' = true) (r : Int) (hof : ofI r ≤ 0) (hm : mkB r = true) (hj : T.joins = false) :
    Calls Tryz.prog 57 #[.agg #[.int .i64 T.W, .int .i64 T.L.length, .slice A T.L.length c, .int .i64 T.row, .int .i64 T.col, .bool T.y.b, .bool T.y.u, .bool T.y.i, .int .i64 T.y.f, .int .i64 T.y.g, .bool T.pend, .bool T.seen, .bool T.mark, .int .i64 T.bells, .int .i64 T.scr, vB, .bool T.joins, .int .i64 T.lr, .int .i64 T.lc], .int .i32 r] w fun e w' => ∃ V, e = .returned V ∧ RtV w' (fun b => D b ∨ w.heap.size ≤ b) V (T) vB ∧ Below w.heap.size w w' := by
  have HK := Lib.hid hk
  have HOF : Hid (∀ W, Calls Tryz.prog 83 #[.int .i32 r] W fun e w' => e = .returned (.int .i64 (ofI r)) ∧ Below W.heap.size W w') := Lib.hid (fun W => rof_any r W)
  have HMK : Hid (∀ W, Calls Tryz.prog 85 #[.int .i32 r] W fun e w' => e = .returned (.bool (mkB r)) ∧ Below W.heap.size W w') := Lib.hid (fun W => rmark3_any r W)
  rw [hm] at HMK
  generalize ofI r = v at HOF hof
  have h0 : ¬ (0 < v) := by omega
  have HJ := Lib.hid hj
  clear hk hm hof hj
  obtain ⟨W0, HW0, HS0⟩ := rt_start (vB := vB) h
  have HV := Lib.hid hv
  go_enter Tryz.func57, Tryz.ntmps57
  go_upto_region 1 with fail
  rw [← HW0.out]
  clear HW0
  clear h hv
  go_wp2_with (first
    | (go_at_call 83; refine (HOF.out _).mono ?_; rintro e w1 ⟨rfl, hb1⟩; have HS1 := Lib.hid (HS0.out.below hb1); clear hb1)
    | (go_at_call 85; refine (HMK.out _).mono ?_; rintro e w2 ⟨rfl, hb2⟩; have HS2 := Lib.hid (HS1.out.below hb2); have e2_joins : w2.cell? ⟨w.heap.size, 16, none⟩ = some (.bool false) := (by rw [← HJ.out]; exact HS2.out.x.cell 16); clear hb2)
    | ((with_reducible refine at_dst 30 ?_); refine wpList_load_mid rfl _ _ rfl w.heap.size 0 rfl (rtC T A c vB) _ HS2.out.x.whole Tryz.underlying34 rfl rt_size ?_)
    | ((with_reducible refine at_store 4 ?_); refine wpList_store_blk rfl _ _ _ rfl rfl (w.heap.size + 1) 0 _ rtZ (rtC T A c vB) rfl rfl HS2.out.z (by simp [rtC, rtZ]) rt_size (rtC_one _ _ _ HV.out) ?_; intro w9 hn9 hg9))
  exact bodyPost_ret (results_c rfl rfl hn9.whole Tryz.underlying34 rfl rt_size) rfl ⟨_, rfl, HS2.out.fin hg9⟩
set_option maxRecDepth 100000 in
set_option maxHeartbeats 8000000 in
theorem rrune_no {w : World} {D : Nat → Prop} {A : Option Addr} {c : Nat} {T : TS} {vB : Value} (h : RfAt w D A c T.L) (hk : TOk T) (hv : vB.oneCell' = true) (r : Int) (hof : ofI r ≤ 0) (hm : mkB r = false) :
    Calls Tryz.prog 57 #[.agg #[.int .i64 T.W, .int .i64 T.L.length, .slice A T.L.length c, .int .i64 T.row, .int .i64 T.col, .bool T.y.b, .bool T.y.u, .bool T.y.i, .int .i64 T.y.f, .int .i64 T.y.g, .bool T.pend, .bool T.seen, .bool T.mark, .int .i64 T.bells, .int .i64 T.scr, vB, .bool T.joins, .int .i64 T.lr, .int .i64 T.lc], .int .i32 r] w fun e w' => ∃ V, e = .returned V ∧ RtV w' (fun b => D b ∨ w.heap.size ≤ b) V ({ T with joins := false }) vB ∧ Below w.heap.size w w' := by
  have HK := Lib.hid hk
  have HOF : Hid (∀ W, Calls Tryz.prog 83 #[.int .i32 r] W fun e w' => e = .returned (.int .i64 (ofI r)) ∧ Below W.heap.size W w') := Lib.hid (fun W => rof_any r W)
  have HMK : Hid (∀ W, Calls Tryz.prog 85 #[.int .i32 r] W fun e w' => e = .returned (.bool (mkB r)) ∧ Below W.heap.size W w') := Lib.hid (fun W => rmark3_any r W)
  rw [hm] at HMK
  generalize ofI r = v at HOF hof
  have h0 : ¬ (0 < v) := by omega
  clear hk hm hof
  obtain ⟨W0, HW0, HS0⟩ := rt_start (vB := vB) h
  have HV := Lib.hid hv
  go_enter Tryz.func57, Tryz.ntmps57
  go_upto_region 1 with fail
  rw [← HW0.out]
  clear HW0
  clear h hv
  go_wp2_with (first
    | (go_at_call 83; refine (HOF.out _).mono ?_; rintro e w1 ⟨rfl, hb1⟩; have HS1 := Lib.hid (HS0.out.below hb1); clear hb1)
    | (go_at_call 85; refine (HMK.out _).mono ?_; rintro e w2 ⟨rfl, hb2⟩; have HS2 := Lib.hid (HS1.out.below hb2); clear hb2)
    | ((with_reducible refine at_store 31 ?_); refine wpList_store_cell rfl _ _ _ rfl rfl w.heap.size 16 _ (rtC T A c vB) (.bool false) rfl rfl HS2.out.x (by simp [rtC]) (by kernel_rfl) rfl ?_; intro w3 hn hg; have HS3 := Lib.hid (HS2.out.set (T' := { T with joins := false }) hg hn rfl); clear hn hg)
    | ((with_reducible refine at_dst 32 ?_); refine wpList_load_mid rfl _ _ rfl w.heap.size 0 rfl (rtC { T with joins := false } A c vB) _ HS3.out.x.whole Tryz.underlying34 rfl rt_size ?_)
    | ((with_reducible refine at_store 4 ?_); refine wpList_store_blk rfl _ _ _ rfl rfl (w.heap.size + 1) 0 _ rtZ (rtC { T with joins := false } A c vB) rfl rfl HS3.out.z (by simp [rtC, rtZ]) rt_size (rtC_one _ _ _ HV.out) ?_; intro w9 hn9 hg9))
  exact bodyPost_ret (results_c rfl rfl hn9.whole Tryz.underlying34 rfl rt_size) rfl ⟨_, rfl, HS3.out.fin hg9⟩
set_option maxRecDepth 100000 in
set_option maxHeartbeats 8000000 in
theorem rrune_print {w : World} {D : Nat → Prop} {A : Option Addr} {c : Nat} {T : TS} {vB : Value} (h : RfAt w D A c T.L) (hk : TOk T) (hv : vB.oneCell' = true) (r : Int) (hof : 0 < ofI r) :
    Calls Tryz.prog 57 #[.agg #[.int .i64 T.W, .int .i64 T.L.length, .slice A T.L.length c, .int .i64 T.row, .int .i64 T.col, .bool T.y.b, .bool T.y.u, .bool T.y.i, .int .i64 T.y.f, .int .i64 T.y.g, .bool T.pend, .bool T.seen, .bool T.mark, .int .i64 T.bells, .int .i64 T.scr, vB, .bool T.joins, .int .i64 T.lr, .int .i64 T.lc], .int .i32 r] w fun e w' => ∃ V, e = .returned V ∧ RtV w' (fun b => D b ∨ w.heap.size ≤ b) V (printT T (enc (rfix r)) (ofI r).toNat) vB ∧ Below w.heap.size w w' := by
  have HK := Lib.hid hk
  have HOF : Hid (∀ W, Calls Tryz.prog 83 #[.int .i32 r] W fun e w' => e = .returned (.int .i64 (ofI r)) ∧ Below W.heap.size W w') := Lib.hid (fun W => rof_any r W)
  have HMK : Hid (∀ W, Calls Tryz.prog 85 #[.int .i32 r] W fun e w' => e = .returned (.bool (mkB r)) ∧ Below W.heap.size W w') := Lib.hid (fun W => rmark3_any r W)
  obtain ⟨T9, hT9⟩ : ∃ T9, T9 = printT T (enc (rfix r)) (ofI r).toNat := ⟨_, rfl⟩
  have HPR : Hid (∀ W A c, RfAt W (DD w D) A c T.L → Calls Tryz.prog 84 #[.agg #[.int .i64 T.W, .int .i64 T.L.length, .slice A T.L.length c, .int .i64 T.row, .int .i64 T.col, .bool T.y.b, .bool T.y.u, .bool T.y.i, .int .i64 T.y.f, .int .i64 T.y.g, .bool T.pend, .bool T.seen, .bool T.mark, .int .i64 T.bells, .int .i64 T.scr, vB, .bool T.joins, .int .i64 T.lr, .int .i64 T.lc], .int .i32 r] W fun e w' => ∃ V, e = .returned V ∧ RtV w' (fun b => DD w D b ∨ W.heap.size ≤ b) V T9 vB ∧ Below W.heap.size W w') := Lib.hid (fun W A c hr => by rw [hT9]; exact rprint_any hr HK.out hv r hof)
  rw [← hT9]
  clear hk hT9
  generalize ofI r = v at HOF hof
  obtain ⟨W0, HW0, HS0⟩ := rt_start (vB := vB) h
  have HV := Lib.hid hv
  go_enter Tryz.func57, Tryz.ntmps57
  go_upto_region 1 with fail
  rw [← HW0.out]
  clear HW0
  clear h hv
  go_wp2_with (first
    | (go_at_call 83; refine (HOF.out _).mono ?_; rintro e w1 ⟨rfl, hb1⟩; have HS1 := Lib.hid (HS0.out.below hb1); clear hb1)
    | ((with_reducible refine at_dst 8 ?_); refine wpList_load_mid rfl _ _ rfl w.heap.size 0 rfl (rtC T A c vB) _ HS1.out.x.whole Tryz.underlying34 rfl rt_size ?_)
    | (go_at_call 84; refine (HPR.out _ _ _ HS1.out.g).mono ?_; rintro e w3 ⟨V, rfl, ⟨A3, c3, rfl, hr3⟩, hb3⟩; have HR3 := Lib.hid (HS1.out.rowsD hr3); have HS3 := Lib.hid (HS1.out.below hb3); clear hr3 hb3)
    | ((with_reducible refine at_store 4 ?_); refine wpList_store_blk rfl _ _ _ rfl rfl (w.heap.size + 1) 0 _ rtZ (rtC T9 A3 c3 vB) rfl rfl HS3.out.z (by simp [rtC, rtZ]) rt_size (rtC_one _ _ _ HV.out) ?_; intro w9 hn9 hg9))
  exact bodyPost_ret (results_c rfl rfl hn9.whole Tryz.underlying34 rfl rt_size) rfl ⟨_, rfl, HS3.out.outV HR3.out hg9⟩
set_option maxRecDepth 100000 in
set_option maxHeartbeats 8000000 in
theorem rrune_any {w : World} {D : Nat → Prop} {A : Option Addr} {c : Nat} {T : TS} {vB : Value} (h : RfAt w D A c T.L) (hk : TOk T) (hv : vB.oneCell' = true) (r : Int) :
    Calls Tryz.prog 57 #[.agg #[.int .i64 T.W, .int .i64 T.L.length, .slice A T.L.length c, .int .i64 T.row, .int .i64 T.col, .bool T.y.b, .bool T.y.u, .bool T.y.i, .int .i64 T.y.f, .int .i64 T.y.g, .bool T.pend, .bool T.seen, .bool T.mark, .int .i64 T.bells, .int .i64 T.scr, vB, .bool T.joins, .int .i64 T.lr, .int .i64 T.lc], .int .i32 r] w fun e w' => ∃ V, e = .returned V ∧ RtV w' (fun b => D b ∨ w.heap.size ≤ b) V (runeT T r) vB ∧ Below w.heap.size w w' := by
  unfold runeT
  by_cases h0 : 0 < ofI r
  · rw [if_pos h0]; exact rrune_print h hk hv r h0
  · rw [if_neg h0]
    cases hm : mkB r with
    | true =>
      rw [if_pos rfl]
      unfold markT
      cases hj : T.joins with
      | true => rw [if_pos rfl]; have := rrune_join h hk hv r (by omega) hm hj; rw [hj] at this; exact this
      | false => rw [if_neg (by simp)]; have := rrune_stay h hk hv r (by omega) hm hj; rw [hj] at this; exact this
    | false => rw [if_neg (by simp)]; exact rrune_no h hk hv r (by omega) hm
end Go.Proofs.YtfmkeeaenjeneaaGreatDoor
