/-
  Walks: the reference's first.
-/
import Derived.Test.YtfmkeeaenjeneaaGreatDoorRtSeq2
import Derived.Test.YtfmkeeaenjeneaaGreatDoorRtMove
import Derived.Test.YtfmkeeaenjeneaaGreatDoorRtRune2
import Derived.Test.YtfmkeeaenjeneaaGreatDoorTmOne
namespace Go.Proofs.YtfmkeeaenjeneaaGreatDoor
open Go.RowKit Go.Sort
set_option linter.unusedVariables false
set_option linter.unusedSimpArgs false

set_option maxRecDepth 100000 in
set_option maxHeartbeats 8000000 in
theorem rfirst_esc {w : World} {D : Nat → Prop} {A : Option Addr} {c : Nat} {T : TS} {vB : Value} (h : RfAt w D A c T.L) (hk : TOk T) (hv : vB.oneCell' = true) (B : List UInt8) (hl : B.length ≤ 100000000) (b off n cb : Nat) (hn : n = B.length) (hcb : n ≤ cb) (hS : Sl w w.heap.size (some ⟨b, off, none⟩) (bv B)) (hB : B = [27]) :
    Calls Tryz.prog 27 #[.agg #[.int .i64 T.W, .int .i64 T.L.length, .slice A T.L.length c, .int .i64 T.row, .int .i64 T.col, .bool T.y.b, .bool T.y.u, .bool T.y.i, .int .i64 T.y.f, .int .i64 T.y.g, .bool T.pend, .bool T.seen, .bool T.mark, .int .i64 T.bells, .int .i64 T.scr, vB, .bool T.joins, .int .i64 T.lr, .int .i64 T.lc], .slice (some ⟨b, off, none⟩) n cb] w fun e w' => ∃ V, e = .returned (.tuple #[V, .int .i64 (0)]) ∧ RtV w' (fun b => D b ∨ w.heap.size ≤ b) V (T) vB ∧ Below w.heap.size w w' := by
  have HK := Lib.hid hk
  have HV := Lib.hid hv
  obtain ⟨b', off', hA, hbb, hcx⟩ := hS.open_ (by rw [bv_length]; rw [hB]; simp)
  injection hA with hA
  injection hA with e1 e2
  subst e1 e2
  have HC0 : Hid (∀ W, Below w.heap.size w W → W.cell? ⟨b, off, none⟩ = some (.int .u8 (27))) := Lib.hid (fun W hW => (hW.cell (p := ⟨b, off, none⟩) hbb).trans (hcx 0 _ (by rw [hB]; rfl)))
  have h0n : 0 < n := by rw [hn, hB]; simp
  have h0i : (0 : Int) < (n : Int) := by omega
  have HN := Lib.hid hn
  have HSL := Lib.hid hS
  have hn1 : ((n : Int) == 1) = true := by rw [hn, hB]; rfl
  obtain ⟨W0, HW0, HS0⟩ := rt_start (vB := vB) h
  have e0_0 := HC0.out _ HS0.out.bel
  clear hcx hk hv hS hn hB h
  go_enter Tryz.func27, Tryz.ntmps27
  go_upto_region 1 with fail
  rw [← HW0.out]
  clear HW0
  go_wp2_with (first
      | ((with_reducible refine at_dst 19 ?_); refine wpList_load_mid rfl _ _ rfl w.heap.size 0 rfl (rtC T A c vB) _ HS0.out.x.whole Tryz.underlying34 rfl rt_size ?_)
      | ((with_reducible refine at_store 4 ?_); refine wpList_store_blk rfl _ _ _ rfl rfl (w.heap.size + 1) 0 _ rtZ (rtC T A c vB) rfl rfl HS0.out.z (by simp [rtC, rtZ]) rt_size (rtC_one _ _ _ HV.out) ?_; intro w9 hn9 hg9))
  exact bodyPost_ret (results_ct rfl rfl rfl hn9.whole Tryz.underlying34 rfl rt_size) rfl ⟨_, rfl, HS0.out.fin hg9⟩
set_option maxRecDepth 100000 in
set_option maxHeartbeats 8000000 in
theorem rfirst_seq {w : World} {D : Nat → Prop} {A : Option Addr} {c : Nat} {T : TS} {vB : Value} (h : RfAt w D A c T.L) (hk : TOk T) (hv : vB.oneCell' = true) (B : List UInt8) (hl : B.length ≤ 100000000) (b off n cb : Nat) (hn : n = B.length) (hcb : n ≤ cb) (hS : Sl w w.heap.size (some ⟨b, off, none⟩) (bv B)) (m : List UInt8) (hB : B = 27 :: 91 :: m) :
    Calls Tryz.prog 27 #[.agg #[.int .i64 T.W, .int .i64 T.L.length, .slice A T.L.length c, .int .i64 T.row, .int .i64 T.col, .bool T.y.b, .bool T.y.u, .bool T.y.i, .int .i64 T.y.f, .int .i64 T.y.g, .bool T.pend, .bool T.seen, .bool T.mark, .int .i64 T.bells, .int .i64 T.scr, vB, .bool T.joins, .int .i64 T.lr, .int .i64 T.lc], .slice (some ⟨b, off, none⟩) n cb] w fun e w' => ∃ V, e = .returned (.tuple #[V, .int .i64 ((cutS B).1)]) ∧ RtV w' (fun b => D b ∨ w.heap.size ≤ b) V (seqT T B) vB ∧ Below w.heap.size w w' := by
  have HK := Lib.hid hk
  have HV := Lib.hid hv
  obtain ⟨b', off', hA, hbb, hcx⟩ := hS.open_ (by rw [bv_length]; rw [hB]; simp)
  injection hA with hA
  injection hA with e1 e2
  subst e1 e2
  have HC0 : Hid (∀ W, Below w.heap.size w W → W.cell? ⟨b, off, none⟩ = some (.int .u8 (27))) := Lib.hid (fun W hW => (hW.cell (p := ⟨b, off, none⟩) hbb).trans (hcx 0 _ (by rw [hB]; rfl)))
  have h0n : 0 < n := by rw [hn, hB]; simp
  have h0i : (0 : Int) < (n : Int) := by omega
  have HN := Lib.hid hn
  have HSL := Lib.hid hS
  have HC1 : Hid (∀ W, Below w.heap.size w W → W.cell? ⟨b, off + 1, none⟩ = some (.int .u8 91)) := Lib.hid (fun W hW => (hW.cell (p := ⟨b, off + 1, none⟩) hbb).trans (hcx 1 _ (by rw [hB]; rfl)))
  have hn1 : ((n : Int) == 1) = false := by rw [hn, hB]; simp; omega
  have h1n : 1 < n := by rw [hn, hB]; simp
  have h1i : (1 : Int) < (n : Int) := by omega
  obtain ⟨T9, hT9⟩ : ∃ T9, T9 = seqT T B := ⟨_, rfl⟩
  obtain ⟨k9, hk9⟩ : ∃ k9, k9 = (cutS B).1 := ⟨_, rfl⟩
  have HSQ : Hid (∀ W A c, Below w.heap.size w W → RfAt W (DD w D) A c T.L → Calls Tryz.prog 54 #[.agg #[.int .i64 T.W, .int .i64 T.L.length, .slice A T.L.length c, .int .i64 T.row, .int .i64 T.col, .bool T.y.b, .bool T.y.u, .bool T.y.i, .int .i64 T.y.f, .int .i64 T.y.g, .bool T.pend, .bool T.seen, .bool T.mark, .int .i64 T.bells, .int .i64 T.scr, vB, .bool T.joins, .int .i64 T.lr, .int .i64 T.lc], .slice (some ⟨b, off, none⟩) n cb] W fun e w' => ∃ V, e = .returned (.tuple #[V, .int .i64 k9]) ∧ RtV w' (fun b => DD w D b ∨ W.heap.size ≤ b) V T9 vB ∧ Below W.heap.size W w') := Lib.hid (fun W A c hW hr => by rw [hT9, hk9]; exact rseq_any hr HK.out HV.out B (by rw [hB]; simp) hl b off n cb hn hcb ((hS.below hW).more hW.size))
  rw [← hT9, ← hk9]
  obtain ⟨W0, HW0, HS0⟩ := rt_start (vB := vB) h
  have e0_0 := HC0.out _ HS0.out.bel
  have e0_1 := HC1.out _ HS0.out.bel
  clear hcx hk hv hS hn hB h hT9 hk9 hl
  go_enter Tryz.func27, Tryz.ntmps27
  go_upto_region 1 with fail
  rw [← HW0.out]
  clear HW0
  go_wp2_with (first
      | ((with_reducible refine at_dst 31 ?_); refine wpList_load_mid rfl _ _ rfl w.heap.size 0 rfl (rtC T A c vB) _ HS0.out.x.whole Tryz.underlying34 rfl rt_size ?_)
      | (go_at_call 54; refine (HSQ.out _ _ _ HS0.out.bel HS0.out.g).mono ?_; rintro e w3 ⟨V, rfl, ⟨A3, c3, rfl, hr3⟩, hb3⟩; have HR3 := Lib.hid (HS0.out.rowsD hr3); have HS3 := Lib.hid (HS0.out.below hb3); clear hr3 hb3)
      | ((with_reducible refine at_store 4 ?_); refine wpList_store_blk rfl _ _ _ rfl rfl (w.heap.size + 1) 0 _ rtZ (rtC T9 A3 c3 vB) rfl rfl HS3.out.z (by simp [rtC, rtZ]) rt_size (rtC_one _ _ _ HV.out) ?_; intro w9 hn9 hg9))
  exact bodyPost_ret (results_ct rfl rfl rfl hn9.whole Tryz.underlying34 rfl rt_size) rfl ⟨_, rfl, HS3.out.outV HR3.out hg9⟩
set_option maxRecDepth 100000 in
set_option maxHeartbeats 8000000 in
theorem rfirst_two {w : World} {D : Nat → Prop} {A : Option Addr} {c : Nat} {T : TS} {vB : Value} (h : RfAt w D A c T.L) (hk : TOk T) (hv : vB.oneCell' = true) (B : List UInt8) (hl : B.length ≤ 100000000) (b off n cb : Nat) (hn : n = B.length) (hcb : n ≤ cb) (hS : Sl w w.heap.size (some ⟨b, off, none⟩) (bv B)) (d : UInt8) (m : List UInt8) (hB : B = 27 :: d :: m) (hd : ((d.toNat : Int) == 91) = false) (d1 : 32 ≤ (d.toNat : Int)) (d2 : (d.toNat : Int) ≤ 126) :
    Calls Tryz.prog 27 #[.agg #[.int .i64 T.W, .int .i64 T.L.length, .slice A T.L.length c, .int .i64 T.row, .int .i64 T.col, .bool T.y.b, .bool T.y.u, .bool T.y.i, .int .i64 T.y.f, .int .i64 T.y.g, .bool T.pend, .bool T.seen, .bool T.mark, .int .i64 T.bells, .int .i64 T.scr, vB, .bool T.joins, .int .i64 T.lr, .int .i64 T.lc], .slice (some ⟨b, off, none⟩) n cb] w fun e w' => ∃ V, e = .returned (.tuple #[V, .int .i64 (2)]) ∧ RtV w' (fun b => D b ∨ w.heap.size ≤ b) V ({ T with joins := false }) vB ∧ Below w.heap.size w w' := by
  have HK := Lib.hid hk
  have HV := Lib.hid hv
  obtain ⟨b', off', hA, hbb, hcx⟩ := hS.open_ (by rw [bv_length]; rw [hB]; simp)
  injection hA with hA
  injection hA with e1 e2
  subst e1 e2
  have HC0 : Hid (∀ W, Below w.heap.size w W → W.cell? ⟨b, off, none⟩ = some (.int .u8 (27))) := Lib.hid (fun W hW => (hW.cell (p := ⟨b, off, none⟩) hbb).trans (hcx 0 _ (by rw [hB]; rfl)))
  have h0n : 0 < n := by rw [hn, hB]; simp
  have h0i : (0 : Int) < (n : Int) := by omega
  have HN := Lib.hid hn
  have HSL := Lib.hid hS
  have HC1 : Hid (∀ W, Below w.heap.size w W → W.cell? ⟨b, off + 1, none⟩ = some (.int .u8 d.toNat)) := Lib.hid (fun W hW => (hW.cell (p := ⟨b, off + 1, none⟩) hbb).trans (hcx 1 _ (by rw [hB]; rfl)))
  have hn1 : ((n : Int) == 1) = false := by rw [hn, hB]; simp; omega
  have h1n : 1 < n := by rw [hn, hB]; simp
  have h1i : (1 : Int) < (n : Int) := by omega
  obtain ⟨W0, HW0, HS0⟩ := rt_start (vB := vB) h
  have e0_0 := HC0.out _ HS0.out.bel
  have e0_1 := HC1.out _ HS0.out.bel
  have hb2 : b ≠ w.heap.size := by omega
  clear hcx hk hv hS hn hB h hl
  go_enter Tryz.func27, Tryz.ntmps27
  go_upto_region 1 with fail
  rw [← HW0.out]
  clear HW0
  go_wp2_with (first
      | ((with_reducible refine at_store 41 ?_); refine wpList_store_cell rfl _ _ _ rfl rfl w.heap.size 16 _ (rtC T A c vB) (.bool false) rfl rfl HS0.out.x (by simp [rtC]) (by kernel_rfl) rfl ?_; intro w1 hn hg; have HS1 := Lib.hid (HS0.out.set (T' := { T with joins := false }) hg hn rfl); have e1_1 := HC1.out _ HS1.out.bel; clear hn hg)
      | ((with_reducible refine at_dst 52 ?_); refine wpList_load_mid rfl _ _ rfl w.heap.size 0 rfl (rtC { T with joins := false } A c vB) _ HS1.out.x.whole Tryz.underlying34 rfl rt_size ?_)
      | ((with_reducible refine at_store 4 ?_); refine wpList_store_blk rfl _ _ _ rfl rfl (w.heap.size + 1) 0 _ rtZ (rtC { T with joins := false } A c vB) rfl rfl HS1.out.z (by simp [rtC, rtZ]) rt_size (rtC_one _ _ _ HV.out) ?_; intro w9 hn9 hg9))
  exact bodyPost_ret (results_ct rfl rfl rfl hn9.whole Tryz.underlying34 rfl rt_size) rfl ⟨_, rfl, HS1.out.fin hg9⟩
set_option maxRecDepth 100000 in
set_option maxHeartbeats 8000000 in
theorem rfirst_lo {w : World} {D : Nat → Prop} {A : Option Addr} {c : Nat} {T : TS} {vB : Value} (h : RfAt w D A c T.L) (hk : TOk T) (hv : vB.oneCell' = true) (B : List UInt8) (hl : B.length ≤ 100000000) (b off n cb : Nat) (hn : n = B.length) (hcb : n ≤ cb) (hS : Sl w w.heap.size (some ⟨b, off, none⟩) (bv B)) (d : UInt8) (m : List UInt8) (hB : B = 27 :: d :: m) (hd : ((d.toNat : Int) == 91) = false) (d1 : ¬ 32 ≤ (d.toNat : Int)) :
    Calls Tryz.prog 27 #[.agg #[.int .i64 T.W, .int .i64 T.L.length, .slice A T.L.length c, .int .i64 T.row, .int .i64 T.col, .bool T.y.b, .bool T.y.u, .bool T.y.i, .int .i64 T.y.f, .int .i64 T.y.g, .bool T.pend, .bool T.seen, .bool T.mark, .int .i64 T.bells, .int .i64 T.scr, vB, .bool T.joins, .int .i64 T.lr, .int .i64 T.lc], .slice (some ⟨b, off, none⟩) n cb] w fun e w' => ∃ V, e = .returned (.tuple #[V, .int .i64 (1)]) ∧ RtV w' (fun b => D b ∨ w.heap.size ≤ b) V ({ T with joins := false }) vB ∧ Below w.heap.size w w' := by
  have HK := Lib.hid hk
  have HV := Lib.hid hv
  obtain ⟨b', off', hA, hbb, hcx⟩ := hS.open_ (by rw [bv_length]; rw [hB]; simp)
  injection hA with hA
  injection hA with e1 e2
  subst e1 e2
  have HC0 : Hid (∀ W, Below w.heap.size w W → W.cell? ⟨b, off, none⟩ = some (.int .u8 (27))) := Lib.hid (fun W hW => (hW.cell (p := ⟨b, off, none⟩) hbb).trans (hcx 0 _ (by rw [hB]; rfl)))
  have h0n : 0 < n := by rw [hn, hB]; simp
  have h0i : (0 : Int) < (n : Int) := by omega
  have HN := Lib.hid hn
  have HSL := Lib.hid hS
  have HC1 : Hid (∀ W, Below w.heap.size w W → W.cell? ⟨b, off + 1, none⟩ = some (.int .u8 d.toNat)) := Lib.hid (fun W hW => (hW.cell (p := ⟨b, off + 1, none⟩) hbb).trans (hcx 1 _ (by rw [hB]; rfl)))
  have hn1 : ((n : Int) == 1) = false := by rw [hn, hB]; simp; omega
  have h1n : 1 < n := by rw [hn, hB]; simp
  have h1i : (1 : Int) < (n : Int) := by omega
  obtain ⟨W0, HW0, HS0⟩ := rt_start (vB := vB) h
  have e0_0 := HC0.out _ HS0.out.bel
  have e0_1 := HC1.out _ HS0.out.bel
  have hb2 : b ≠ w.heap.size := by omega
  clear hcx hk hv hS hn hB h hl
  go_enter Tryz.func27, Tryz.ntmps27
  go_upto_region 1 with fail
  rw [← HW0.out]
  clear HW0
  go_wp2_with (first
      | ((with_reducible refine at_store 41 ?_); refine wpList_store_cell rfl _ _ _ rfl rfl w.heap.size 16 _ (rtC T A c vB) (.bool false) rfl rfl HS0.out.x (by simp [rtC]) (by kernel_rfl) rfl ?_; intro w1 hn hg; have HS1 := Lib.hid (HS0.out.set (T' := { T with joins := false }) hg hn rfl); have e1_1 := HC1.out _ HS1.out.bel; clear hn hg)
      | ((with_reducible refine at_dst 53 ?_); refine wpList_load_mid rfl _ _ rfl w.heap.size 0 rfl (rtC { T with joins := false } A c vB) _ HS1.out.x.whole Tryz.underlying34 rfl rt_size ?_)
      | ((with_reducible refine at_store 4 ?_); refine wpList_store_blk rfl _ _ _ rfl rfl (w.heap.size + 1) 0 _ rtZ (rtC { T with joins := false } A c vB) rfl rfl HS1.out.z (by simp [rtC, rtZ]) rt_size (rtC_one _ _ _ HV.out) ?_; intro w9 hn9 hg9))
  exact bodyPost_ret (results_ct rfl rfl rfl hn9.whole Tryz.underlying34 rfl rt_size) rfl ⟨_, rfl, HS1.out.fin hg9⟩
set_option maxRecDepth 100000 in
set_option maxHeartbeats 8000000 in
theorem rfirst_hi {w : World} {D : Nat → Prop} {A : Option Addr} {c : Nat} {T : TS} {vB : Value} (h : RfAt w D A c T.L) (hk : TOk T) (hv : vB.oneCell' = true) (B : List UInt8) (hl : B.length ≤ 100000000) (b off n cb : Nat) (hn : n = B.length) (hcb : n ≤ cb) (hS : Sl w w.heap.size (some ⟨b, off, none⟩) (bv B)) (d : UInt8) (m : List UInt8) (hB : B = 27 :: d :: m) (hd : ((d.toNat : Int) == 91) = false) (d1 : 32 ≤ (d.toNat : Int)) (d2 : ¬ (d.toNat : Int) ≤ 126) :
    Calls Tryz.prog 27 #[.agg #[.int .i64 T.W, .int .i64 T.L.length, .slice A T.L.length c, .int .i64 T.row, .int .i64 T.col, .bool T.y.b, .bool T.y.u, .bool T.y.i, .int .i64 T.y.f, .int .i64 T.y.g, .bool T.pend, .bool T.seen, .bool T.mark, .int .i64 T.bells, .int .i64 T.scr, vB, .bool T.joins, .int .i64 T.lr, .int .i64 T.lc], .slice (some ⟨b, off, none⟩) n cb] w fun e w' => ∃ V, e = .returned (.tuple #[V, .int .i64 (1)]) ∧ RtV w' (fun b => D b ∨ w.heap.size ≤ b) V ({ T with joins := false }) vB ∧ Below w.heap.size w w' := by
  have HK := Lib.hid hk
  have HV := Lib.hid hv
  obtain ⟨b', off', hA, hbb, hcx⟩ := hS.open_ (by rw [bv_length]; rw [hB]; simp)
  injection hA with hA
  injection hA with e1 e2
  subst e1 e2
  have HC0 : Hid (∀ W, Below w.heap.size w W → W.cell? ⟨b, off, none⟩ = some (.int .u8 (27))) := Lib.hid (fun W hW => (hW.cell (p := ⟨b, off, none⟩) hbb).trans (hcx 0 _ (by rw [hB]; rfl)))
  have h0n : 0 < n := by rw [hn, hB]; simp
  have h0i : (0 : Int) < (n : Int) := by omega
  have HN := Lib.hid hn
  have HSL := Lib.hid hS
  have HC1 : Hid (∀ W, Below w.heap.size w W → W.cell? ⟨b, off + 1, none⟩ = some (.int .u8 d.toNat)) := Lib.hid (fun W hW => (hW.cell (p := ⟨b, off + 1, none⟩) hbb).trans (hcx 1 _ (by rw [hB]; rfl)))
  have hn1 : ((n : Int) == 1) = false := by rw [hn, hB]; simp; omega
  have h1n : 1 < n := by rw [hn, hB]; simp
  have h1i : (1 : Int) < (n : Int) := by omega
  obtain ⟨W0, HW0, HS0⟩ := rt_start (vB := vB) h
  have e0_0 := HC0.out _ HS0.out.bel
  have e0_1 := HC1.out _ HS0.out.bel
  have hb2 : b ≠ w.heap.size := by omega
  clear hcx hk hv hS hn hB h hl
  go_enter Tryz.func27, Tryz.ntmps27
  go_upto_region 1 with fail
  rw [← HW0.out]
  clear HW0
  go_wp2_with (first
      | ((with_reducible refine at_store 41 ?_); refine wpList_store_cell rfl _ _ _ rfl rfl w.heap.size 16 _ (rtC T A c vB) (.bool false) rfl rfl HS0.out.x (by simp [rtC]) (by kernel_rfl) rfl ?_; intro w1 hn hg; have HS1 := Lib.hid (HS0.out.set (T' := { T with joins := false }) hg hn rfl); have e1_1 := HC1.out _ HS1.out.bel; clear hn hg)
      | ((with_reducible refine at_dst 53 ?_); refine wpList_load_mid rfl _ _ rfl w.heap.size 0 rfl (rtC { T with joins := false } A c vB) _ HS1.out.x.whole Tryz.underlying34 rfl rt_size ?_)
      | ((with_reducible refine at_store 4 ?_); refine wpList_store_blk rfl _ _ _ rfl rfl (w.heap.size + 1) 0 _ rtZ (rtC { T with joins := false } A c vB) rfl rfl HS1.out.z (by simp [rtC, rtZ]) rt_size (rtC_one _ _ _ HV.out) ?_; intro w9 hn9 hg9))
  exact bodyPost_ret (results_ct rfl rfl rfl hn9.whole Tryz.underlying34 rfl rt_size) rfl ⟨_, rfl, HS1.out.fin hg9⟩
set_option maxRecDepth 100000 in
set_option maxHeartbeats 8000000 in
theorem rfirst_c32 {w : World} {D : Nat → Prop} {A : Option Addr} {c : Nat} {T : TS} {vB : Value} (h : RfAt w D A c T.L) (hk : TOk T) (hv : vB.oneCell' = true) (B : List UInt8) (hl : B.length ≤ 100000000) (b off n cb : Nat) (hn : n = B.length) (hcb : n ≤ cb) (hS : Sl w w.heap.size (some ⟨b, off, none⟩) (bv B)) (d : UInt8) (m : List UInt8) (hB : B = d :: m) (hd : ((d.toNat : Int) == 27) = false) (h32 : (d.toNat : Int) < 32) :
    Calls Tryz.prog 27 #[.agg #[.int .i64 T.W, .int .i64 T.L.length, .slice A T.L.length c, .int .i64 T.row, .int .i64 T.col, .bool T.y.b, .bool T.y.u, .bool T.y.i, .int .i64 T.y.f, .int .i64 T.y.g, .bool T.pend, .bool T.seen, .bool T.mark, .int .i64 T.bells, .int .i64 T.scr, vB, .bool T.joins, .int .i64 T.lr, .int .i64 T.lc], .slice (some ⟨b, off, none⟩) n cb] w fun e w' => ∃ V, e = .returned (.tuple #[V, .int .i64 (1)]) ∧ RtV w' (fun b => D b ∨ w.heap.size ≤ b) V (ctlT T d) vB ∧ Below w.heap.size w w' := by
  have HK := Lib.hid hk
  have HV := Lib.hid hv
  obtain ⟨b', off', hA, hbb, hcx⟩ := hS.open_ (by rw [bv_length]; rw [hB]; simp)
  injection hA with hA
  injection hA with e1 e2
  subst e1 e2
  have HC0 : Hid (∀ W, Below w.heap.size w W → W.cell? ⟨b, off, none⟩ = some (.int .u8 (d.toNat))) := Lib.hid (fun W hW => (hW.cell (p := ⟨b, off, none⟩) hbb).trans (hcx 0 _ (by rw [hB]; rfl)))
  have h0n : 0 < n := by rw [hn, hB]; simp
  have h0i : (0 : Int) < (n : Int) := by omega
  have HN := Lib.hid hn
  have HSL := Lib.hid hS
  obtain ⟨T9, hT9⟩ : ∃ T9, T9 = ctlT T d := ⟨_, rfl⟩
  have HCT : Hid (∀ W A c, RfAt W (DD w D) A c T.L → Calls Tryz.prog 55 #[.agg #[.int .i64 T.W, .int .i64 T.L.length, .slice A T.L.length c, .int .i64 T.row, .int .i64 T.col, .bool T.y.b, .bool T.y.u, .bool T.y.i, .int .i64 T.y.f, .int .i64 T.y.g, .bool T.pend, .bool T.seen, .bool T.mark, .int .i64 T.bells, .int .i64 T.scr, vB, .bool T.joins, .int .i64 T.lr, .int .i64 T.lc], .int .u8 d.toNat] W fun e w' => ∃ V, e = .returned V ∧ RtV w' (fun b => DD w D b ∨ W.heap.size ≤ b) V T9 vB ∧ Below W.heap.size W w') := Lib.hid (fun W A c hr => by rw [hT9]; exact rcontrol_any hr HK.out HV.out d)
  rw [← hT9]
  obtain ⟨W0, HW0, HS0⟩ := rt_start (vB := vB) h
  have e0_0 := HC0.out _ HS0.out.bel
  clear hcx hk hv hS hn hB h hl hT9
  go_enter Tryz.func27, Tryz.ntmps27
  go_upto_region 1 with fail
  rw [← HW0.out]
  clear HW0
  go_upto_region 11 with (fail)
  have CN := cell_regrown e0_0
  clear e0_0
  refine wp_region_below_tail 4 (by kernel_rfl) (by kernel_rfl) ?_
  simp only [List.take_succ_cons, List.take_zero, List.drop_succ_cons, List.drop_zero]
  refine quiet_load_mid rfl _ _ rfl w.heap.size 0 rfl (rtC T A c vB) _ (fun w' hw' => ?_) Tryz.underlying34 rfl rt_size ?_
  · obtain ⟨p, rfl⟩ := hw'
    exact (HS0.out.below (below_regrown W0 p.d p.os)).x.whole
  repeat (first
    | go_big_quiet_step (fail)
    | quiet_step (fail))
  refine wpQuiet_nil ?_
  intro _ hw'
  obtain ⟨⟨dq, osq⟩, hw''⟩ := hw'
  subst hw''
  have HS1 := Lib.hid (HS0.out.below (below_regrown W0 dq osq))
  clear CN
  generalize grow (redrawn W0 dq) osq = w1 at HS1 ⊢
  go_wp2_with (first
      | (go_at_call 55; refine (HCT.out _ _ _ HS1.out.g).mono ?_; rintro e w3 ⟨V, rfl, ⟨A3, c3, rfl, hr3⟩, hb3⟩; have HR3 := Lib.hid (HS1.out.rowsD hr3); have HS3 := Lib.hid (HS1.out.below hb3); clear hr3 hb3)
      | ((with_reducible refine at_store 4 ?_); refine wpList_store_blk rfl _ _ _ rfl rfl (w.heap.size + 1) 0 _ rtZ (rtC T9 A3 c3 vB) rfl rfl HS3.out.z (by simp [rtC, rtZ]) rt_size (rtC_one _ _ _ HV.out) ?_; intro w9 hn9 hg9))
  exact bodyPost_ret (results_ct rfl rfl rfl hn9.whole Tryz.underlying34 rfl rt_size) rfl ⟨_, rfl, HS3.out.outV HR3.out hg9⟩
set_option maxRecDepth 100000 in
set_option maxHeartbeats 8000000 in
theorem rfirst_c127 {w : World} {D : Nat → Prop} {A : Option Addr} {c : Nat} {T : TS} {vB : Value} (h : RfAt w D A c T.L) (hk : TOk T) (hv : vB.oneCell' = true) (B : List UInt8) (hl : B.length ≤ 100000000) (b off n cb : Nat) (hn : n = B.length) (hcb : n ≤ cb) (hS : Sl w w.heap.size (some ⟨b, off, none⟩) (bv B)) (d : UInt8) (m : List UInt8) (hB : B = d :: m) (hd : ((d.toNat : Int) == 27) = false) (h32 : ¬ (d.toNat : Int) < 32) (h127 : ((d.toNat : Int) == 127) = true) :
    Calls Tryz.prog 27 #[.agg #[.int .i64 T.W, .int .i64 T.L.length, .slice A T.L.length c, .int .i64 T.row, .int .i64 T.col, .bool T.y.b, .bool T.y.u, .bool T.y.i, .int .i64 T.y.f, .int .i64 T.y.g, .bool T.pend, .bool T.seen, .bool T.mark, .int .i64 T.bells, .int .i64 T.scr, vB, .bool T.joins, .int .i64 T.lr, .int .i64 T.lc], .slice (some ⟨b, off, none⟩) n cb] w fun e w' => ∃ V, e = .returned (.tuple #[V, .int .i64 (1)]) ∧ RtV w' (fun b => D b ∨ w.heap.size ≤ b) V (ctlT T d) vB ∧ Below w.heap.size w w' := by
  have HK := Lib.hid hk
  have HV := Lib.hid hv
  obtain ⟨b', off', hA, hbb, hcx⟩ := hS.open_ (by rw [bv_length]; rw [hB]; simp)
  injection hA with hA
  injection hA with e1 e2
  subst e1 e2
  have HC0 : Hid (∀ W, Below w.heap.size w W → W.cell? ⟨b, off, none⟩ = some (.int .u8 (d.toNat))) := Lib.hid (fun W hW => (hW.cell (p := ⟨b, off, none⟩) hbb).trans (hcx 0 _ (by rw [hB]; rfl)))
  have h0n : 0 < n := by rw [hn, hB]; simp
  have h0i : (0 : Int) < (n : Int) := by omega
  have HN := Lib.hid hn
  have HSL := Lib.hid hS
  obtain ⟨T9, hT9⟩ : ∃ T9, T9 = ctlT T d := ⟨_, rfl⟩
  have HCT : Hid (∀ W A c, RfAt W (DD w D) A c T.L → Calls Tryz.prog 55 #[.agg #[.int .i64 T.W, .int .i64 T.L.length, .slice A T.L.length c, .int .i64 T.row, .int .i64 T.col, .bool T.y.b, .bool T.y.u, .bool T.y.i, .int .i64 T.y.f, .int .i64 T.y.g, .bool T.pend, .bool T.seen, .bool T.mark, .int .i64 T.bells, .int .i64 T.scr, vB, .bool T.joins, .int .i64 T.lr, .int .i64 T.lc], .int .u8 d.toNat] W fun e w' => ∃ V, e = .returned V ∧ RtV w' (fun b => DD w D b ∨ W.heap.size ≤ b) V T9 vB ∧ Below W.heap.size W w') := Lib.hid (fun W A c hr => by rw [hT9]; exact rcontrol_any hr HK.out HV.out d)
  rw [← hT9]
  obtain ⟨W0, HW0, HS0⟩ := rt_start (vB := vB) h
  have e0_0 := HC0.out _ HS0.out.bel
  clear hcx hk hv hS hn hB h hl hT9
  go_enter Tryz.func27, Tryz.ntmps27
  go_upto_region 1 with fail
  rw [← HW0.out]
  clear HW0
  go_upto_region 11 with (fail)
  have CN := cell_regrown e0_0
  clear e0_0
  refine wp_region_below_tail 4 (by kernel_rfl) (by kernel_rfl) ?_
  simp only [List.take_succ_cons, List.take_zero, List.drop_succ_cons, List.drop_zero]
  refine quiet_load_mid rfl _ _ rfl w.heap.size 0 rfl (rtC T A c vB) _ (fun w' hw' => ?_) Tryz.underlying34 rfl rt_size ?_
  · obtain ⟨p, rfl⟩ := hw'
    exact (HS0.out.below (below_regrown W0 p.d p.os)).x.whole
  repeat (first
    | go_big_quiet_step (fail)
    | quiet_step (fail))
  refine wpQuiet_nil ?_
  intro _ hw'
  obtain ⟨⟨dq, osq⟩, hw''⟩ := hw'
  subst hw''
  have HS1 := Lib.hid (HS0.out.below (below_regrown W0 dq osq))
  clear CN
  generalize grow (redrawn W0 dq) osq = w1 at HS1 ⊢
  go_wp2_with (first
      | (go_at_call 55; refine (HCT.out _ _ _ HS1.out.g).mono ?_; rintro e w3 ⟨V, rfl, ⟨A3, c3, rfl, hr3⟩, hb3⟩; have HR3 := Lib.hid (HS1.out.rowsD hr3); have HS3 := Lib.hid (HS1.out.below hb3); clear hr3 hb3)
      | ((with_reducible refine at_store 4 ?_); refine wpList_store_blk rfl _ _ _ rfl rfl (w.heap.size + 1) 0 _ rtZ (rtC T9 A3 c3 vB) rfl rfl HS3.out.z (by simp [rtC, rtZ]) rt_size (rtC_one _ _ _ HV.out) ?_; intro w9 hn9 hg9))
  exact bodyPost_ret (results_ct rfl rfl rfl hn9.whole Tryz.underlying34 rfl rt_size) rfl ⟨_, rfl, HS3.out.outV HR3.out hg9⟩
set_option maxRecDepth 100000 in
set_option maxHeartbeats 8000000 in
theorem rfirst_more {w : World} {D : Nat → Prop} {A : Option Addr} {c : Nat} {T : TS} {vB : Value} (h : RfAt w D A c T.L) (hk : TOk T) (hv : vB.oneCell' = true) (B : List UInt8) (hl : B.length ≤ 100000000) (b off n cb : Nat) (hn : n = B.length) (hcb : n ≤ cb) (hS : Sl w w.heap.size (some ⟨b, off, none⟩) (bv B)) (d : UInt8) (m : List UInt8) (hB : B = d :: m) (hd : ((d.toNat : Int) == 27) = false) (h32 : ¬ (d.toNat : Int) < 32) (h127 : ((d.toNat : Int) == 127) = false) (r z : Int) (hnx : nx B = (r, z, true)) :
    Calls Tryz.prog 27 #[.agg #[.int .i64 T.W, .int .i64 T.L.length, .slice A T.L.length c, .int .i64 T.row, .int .i64 T.col, .bool T.y.b, .bool T.y.u, .bool T.y.i, .int .i64 T.y.f, .int .i64 T.y.g, .bool T.pend, .bool T.seen, .bool T.mark, .int .i64 T.bells, .int .i64 T.scr, vB, .bool T.joins, .int .i64 T.lr, .int .i64 T.lc], .slice (some ⟨b, off, none⟩) n cb] w fun e w' => ∃ V, e = .returned (.tuple #[V, .int .i64 (0)]) ∧ RtV w' (fun b => D b ∨ w.heap.size ≤ b) V (T) vB ∧ Below w.heap.size w w' := by
  have HK := Lib.hid hk
  have HV := Lib.hid hv
  obtain ⟨b', off', hA, hbb, hcx⟩ := hS.open_ (by rw [bv_length]; rw [hB]; simp)
  injection hA with hA
  injection hA with e1 e2
  subst e1 e2
  have HC0 : Hid (∀ W, Below w.heap.size w W → W.cell? ⟨b, off, none⟩ = some (.int .u8 (d.toNat))) := Lib.hid (fun W hW => (hW.cell (p := ⟨b, off, none⟩) hbb).trans (hcx 0 _ (by rw [hB]; rfl)))
  have h0n : 0 < n := by rw [hn, hB]; simp
  have h0i : (0 : Int) < (n : Int) := by omega
  have HN := Lib.hid hn
  have HSL := Lib.hid hS
  have HNX : Hid (∀ W, Below w.heap.size w W → Calls Tryz.prog 56 #[.slice (some ⟨b, off, none⟩) n cb] W fun e w' => e = .returned (.tuple #[.int .i32 r, .int .i64 z, .bool true]) ∧ Below W.heap.size W w') := Lib.hid (fun W hW => by have h9 := rnext_any _ n cb B W hn (by omega) (by omega) ((hS.below hW).more hW.size); rw [hnx] at h9; exact h9)
  obtain ⟨W0, HW0, HS0⟩ := rt_start (vB := vB) h
  have e0_0 := HC0.out _ HS0.out.bel
  clear hcx hk hv hS hn hB h hl hnx
  go_enter Tryz.func27, Tryz.ntmps27
  go_upto_region 1 with fail
  rw [← HW0.out]
  clear HW0
  go_wp2_with (first
      | (go_at_call 56; refine (HNX.out _ HS0.out.bel).mono ?_; rintro e w1 ⟨rfl, hb1⟩; have HS1 := Lib.hid (HS0.out.below hb1); clear hb1)
      | ((with_reducible refine at_dst 77 ?_); refine wpList_load_mid rfl _ _ rfl w.heap.size 0 rfl (rtC T A c vB) _ HS1.out.x.whole Tryz.underlying34 rfl rt_size ?_)
      | ((with_reducible refine at_store 4 ?_); refine wpList_store_blk rfl _ _ _ rfl rfl (w.heap.size + 1) 0 _ rtZ (rtC T A c vB) rfl rfl HS1.out.z (by simp [rtC, rtZ]) rt_size (rtC_one _ _ _ HV.out) ?_; intro w9 hn9 hg9))
  exact bodyPost_ret (results_ct rfl rfl rfl hn9.whole Tryz.underlying34 rfl rt_size) rfl ⟨_, rfl, HS1.out.fin hg9⟩
set_option maxRecDepth 100000 in
set_option maxHeartbeats 8000000 in
theorem rfirst_rune {w : World} {D : Nat → Prop} {A : Option Addr} {c : Nat} {T : TS} {vB : Value} (h : RfAt w D A c T.L) (hk : TOk T) (hv : vB.oneCell' = true) (B : List UInt8) (hl : B.length ≤ 100000000) (b off n cb : Nat) (hn : n = B.length) (hcb : n ≤ cb) (hS : Sl w w.heap.size (some ⟨b, off, none⟩) (bv B)) (d : UInt8) (m : List UInt8) (hB : B = d :: m) (hd : ((d.toNat : Int) == 27) = false) (h32 : ¬ (d.toNat : Int) < 32) (h127 : ((d.toNat : Int) == 127) = false) (r z : Int) (hnx : nx B = (r, z, false)) :
    Calls Tryz.prog 27 #[.agg #[.int .i64 T.W, .int .i64 T.L.length, .slice A T.L.length c, .int .i64 T.row, .int .i64 T.col, .bool T.y.b, .bool T.y.u, .bool T.y.i, .int .i64 T.y.f, .int .i64 T.y.g, .bool T.pend, .bool T.seen, .bool T.mark, .int .i64 T.bells, .int .i64 T.scr, vB, .bool T.joins, .int .i64 T.lr, .int .i64 T.lc], .slice (some ⟨b, off, none⟩) n cb] w fun e w' => ∃ V, e = .returned (.tuple #[V, .int .i64 (z)]) ∧ RtV w' (fun b => D b ∨ w.heap.size ≤ b) V (runeT T r) vB ∧ Below w.heap.size w w' := by
  have HK := Lib.hid hk
  have HV := Lib.hid hv
  obtain ⟨b', off', hA, hbb, hcx⟩ := hS.open_ (by rw [bv_length]; rw [hB]; simp)
  injection hA with hA
  injection hA with e1 e2
  subst e1 e2
  have HC0 : Hid (∀ W, Below w.heap.size w W → W.cell? ⟨b, off, none⟩ = some (.int .u8 (d.toNat))) := Lib.hid (fun W hW => (hW.cell (p := ⟨b, off, none⟩) hbb).trans (hcx 0 _ (by rw [hB]; rfl)))
  have h0n : 0 < n := by rw [hn, hB]; simp
  have h0i : (0 : Int) < (n : Int) := by omega
  have HN := Lib.hid hn
  have HSL := Lib.hid hS
  have HNX : Hid (∀ W, Below w.heap.size w W → Calls Tryz.prog 56 #[.slice (some ⟨b, off, none⟩) n cb] W fun e w' => e = .returned (.tuple #[.int .i32 r, .int .i64 z, .bool false]) ∧ Below W.heap.size W w') := Lib.hid (fun W hW => by have h9 := rnext_any _ n cb B W hn (by omega) (by omega) ((hS.below hW).more hW.size); rw [hnx] at h9; exact h9)
  obtain ⟨T9, hT9⟩ : ∃ T9, T9 = runeT T r := ⟨_, rfl⟩
  have HRU : Hid (∀ W A c, RfAt W (DD w D) A c T.L → Calls Tryz.prog 57 #[.agg #[.int .i64 T.W, .int .i64 T.L.length, .slice A T.L.length c, .int .i64 T.row, .int .i64 T.col, .bool T.y.b, .bool T.y.u, .bool T.y.i, .int .i64 T.y.f, .int .i64 T.y.g, .bool T.pend, .bool T.seen, .bool T.mark, .int .i64 T.bells, .int .i64 T.scr, vB, .bool T.joins, .int .i64 T.lr, .int .i64 T.lc], .int .i32 r] W fun e w' => ∃ V, e = .returned V ∧ RtV w' (fun b => DD w D b ∨ W.heap.size ≤ b) V T9 vB ∧ Below W.heap.size W w') := Lib.hid (fun W A c hr => by rw [hT9]; exact rrune_any hr HK.out HV.out r)
  rw [← hT9]
  obtain ⟨W0, HW0, HS0⟩ := rt_start (vB := vB) h
  have e0_0 := HC0.out _ HS0.out.bel
  clear hcx hk hv hS hn hB h hl hnx hT9
  go_enter Tryz.func27, Tryz.ntmps27
  go_upto_region 1 with fail
  rw [← HW0.out]
  clear HW0
  go_wp2_with (first
      | (go_at_call 56; refine (HNX.out _ HS0.out.bel).mono ?_; rintro e w1 ⟨rfl, hb1⟩; have HS1 := Lib.hid (HS0.out.below hb1); clear hb1)
      | ((with_reducible refine at_dst 78 ?_); refine wpList_load_mid rfl _ _ rfl w.heap.size 0 rfl (rtC T A c vB) _ HS1.out.x.whole Tryz.underlying34 rfl rt_size ?_)
      | (go_at_call 57; refine (HRU.out _ _ _ HS1.out.g).mono ?_; rintro e w3 ⟨V, rfl, ⟨A3, c3, rfl, hr3⟩, hb3⟩; have HR3 := Lib.hid (HS1.out.rowsD hr3); have HS3 := Lib.hid (HS1.out.below hb3); clear hr3 hb3)
      | ((with_reducible refine at_store 4 ?_); refine wpList_store_blk rfl _ _ _ rfl rfl (w.heap.size + 1) 0 _ rtZ (rtC T9 A3 c3 vB) rfl rfl HS3.out.z (by simp [rtC, rtZ]) rt_size (rtC_one _ _ _ HV.out) ?_; intro w9 hn9 hg9))
  exact bodyPost_ret (results_ct rfl rfl rfl hn9.whole Tryz.underlying34 rfl rt_size) rfl ⟨_, rfl, HS3.out.outV HR3.out hg9⟩
theorem rfirst_any {w : World} {D : Nat → Prop} {A : Option Addr} {c : Nat} {T : TS} {vB : Value} (h : RfAt w D A c T.L) (hk : TOk T) (hv : vB.oneCell' = true) (B : List UInt8) (hl : B.length ≤ 100000000) (b off n cb : Nat) (hn : n = B.length) (hcb : n ≤ cb) (hS : Sl w w.heap.size (some ⟨b, off, none⟩) (bv B)) (hne : B ≠ []) :
    Calls Tryz.prog 27 #[.agg #[.int .i64 T.W, .int .i64 T.L.length, .slice A T.L.length c, .int .i64 T.row, .int .i64 T.col, .bool T.y.b, .bool T.y.u, .bool T.y.i, .int .i64 T.y.f, .int .i64 T.y.g, .bool T.pend, .bool T.seen, .bool T.mark, .int .i64 T.bells, .int .i64 T.scr, vB, .bool T.joins, .int .i64 T.lr, .int .i64 T.lc], .slice (some ⟨b, off, none⟩) n cb] w fun e w' => ∃ V, e = .returned (.tuple #[V, .int .i64 (stepT T B).2]) ∧ RtV w' (fun b => D b ∨ w.heap.size ≤ b) V (stepT T B).1 vB ∧ Below w.heap.size w w' := by
  cases hB : B with
  | nil => exact absurd hB hne
  | cons x l =>
    rw [← hB]
    by_cases h27 : x = 27
    · subst h27
      have e : stepT T B = (escT T B, (cutE B).1) := by rw [hB]; exact stepT_esc
      rw [e]
      cases hL : l with
      | nil =>
        rw [hL] at hB
        have e1 : escT T B = T := by rw [hB]; rfl
        have e2 : (cutE B).1 = 0 := by rw [hB]; rfl
        rw [e1, e2]
        exact rfirst_esc h hk hv B hl b off n cb hn hcb hS hB
      | cons d m =>
        rw [hL] at hB
        by_cases h91 : d = 91
        · subst h91
          have e1 : cutE B = cutS B := by unfold cutE; rw [hB]; rfl
          have e2 : escT T B = seqT T B := by unfold escT seqT; rw [e1]
          rw [e1, e2]
          exact rfirst_seq h hk hv B hl b off n cb hn hcb hS m hB
        · have hd : ((d.toNat : Int) == 91) = false := by
            simp
            exact fun e => h91 (UInt8.toNat_inj.1 (by show d.toNat = 91; omega))
          by_cases d1 : 32 ≤ (d.toNat : Int)
          · by_cases d2 : (d.toNat : Int) ≤ 126
            · have hc : cutE B = (2, false) := by
                unfold cutE; rw [hB]; simp only [List.getElem?_cons_succ, List.getElem?_cons_zero]
                rw [if_neg h91, if_pos]
                exact ⟨UInt8.le_iff_toNat_le.2 (by show 32 ≤ d.toNat; omega), UInt8.le_iff_toNat_le.2 (by show d.toNat ≤ 126; omega)⟩
              have e2 : escT T B = { T with joins := false } := by unfold escT; rw [hc]; rfl
              rw [hc, e2]
              exact rfirst_two h hk hv B hl b off n cb hn hcb hS d m hB hd d1 d2
            · have hc : cutE B = (1, false) := by
                unfold cutE; rw [hB]; simp only [List.getElem?_cons_succ, List.getElem?_cons_zero]
                rw [if_neg h91, if_neg]
                rintro ⟨_, h2⟩
                have := UInt8.le_iff_toNat_le.1 h2
                have : d.toNat ≤ 126 := this
                omega
              have e2 : escT T B = { T with joins := false } := by unfold escT; rw [hc]; rfl
              rw [hc, e2]
              exact rfirst_hi h hk hv B hl b off n cb hn hcb hS d m hB hd d1 d2
          · have hc : cutE B = (1, false) := by
              unfold cutE; rw [hB]; simp only [List.getElem?_cons_succ, List.getElem?_cons_zero]
              rw [if_neg h91, if_neg]
              rintro ⟨h2, _⟩
              have := UInt8.le_iff_toNat_le.1 h2
              have : 32 ≤ d.toNat := this
              omega
            have e2 : escT T B = { T with joins := false } := by unfold escT; rw [hc]; rfl
            rw [hc, e2]
            exact rfirst_lo h hk hv B hl b off n cb hn hcb hS d m hB hd d1
    · have hd : ((x.toNat : Int) == 27) = false := by
        simp
        exact fun e => h27 (UInt8.toNat_inj.1 (by show x.toNat = 27; omega))
      by_cases h32 : (x.toNat : Int) < 32
      · have e : stepT T B = (ctlT T x, 1) := by rw [hB]; exact stepT_ctl h27 (.inl (UInt8.lt_iff_toNat_lt.2 (by show x.toNat < 32; omega)))
        rw [e]
        exact rfirst_c32 h hk hv B hl b off n cb hn hcb hS x l hB hd h32
      · by_cases h127 : x = 127
        · subst h127
          have e : stepT T B = (ctlT T 127, 1) := by rw [hB]; exact stepT_ctl h27 (.inr rfl)
          rw [e]
          exact rfirst_c127 h hk hv B hl b off n cb hn hcb hS 127 l hB hd h32 rfl
        · have h127' : ((x.toNat : Int) == 127) = false := by
            simp
            exact fun e => h127 (UInt8.toNat_inj.1 (by show x.toNat = 127; omega))
          have e : stepT T B = if (nx B).2.2 = true then (T, 0) else (runeT T (nx B).1, (nx B).2.1.toNat) := by
            rw [hB]
            refine stepT_rune h27 (fun e => ?_)
            rcases e with e | e
            · have := UInt8.lt_iff_toNat_lt.1 e
              have : x.toNat < 32 := this
              omega
            · exact h127 e
          rw [e]
          obtain ⟨r, z, q, hq⟩ : ∃ r z q, nx B = (r, z, q) := ⟨_, _, _, rfl⟩
          cases q with
          | true =>
            rw [hq, if_pos rfl]
            exact rfirst_more h hk hv B hl b off n cb hn hcb hS x l hB hd h32 h127' r z hq
          | false =>
            have hz := (nx_n B (by rw [hq])).1
            rw [hq] at hz
            rw [hq, if_neg (by simp)]
            have hzz : ((z.toNat : Nat) : Int) = z := by simp only at hz; omega
            simp only [hzz]
            exact rfirst_rune h hk hv B hl b off n cb hn hcb hS x l hB hd h32 h127' r z hq
end Go.Proofs.YtfmkeeaenjeneaaGreatDoor
