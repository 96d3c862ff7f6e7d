/-
  Walks: the reference's obeyed.
-/
import Derived.Test.YtfmkeeaenjeneaaGreatDoorRtPlain3
import Derived.Test.YtfmkeeaenjeneaaGreatDoorRtNums
namespace Go.Proofs.YtfmkeeaenjeneaaGreatDoor
open Go.RowKit Go.Sort
set_option linter.unusedVariables false
set_option linter.unusedSimpArgs false

theorem numsT_len (l : List UInt8) : 1 ≤ (numsT l).length ∧ (numsT l).length ≤ l.length + 1 := by
  have hnl : ∀ (l : List UInt8) (n : Int), 1 ≤ (numsF n l).length ∧ (numsF n l).length ≤ l.length + 1 := by
    intro l
    induction l with
    | nil => intro n; simp [numsF]
    | cons x t ih =>
      intro n
      unfold numsF
      split
      · have := ih 0; simp; omega
      · have := ih (min (n * 10 + ((x.toNat : Int) - 48)) 9999); simp; omega
  exact hnl l 0
set_option maxRecDepth 100000 in
set_option maxHeartbeats 8000000 in
theorem robey_N0_no {w : World} {D : Nat → Prop} {A : Option Addr} {c : Nat} {T : TS} {vB : Value} (h : RfAt w D A c T.L) (hk : TOk T) (hv : vB.oneCell' = true) (ps : List UInt8) (f : UInt8) (b off n cb : Nat) (hn : n = ps.length + 1) (h31 : ps.length ≤ 60) (hcb : n ≤ cb) (hS : Sl w w.heap.size (some ⟨b, off, none⟩) (bv (ps ++ [f]))) (h0 : ps = []) (har : areN ps = false) :
    Calls Tryz.prog 78 #[.agg #[.int .i64 T.W, .int .i64 T.L.length, .slice A T.L.length c, .int .i64 T.row, .int .i64 T.col, .bool T.y.b, .bool T.y.u, .bool T.y.i, .int .i64 T.y.f, .int .i64 T.y.g, .bool T.pend, .bool T.seen, .bool T.mark, .int .i64 T.bells, .int .i64 T.scr, vB, .bool T.joins, .int .i64 T.lr, .int .i64 T.lc], .slice (some ⟨b, off, none⟩) n cb] w fun e w' => ∃ V, e = .returned V ∧ RtV w' (fun b => D b ∨ w.heap.size ≤ b) V (T) vB ∧ Below w.heap.size w w' := by
  have HK := Lib.hid hk
  obtain ⟨k, hkk⟩ : ∃ k, k = ps.length := ⟨_, rfl⟩
  have hnk : (n : Int) - 1 = (k : Int) := by omega
  have hkn : k < n := by omega
  have hk60 : k ≤ 60 := by omega
  have hn61 : n ≤ 61 := by omega
  obtain ⟨b', off', hA, hbb, hcx⟩ := hS.open_ (by rw [bv_length]; simp)
  injection hA with hA
  injection hA with e1 e2
  subst e1 e2
  have hcf : w.cell? ⟨b, off + k, none⟩ = some (.int .u8 f.toNat) := hcx k _ (by have := bv_get (l := ps ++ [f]) (k := k) (by simp; omega); rw [this]; simp [hkk])
  have HCF : Hid (∀ W, Below w.heap.size w W → W.cell? ⟨b, off + k, none⟩ = some (.int .u8 f.toNat)) := Lib.hid (fun W hW => (hW.cell (p := ⟨b, off + k, none⟩) hbb).trans hcf)
  have hkz : k = 0 := by rw [hkk, h0]; rfl
  have hki0 : ¬ (0 : Int) < (k : Int) := by omega
  obtain ⟨qs, hqs⟩ : ∃ qs, qs = ps := ⟨_, rfl⟩
  have hsq : Sl w w.heap.size (some ⟨b, off, none⟩) (bv qs) := by
    have := hS.take k
    rw [bv_take, List.take_left' (by rw [hkk])] at this
    rw [hqs]; exact this
  have HNUM : Hid (∀ W cap, Below w.heap.size w W → Calls Tryz.prog 114 #[.slice (some ⟨b, off, none⟩) k cap] W fun e w' => NumR qs W e w') := Lib.hid (fun W cap hW => rnums_any qs (by rw [hqs]; omega) _ k cap (by rw [hqs, hkk]) W ((hsq.below hW).more hW.size))
  have HAR : Hid (areN qs = false) := Lib.hid (by rw [hqs]; exact har)
  clear har
  clear hn hkk hcx hk hS hsq hqs
  clear hkz h0
  obtain ⟨W0, HW0, HS0⟩ := rt_start (vB := vB) h
  have HV := Lib.hid hv
  go_enter Tryz.func78, Tryz.ntmps78
  go_upto_region 1 with fail
  rw [← HW0.out]
  clear HW0
  have e0_f : W0.cell? ⟨b, off + k, none⟩ = some (.int .u8 f.toNat) := HCF.out _ HS0.out.bel
  clear h hv
  go_wp2_with (first
    | (go_at_call 114; refine (HNUM.out _ _ HS0.out.bel).mono ?_; rintro e w2 ⟨_, hno, hb2⟩; obtain rfl := hno HAR.out; have HS2 := Lib.hid (HS0.out.below (hb2.mono (Nat.le_refl _))); clear hb2 hno)
    | ((with_reducible refine at_dst 40 ?_); refine wpList_load_mid rfl _ _ rfl w.heap.size 0 rfl (rtC T A c vB) _ HS2.out.x.whole Tryz.underlying34 rfl rt_size ?_)
    | ((with_reducible refine at_store 4 ?_); refine wpList_store_blk rfl _ _ _ rfl rfl (w.heap.size + 1) 0 _ rtZ (rtC T A c vB) rfl rfl HS2.out.z (by simp [rtC, rtZ]) rt_size (rtC_one _ _ _ HV.out) ?_; intro w9 hn9 hg9))
  exact bodyPost_ret (results_c rfl rfl hn9.whole Tryz.underlying34 rfl rt_size) rfl ⟨_, rfl, HS2.out.fin hg9⟩
set_option maxRecDepth 100000 in
set_option maxHeartbeats 8000000 in
theorem robey_N1_no {w : World} {D : Nat → Prop} {A : Option Addr} {c : Nat} {T : TS} {vB : Value} (h : RfAt w D A c T.L) (hk : TOk T) (hv : vB.oneCell' = true) (ps : List UInt8) (f : UInt8) (b off n cb : Nat) (hn : n = ps.length + 1) (h31 : ps.length ≤ 60) (hcb : n ≤ cb) (hS : Sl w w.heap.size (some ⟨b, off, none⟩) (bv (ps ++ [f]))) (c0 : UInt8) (h0 : ps[0]? = some c0) (h63 : c0 ≠ 63) (har : areN ps = false) :
    Calls Tryz.prog 78 #[.agg #[.int .i64 T.W, .int .i64 T.L.length, .slice A T.L.length c, .int .i64 T.row, .int .i64 T.col, .bool T.y.b, .bool T.y.u, .bool T.y.i, .int .i64 T.y.f, .int .i64 T.y.g, .bool T.pend, .bool T.seen, .bool T.mark, .int .i64 T.bells, .int .i64 T.scr, vB, .bool T.joins, .int .i64 T.lr, .int .i64 T.lc], .slice (some ⟨b, off, none⟩) n cb] w fun e w' => ∃ V, e = .returned V ∧ RtV w' (fun b => D b ∨ w.heap.size ≤ b) V (T) vB ∧ Below w.heap.size w w' := by
  have HK := Lib.hid hk
  obtain ⟨k, hkk⟩ : ∃ k, k = ps.length := ⟨_, rfl⟩
  have hnk : (n : Int) - 1 = (k : Int) := by omega
  have hkn : k < n := by omega
  have hk60 : k ≤ 60 := by omega
  have hn61 : n ≤ 61 := by omega
  obtain ⟨b', off', hA, hbb, hcx⟩ := hS.open_ (by rw [bv_length]; simp)
  injection hA with hA
  injection hA with e1 e2
  subst e1 e2
  have hcf : w.cell? ⟨b, off + k, none⟩ = some (.int .u8 f.toNat) := hcx k _ (by have := bv_get (l := ps ++ [f]) (k := k) (by simp; omega); rw [this]; simp [hkk])
  have HCF : Hid (∀ W, Below w.heap.size w W → W.cell? ⟨b, off + k, none⟩ = some (.int .u8 f.toNat)) := Lib.hid (fun W hW => (hW.cell (p := ⟨b, off + k, none⟩) hbb).trans hcf)
  have hk0 : 0 < k := by have := (List.getElem?_eq_some_iff.1 h0).1; omega
  have hki0 : (0 : Int) < (k : Int) := by omega
  have hc0 : w.cell? ⟨b, off, none⟩ = some (.int .u8 c0.toNat) := hcx 0 _ (by
    have := bv_get (l := ps ++ [f]) (k := 0) (by simp)
    rw [this]
    cases ps with
    | nil => simp at h0
    | cons x t => simp at h0; subst h0; rfl)
  have HC0 : Hid (∀ W, Below w.heap.size w W → W.cell? ⟨b, off, none⟩ = some (.int .u8 c0.toNat)) := Lib.hid (fun W hW => (hW.cell (p := ⟨b, off, none⟩) hbb).trans hc0)
  obtain ⟨qs, hqs⟩ : ∃ qs, qs = ps := ⟨_, rfl⟩
  have hsq : Sl w w.heap.size (some ⟨b, off, none⟩) (bv qs) := by
    have := hS.take k
    rw [bv_take, List.take_left' (by rw [hkk])] at this
    rw [hqs]; exact this
  have HNUM : Hid (∀ W cap, Below w.heap.size w W → Calls Tryz.prog 114 #[.slice (some ⟨b, off, none⟩) k cap] W fun e w' => NumR qs W e w') := Lib.hid (fun W cap hW => rnums_any qs (by rw [hqs]; omega) _ k cap (by rw [hqs, hkk]) W ((hsq.below hW).more hW.size))
  have hq63 : ((c0.toNat : Int) == 63) = false := by
    have : (c0.toNat : Int) ≠ 63 := fun e => h63 (by apply UInt8.toNat_inj.1; show c0.toNat = 63; omega)
    simpa using this
  have HAR : Hid (areN qs = false) := Lib.hid (by rw [hqs]; exact har)
  clear har
  clear hn hkk hcx hk hS hsq hqs h0 h63
  obtain ⟨W0, HW0, HS0⟩ := rt_start (vB := vB) h
  have HV := Lib.hid hv
  go_enter Tryz.func78, Tryz.ntmps78
  go_upto_region 1 with fail
  rw [← HW0.out]
  clear HW0
  have e0_f : W0.cell? ⟨b, off + k, none⟩ = some (.int .u8 f.toNat) := HCF.out _ HS0.out.bel
  have e0_c : W0.cell? ⟨b, off, none⟩ = some (.int .u8 c0.toNat) := HC0.out _ HS0.out.bel
  clear h hv
  go_wp2_with (first
    | (go_at_call 114; refine (HNUM.out _ _ HS0.out.bel).mono ?_; rintro e w2 ⟨_, hno, hb2⟩; obtain rfl := hno HAR.out; have HS2 := Lib.hid (HS0.out.below (hb2.mono (Nat.le_refl _))); clear hb2 hno)
    | ((with_reducible refine at_dst 40 ?_); refine wpList_load_mid rfl _ _ rfl w.heap.size 0 rfl (rtC T A c vB) _ HS2.out.x.whole Tryz.underlying34 rfl rt_size ?_)
    | ((with_reducible refine at_store 4 ?_); refine wpList_store_blk rfl _ _ _ rfl rfl (w.heap.size + 1) 0 _ rtZ (rtC T A c vB) rfl rfl HS2.out.z (by simp [rtC, rtZ]) rt_size (rtC_one _ _ _ HV.out) ?_; intro w9 hn9 hg9))
  exact bodyPost_ret (results_c rfl rfl hn9.whole Tryz.underlying34 rfl rt_size) rfl ⟨_, rfl, HS2.out.fin hg9⟩
set_option maxRecDepth 100000 in
set_option maxHeartbeats 8000000 in
theorem robey_P_no {w : World} {D : Nat → Prop} {A : Option Addr} {c : Nat} {T : TS} {vB : Value} (h : RfAt w D A c T.L) (hk : TOk T) (hv : vB.oneCell' = true) (ps : List UInt8) (f : UInt8) (b off n cb : Nat) (hn : n = ps.length + 1) (h31 : ps.length ≤ 60) (hcb : n ≤ cb) (hS : Sl w w.heap.size (some ⟨b, off, none⟩) (bv (ps ++ [f]))) (c0 : UInt8) (h0 : ps[0]? = some c0) (h63 : c0 = 63) (har : areN ps.tail = false) :
    Calls Tryz.prog 78 #[.agg #[.int .i64 T.W, .int .i64 T.L.length, .slice A T.L.length c, .int .i64 T.row, .int .i64 T.col, .bool T.y.b, .bool T.y.u, .bool T.y.i, .int .i64 T.y.f, .int .i64 T.y.g, .bool T.pend, .bool T.seen, .bool T.mark, .int .i64 T.bells, .int .i64 T.scr, vB, .bool T.joins, .int .i64 T.lr, .int .i64 T.lc], .slice (some ⟨b, off, none⟩) n cb] w fun e w' => ∃ V, e = .returned V ∧ RtV w' (fun b => D b ∨ w.heap.size ≤ b) V (T) vB ∧ Below w.heap.size w w' := by
  have HK := Lib.hid hk
  obtain ⟨k, hkk⟩ : ∃ k, k = ps.length := ⟨_, rfl⟩
  have hnk : (n : Int) - 1 = (k : Int) := by omega
  have hkn : k < n := by omega
  have hk60 : k ≤ 60 := by omega
  have hn61 : n ≤ 61 := by omega
  obtain ⟨b', off', hA, hbb, hcx⟩ := hS.open_ (by rw [bv_length]; simp)
  injection hA with hA
  injection hA with e1 e2
  subst e1 e2
  have hcf : w.cell? ⟨b, off + k, none⟩ = some (.int .u8 f.toNat) := hcx k _ (by have := bv_get (l := ps ++ [f]) (k := k) (by simp; omega); rw [this]; simp [hkk])
  have HCF : Hid (∀ W, Below w.heap.size w W → W.cell? ⟨b, off + k, none⟩ = some (.int .u8 f.toNat)) := Lib.hid (fun W hW => (hW.cell (p := ⟨b, off + k, none⟩) hbb).trans hcf)
  have hk0 : 0 < k := by have := (List.getElem?_eq_some_iff.1 h0).1; omega
  have hki0 : (0 : Int) < (k : Int) := by omega
  have hc0 : w.cell? ⟨b, off, none⟩ = some (.int .u8 c0.toNat) := hcx 0 _ (by
    have := bv_get (l := ps ++ [f]) (k := 0) (by simp)
    rw [this]
    cases ps with
    | nil => simp at h0
    | cons x t => simp at h0; subst h0; rfl)
  have HC0 : Hid (∀ W, Below w.heap.size w W → W.cell? ⟨b, off, none⟩ = some (.int .u8 c0.toNat)) := Lib.hid (fun W hW => (hW.cell (p := ⟨b, off, none⟩) hbb).trans hc0)
  have hk1 : (k : Int) - 1 = ((k - 1 : Nat) : Int) := by omega
  have hcb1 : cb ≠ 1 := by omega
  obtain ⟨qs, hqs⟩ : ∃ qs, qs = ps.tail := ⟨_, rfl⟩
  have hsq : Sl w w.heap.size (some ⟨b, off + 1, none⟩) (bv qs) := by
    rcases Nat.eq_zero_or_pos qs.length with hz | hz
    · have : qs = [] := List.eq_nil_of_length_eq_zero hz
      rw [this]; exact .inl rfl
    · refine .inr ⟨b, off + 1, rfl, hbb, fun j u hu => ?_⟩
      have hjl : j < qs.length := by have := (List.getElem?_eq_some_iff.1 hu).1; rwa [bv_length] at this
      have := hcx (j + 1) u (by
        cases ps with
        | nil => simp at h0
        | cons x t =>
          have e : qs = t := by rw [hqs]; rfl
          rw [e] at hu hjl
          have h1 : (bv (x :: t ++ [f]))[j + 1]? = (bv (t ++ [f]))[j]? := by simp [bv]
          rw [h1, bv_get (by simp; omega)]
          rw [bv_get hjl] at hu
          rw [← hu, List.getElem_append_left hjl])
      rw [Nat.add_assoc, Nat.add_comm 1 j]
      exact this
  have HNUM : Hid (∀ W cap, Below w.heap.size w W → Calls Tryz.prog 114 #[.slice (some ⟨b, off + 1, none⟩) (k - 1) cap] W fun e w' => NumR qs W e w') := Lib.hid (fun W cap hW => rnums_any qs (by rw [hqs, List.length_tail]; omega) _ (k - 1) cap (by rw [hqs, List.length_tail, hkk]) W ((hsq.below hW).more hW.size))
  have hq63 : ((c0.toNat : Int) == 63) = true := by rw [h63]; rfl
  have HAR : Hid (areN qs = false) := Lib.hid (by rw [hqs]; exact har)
  clear har
  clear hn hkk hcx hk hS hsq hqs h0 h63
  obtain ⟨W0, HW0, HS0⟩ := rt_start (vB := vB) h
  have HV := Lib.hid hv
  go_enter Tryz.func78, Tryz.ntmps78
  go_upto_region 1 with fail
  rw [← HW0.out]
  clear HW0
  have e0_f : W0.cell? ⟨b, off + k, none⟩ = some (.int .u8 f.toNat) := HCF.out _ HS0.out.bel
  have e0_c : W0.cell? ⟨b, off, none⟩ = some (.int .u8 c0.toNat) := HC0.out _ HS0.out.bel
  clear h hv
  go_wp2_with (first
    | (go_at_call 114; refine (HNUM.out _ _ HS0.out.bel).mono ?_; rintro e w2 ⟨_, hno, hb2⟩; obtain rfl := hno HAR.out; have HS2 := Lib.hid (HS0.out.below (hb2.mono (Nat.le_refl _))); clear hb2 hno)
    | ((with_reducible refine at_dst 40 ?_); refine wpList_load_mid rfl _ _ rfl w.heap.size 0 rfl (rtC T A c vB) _ HS2.out.x.whole Tryz.underlying34 rfl rt_size ?_)
    | ((with_reducible refine at_store 4 ?_); refine wpList_store_blk rfl _ _ _ rfl rfl (w.heap.size + 1) 0 _ rtZ (rtC T A c vB) rfl rfl HS2.out.z (by simp [rtC, rtZ]) rt_size (rtC_one _ _ _ HV.out) ?_; intro w9 hn9 hg9))
  exact bodyPost_ret (results_c rfl rfl hn9.whole Tryz.underlying34 rfl rt_size) rfl ⟨_, rfl, HS2.out.fin hg9⟩
set_option maxRecDepth 100000 in
set_option maxHeartbeats 8000000 in
theorem robey_N0_yes {w : World} {D : Nat → Prop} {A : Option Addr} {c : Nat} {T : TS} {vB : Value} (h : RfAt w D A c T.L) (hk : TOk T) (hv : vB.oneCell' = true) (ps : List UInt8) (f : UInt8) (b off n cb : Nat) (hn : n = ps.length + 1) (h31 : ps.length ≤ 60) (hcb : n ≤ cb) (hS : Sl w w.heap.size (some ⟨b, off, none⟩) (bv (ps ++ [f]))) (h0 : ps = []) (har : areN ps = true) :
    Calls Tryz.prog 78 #[.agg #[.int .i64 T.W, .int .i64 T.L.length, .slice A T.L.length c, .int .i64 T.row, .int .i64 T.col, .bool T.y.b, .bool T.y.u, .bool T.y.i, .int .i64 T.y.f, .int .i64 T.y.g, .bool T.pend, .bool T.seen, .bool T.mark, .int .i64 T.bells, .int .i64 T.scr, vB, .bool T.joins, .int .i64 T.lr, .int .i64 T.lc], .slice (some ⟨b, off, none⟩) n cb] w fun e w' => ∃ V, e = .returned V ∧ RtV w' (fun b => D b ∨ w.heap.size ≤ b) V (if f = 109 then { T with y := (numsT ps).foldl styT T.y } else plainT T ((numsT ps).getD 0 0) ((numsT ps).getD 1 0) f) vB ∧ Below w.heap.size w w' := by
  have HK := Lib.hid hk
  obtain ⟨k, hkk⟩ : ∃ k, k = ps.length := ⟨_, rfl⟩
  have hnk : (n : Int) - 1 = (k : Int) := by omega
  have hkn : k < n := by omega
  have hk60 : k ≤ 60 := by omega
  have hn61 : n ≤ 61 := by omega
  obtain ⟨b', off', hA, hbb, hcx⟩ := hS.open_ (by rw [bv_length]; simp)
  injection hA with hA
  injection hA with e1 e2
  subst e1 e2
  have hcf : w.cell? ⟨b, off + k, none⟩ = some (.int .u8 f.toNat) := hcx k _ (by have := bv_get (l := ps ++ [f]) (k := k) (by simp; omega); rw [this]; simp [hkk])
  have HCF : Hid (∀ W, Below w.heap.size w W → W.cell? ⟨b, off + k, none⟩ = some (.int .u8 f.toNat)) := Lib.hid (fun W hW => (hW.cell (p := ⟨b, off + k, none⟩) hbb).trans hcf)
  have hkz : k = 0 := by rw [hkk, h0]; rfl
  have hki0 : ¬ (0 : Int) < (k : Int) := by omega
  obtain ⟨qs, hqs⟩ : ∃ qs, qs = ps := ⟨_, rfl⟩
  have hsq : Sl w w.heap.size (some ⟨b, off, none⟩) (bv qs) := by
    have := hS.take k
    rw [bv_take, List.take_left' (by rw [hkk])] at this
    rw [hqs]; exact this
  have HNUM : Hid (∀ W cap, Below w.heap.size w W → Calls Tryz.prog 114 #[.slice (some ⟨b, off, none⟩) k cap] W fun e w' => NumR qs W e w') := Lib.hid (fun W cap hW => rnums_any qs (by rw [hqs]; omega) _ k cap (by rw [hqs, hkk]) W ((hsq.below hW).more hW.size))
  have HAR : Hid (areN qs = true) := Lib.hid (by rw [hqs]; exact har)
  have hlen := numsT_len qs
  have hq60 : qs.length ≤ 60 := by rw [hqs]; omega
  have hrg := numsF_rng qs 0 (by omega) (by omega) HAR.out
  rw [← hqs]
  obtain ⟨xs, hxs⟩ : ∃ xs, xs = numsT qs := ⟨_, rfl⟩
  have hrg' : ∀ v ∈ xs, 0 ≤ v ∧ v ≤ 9999 := by rw [hxs]; exact hrg
  rw [← hxs] at hlen ⊢
  have HXS := Lib.hid hxs
  have HRG := Lib.hid hrg'
  obtain ⟨T9, hT9⟩ : ∃ T9, T9 = (if f = 109 then { T with y := xs.foldl styT T.y } else plainT T (xs.getD 0 0) (xs.getD 1 0) f) := ⟨_, rfl⟩
  have HT9 := Lib.hid hT9
  rw [← hT9]
  obtain ⟨hx1, hx2⟩ := hlen
  have hx200 : xs.length ≤ 200 := by omega
  obtain ⟨mx, hmx⟩ : ∃ mx, mx = xs.length := ⟨_, rfl⟩
  have hm1 : 0 < mx := by omega
  have hm2 : mx ≤ 200 := by omega
  have HMX := Lib.hid hmx
  have HNUM2 : Hid (∀ W cap, Below w.heap.size w W → Calls Tryz.prog 114 #[.slice (some ⟨b, off, none⟩) k cap] W fun e w' => ∃ A9 c9, e = .returned (.tuple #[.slice A9 mx c9, .bool true]) ∧ OR w' W.heap.size 3 A9 mx c9 (iv xs) ∧ Below W.heap.size W w') := Lib.hid (fun W cap hW => (HNUM.out W cap hW).mono (fun e w' ⟨h1, _, h3⟩ => by
    obtain ⟨A9, c9, he, ho⟩ := h1 HAR.out
    rw [← HXS.out, ← HMX.out] at he ho
    exact ⟨A9, c9, he, ho, h3⟩))
  clear har hrg hrg' hxs hT9 hx1 hx2 hx200 hmx HNUM hq60
  clear hn hkk hcx hk hS hsq hqs
  clear hkz h0
  obtain ⟨W0, HW0, HS0⟩ := rt_start (vB := vB) h
  have HV := Lib.hid hv
  go_enter Tryz.func78, Tryz.ntmps78
  go_upto_region 1 with fail
  rw [← HW0.out]
  clear HW0
  have e0_f : W0.cell? ⟨b, off + k, none⟩ = some (.int .u8 f.toNat) := HCF.out _ HS0.out.bel
  clear h hv
  go_wp2_with (first
    | (go_at_call 114; refine (HNUM2.out _ _ HS0.out.bel).mono ?_; rintro e w2 ⟨A9, c9, rfl, ho9, hb2⟩; have HS2 := Lib.hid (HS0.out.below hb2); have HO9 := Lib.hid ho9.sl; clear hb2 ho9)
    | ((with_reducible refine at_dst 43 ?_); refine wpList_load_mid rfl _ _ rfl w.heap.size 0 rfl (rtC T A c vB) _ HS2.out.x.whole Tryz.underlying34 rfl rt_size ?_)
    | (go_at_call 115; refine (rplain_any HS2.out.g HK.out HV.out xs A9 mx c9 HMX.out hm1 hm2 HRG.out HO9.out f).mono ?_; rw [← HT9.out]; rintro e w3 ⟨V, rfl, ⟨A3, c3, rfl, hr3⟩, hb3⟩; have HR3 := Lib.hid (HS2.out.rowsD hr3); have HS3 := Lib.hid (HS2.out.below hb3); clear hr3 hb3)
    | ((with_reducible refine at_store 4 ?_); refine wpList_store_blk rfl _ _ _ rfl rfl (w.heap.size + 1) 0 _ rtZ (rtC T9 A3 c3 vB) rfl rfl HS3.out.z (by simp [rtC, rtZ]) rt_size (rtC_one _ _ _ HV.out) ?_; intro w9 hn9 hg9))
  exact bodyPost_ret (results_c rfl rfl hn9.whole Tryz.underlying34 rfl rt_size) rfl ⟨_, rfl, HS3.out.outV HR3.out hg9⟩
set_option maxRecDepth 100000 in
set_option maxHeartbeats 8000000 in
theorem robey_N1_yes {w : World} {D : Nat → Prop} {A : Option Addr} {c : Nat} {T : TS} {vB : Value} (h : RfAt w D A c T.L) (hk : TOk T) (hv : vB.oneCell' = true) (ps : List UInt8) (f : UInt8) (b off n cb : Nat) (hn : n = ps.length + 1) (h31 : ps.length ≤ 60) (hcb : n ≤ cb) (hS : Sl w w.heap.size (some ⟨b, off, none⟩) (bv (ps ++ [f]))) (c0 : UInt8) (h0 : ps[0]? = some c0) (h63 : c0 ≠ 63) (har : areN ps = true) :
    Calls Tryz.prog 78 #[.agg #[.int .i64 T.W, .int .i64 T.L.length, .slice A T.L.length c, .int .i64 T.row, .int .i64 T.col, .bool T.y.b, .bool T.y.u, .bool T.y.i, .int .i64 T.y.f, .int .i64 T.y.g, .bool T.pend, .bool T.seen, .bool T.mark, .int .i64 T.bells, .int .i64 T.scr, vB, .bool T.joins, .int .i64 T.lr, .int .i64 T.lc], .slice (some ⟨b, off, none⟩) n cb] w fun e w' => ∃ V, e = .returned V ∧ RtV w' (fun b => D b ∨ w.heap.size ≤ b) V (if f = 109 then { T with y := (numsT ps).foldl styT T.y } else plainT T ((numsT ps).getD 0 0) ((numsT ps).getD 1 0) f) vB ∧ Below w.heap.size w w' := by
  have HK := Lib.hid hk
  obtain ⟨k, hkk⟩ : ∃ k, k = ps.length := ⟨_, rfl⟩
  have hnk : (n : Int) - 1 = (k : Int) := by omega
  have hkn : k < n := by omega
  have hk60 : k ≤ 60 := by omega
  have hn61 : n ≤ 61 := by omega
  obtain ⟨b', off', hA, hbb, hcx⟩ := hS.open_ (by rw [bv_length]; simp)
  injection hA with hA
  injection hA with e1 e2
  subst e1 e2
  have hcf : w.cell? ⟨b, off + k, none⟩ = some (.int .u8 f.toNat) := hcx k _ (by have := bv_get (l := ps ++ [f]) (k := k) (by simp; omega); rw [this]; simp [hkk])
  have HCF : Hid (∀ W, Below w.heap.size w W → W.cell? ⟨b, off + k, none⟩ = some (.int .u8 f.toNat)) := Lib.hid (fun W hW => (hW.cell (p := ⟨b, off + k, none⟩) hbb).trans hcf)
  have hk0 : 0 < k := by have := (List.getElem?_eq_some_iff.1 h0).1; omega
  have hki0 : (0 : Int) < (k : Int) := by omega
  have hc0 : w.cell? ⟨b, off, none⟩ = some (.int .u8 c0.toNat) := hcx 0 _ (by
    have := bv_get (l := ps ++ [f]) (k := 0) (by simp)
    rw [this]
    cases ps with
    | nil => simp at h0
    | cons x t => simp at h0; subst h0; rfl)
  have HC0 : Hid (∀ W, Below w.heap.size w W → W.cell? ⟨b, off, none⟩ = some (.int .u8 c0.toNat)) := Lib.hid (fun W hW => (hW.cell (p := ⟨b, off, none⟩) hbb).trans hc0)
  obtain ⟨qs, hqs⟩ : ∃ qs, qs = ps := ⟨_, rfl⟩
  have hsq : Sl w w.heap.size (some ⟨b, off, none⟩) (bv qs) := by
    have := hS.take k
    rw [bv_take, List.take_left' (by rw [hkk])] at this
    rw [hqs]; exact this
  have HNUM : Hid (∀ W cap, Below w.heap.size w W → Calls Tryz.prog 114 #[.slice (some ⟨b, off, none⟩) k cap] W fun e w' => NumR qs W e w') := Lib.hid (fun W cap hW => rnums_any qs (by rw [hqs]; omega) _ k cap (by rw [hqs, hkk]) W ((hsq.below hW).more hW.size))
  have hq63 : ((c0.toNat : Int) == 63) = false := by
    have : (c0.toNat : Int) ≠ 63 := fun e => h63 (by apply UInt8.toNat_inj.1; show c0.toNat = 63; omega)
    simpa using this
  have HAR : Hid (areN qs = true) := Lib.hid (by rw [hqs]; exact har)
  have hlen := numsT_len qs
  have hq60 : qs.length ≤ 60 := by rw [hqs]; omega
  have hrg := numsF_rng qs 0 (by omega) (by omega) HAR.out
  rw [← hqs]
  obtain ⟨xs, hxs⟩ : ∃ xs, xs = numsT qs := ⟨_, rfl⟩
  have hrg' : ∀ v ∈ xs, 0 ≤ v ∧ v ≤ 9999 := by rw [hxs]; exact hrg
  rw [← hxs] at hlen ⊢
  have HXS := Lib.hid hxs
  have HRG := Lib.hid hrg'
  obtain ⟨T9, hT9⟩ : ∃ T9, T9 = (if f = 109 then { T with y := xs.foldl styT T.y } else plainT T (xs.getD 0 0) (xs.getD 1 0) f) := ⟨_, rfl⟩
  have HT9 := Lib.hid hT9
  rw [← hT9]
  obtain ⟨hx1, hx2⟩ := hlen
  have hx200 : xs.length ≤ 200 := by omega
  obtain ⟨mx, hmx⟩ : ∃ mx, mx = xs.length := ⟨_, rfl⟩
  have hm1 : 0 < mx := by omega
  have hm2 : mx ≤ 200 := by omega
  have HMX := Lib.hid hmx
  have HNUM2 : Hid (∀ W cap, Below w.heap.size w W → Calls Tryz.prog 114 #[.slice (some ⟨b, off, none⟩) k cap] W fun e w' => ∃ A9 c9, e = .returned (.tuple #[.slice A9 mx c9, .bool true]) ∧ OR w' W.heap.size 3 A9 mx c9 (iv xs) ∧ Below W.heap.size W w') := Lib.hid (fun W cap hW => (HNUM.out W cap hW).mono (fun e w' ⟨h1, _, h3⟩ => by
    obtain ⟨A9, c9, he, ho⟩ := h1 HAR.out
    rw [← HXS.out, ← HMX.out] at he ho
    exact ⟨A9, c9, he, ho, h3⟩))
  clear har hrg hrg' hxs hT9 hx1 hx2 hx200 hmx HNUM hq60
  clear hn hkk hcx hk hS hsq hqs h0 h63
  obtain ⟨W0, HW0, HS0⟩ := rt_start (vB := vB) h
  have HV := Lib.hid hv
  go_enter Tryz.func78, Tryz.ntmps78
  go_upto_region 1 with fail
  rw [← HW0.out]
  clear HW0
  have e0_f : W0.cell? ⟨b, off + k, none⟩ = some (.int .u8 f.toNat) := HCF.out _ HS0.out.bel
  have e0_c : W0.cell? ⟨b, off, none⟩ = some (.int .u8 c0.toNat) := HC0.out _ HS0.out.bel
  clear h hv
  go_wp2_with (first
    | (go_at_call 114; refine (HNUM2.out _ _ HS0.out.bel).mono ?_; rintro e w2 ⟨A9, c9, rfl, ho9, hb2⟩; have HS2 := Lib.hid (HS0.out.below hb2); have HO9 := Lib.hid ho9.sl; clear hb2 ho9)
    | ((with_reducible refine at_dst 43 ?_); refine wpList_load_mid rfl _ _ rfl w.heap.size 0 rfl (rtC T A c vB) _ HS2.out.x.whole Tryz.underlying34 rfl rt_size ?_)
    | (go_at_call 115; refine (rplain_any HS2.out.g HK.out HV.out xs A9 mx c9 HMX.out hm1 hm2 HRG.out HO9.out f).mono ?_; rw [← HT9.out]; rintro e w3 ⟨V, rfl, ⟨A3, c3, rfl, hr3⟩, hb3⟩; have HR3 := Lib.hid (HS2.out.rowsD hr3); have HS3 := Lib.hid (HS2.out.below hb3); clear hr3 hb3)
    | ((with_reducible refine at_store 4 ?_); refine wpList_store_blk rfl _ _ _ rfl rfl (w.heap.size + 1) 0 _ rtZ (rtC T9 A3 c3 vB) rfl rfl HS3.out.z (by simp [rtC, rtZ]) rt_size (rtC_one _ _ _ HV.out) ?_; intro w9 hn9 hg9))
  exact bodyPost_ret (results_c rfl rfl hn9.whole Tryz.underlying34 rfl rt_size) rfl ⟨_, rfl, HS3.out.outV HR3.out hg9⟩
end Go.Proofs.YtfmkeeaenjeneaaGreatDoor
