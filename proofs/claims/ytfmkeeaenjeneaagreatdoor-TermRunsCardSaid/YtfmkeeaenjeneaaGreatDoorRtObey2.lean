/-
  Walks: the reference's obeyed where modes turn; obeyed, whole.
-/
import Derived.Test.YtfmkeeaenjeneaaGreatDoorRtObey
namespace Go.Proofs.YtfmkeeaenjeneaaGreatDoor
open Go.RowKit Go.Sort
set_option linter.unusedVariables false
set_option linter.unusedSimpArgs false

theorem grown_cell {w w' : World} {r b o : Nat} {v : Value} (hg : w.grownBy w' (some r)) (hb : b ≠ r) (h : w.cell? ⟨b, o, none⟩ = some v) : w'.cell? ⟨b, o, none⟩ = some v :=
  (World.cell?_of_block (w := w) (a := ⟨b, o, none⟩) (hg.block b (World.block_lt_of_cell? _ _ h) (fun e => hb (Option.some.inj e)))).trans h
def modeQ (q : Bool) (t : TS) (n : Int) : TS := if n = 25 then { t with seen := q } else if n = 2004 then { t with mark := q } else t
theorem modeQ_L (q : Bool) (t : TS) (n : Int) : (modeQ q t n).L = t.L := by unfold modeQ; split; rfl; split <;> rfl
set_option maxRecDepth 100000 in
set_option maxHeartbeats 8000000 in
theorem robey_P_h {w : World} {D : Nat → Prop} {A : Option Addr} {c : Nat} {T : TS} {vB : Value} (h : RfAt w D A c T.L) (hk : TOk T) (hv : vB.oneCell' = true) (ps : List UInt8) (f : UInt8) (b off n cb : Nat) (hn : n = ps.length + 1) (h31 : ps.length ≤ 60) (hcb : n ≤ cb) (hS : Sl w w.heap.size (some ⟨b, off, none⟩) (bv (ps ++ [f]))) (c0 : UInt8) (h0 : ps[0]? = some c0) (h63 : c0 = 63) (har : areN ps.tail = true) (hf : f = 104) :
    Calls Tryz.prog 78 #[.agg #[.int .i64 T.W, .int .i64 T.L.length, .slice A T.L.length c, .int .i64 T.row, .int .i64 T.col, .bool T.y.b, .bool T.y.u, .bool T.y.i, .int .i64 T.y.f, .int .i64 T.y.g, .bool T.pend, .bool T.seen, .bool T.mark, .int .i64 T.bells, .int .i64 T.scr, vB, .bool T.joins, .int .i64 T.lr, .int .i64 T.lc], .slice (some ⟨b, off, none⟩) n cb] w fun e w' => ∃ V, e = .returned V ∧ RtV w' (fun b => D b ∨ w.heap.size ≤ b) V ((numsT ps.tail).foldl (modeQ true) T) vB ∧ Below w.heap.size w w' := by
  have HK := Lib.hid hk
  obtain ⟨k, hkk⟩ : ∃ k, k = ps.length := ⟨_, rfl⟩
  have hnk : (n : Int) - 1 = (k : Int) := by omega
  have hkn : k < n := by omega
  have hk60 : k ≤ 60 := by omega
  have hn61 : n ≤ 61 := by omega
  obtain ⟨b', off', hA, hbb, hcx⟩ := hS.open_ (by rw [bv_length]; simp)
  injection hA with hA
  injection hA with e1 e2
  subst e1 e2
  have hcf : w.cell? ⟨b, off + k, none⟩ = some (.int .u8 f.toNat) := hcx k _ (by have := bv_get (l := ps ++ [f]) (k := k) (by simp; omega); rw [this]; simp [hkk])
  have HCF : Hid (∀ W, Below w.heap.size w W → W.cell? ⟨b, off + k, none⟩ = some (.int .u8 f.toNat)) := Lib.hid (fun W hW => (hW.cell (p := ⟨b, off + k, none⟩) hbb).trans hcf)
  have hk0 : 0 < k := by have := (List.getElem?_eq_some_iff.1 h0).1; omega
  have hki0 : (0 : Int) < (k : Int) := by omega
  have hc0 : w.cell? ⟨b, off, none⟩ = some (.int .u8 c0.toNat) := hcx 0 _ (by
    have := bv_get (l := ps ++ [f]) (k := 0) (by simp)
    rw [this]
    cases ps with
    | nil => simp at h0
    | cons x t => simp at h0; subst h0; rfl)
  have HC0 : Hid (∀ W, Below w.heap.size w W → W.cell? ⟨b, off, none⟩ = some (.int .u8 c0.toNat)) := Lib.hid (fun W hW => (hW.cell (p := ⟨b, off, none⟩) hbb).trans hc0)
  have hk1 : (k : Int) - 1 = ((k - 1 : Nat) : Int) := by omega
  have hcb1 : cb ≠ 1 := by omega
  obtain ⟨qs, hqs⟩ : ∃ qs, qs = ps.tail := ⟨_, rfl⟩
  have hsq : Sl w w.heap.size (some ⟨b, off + 1, none⟩) (bv qs) := by
    rcases Nat.eq_zero_or_pos qs.length with hz | hz
    · have : qs = [] := List.eq_nil_of_length_eq_zero hz
      rw [this]; exact .inl rfl
    · refine .inr ⟨b, off + 1, rfl, hbb, fun j u hu => ?_⟩
      have hjl : j < qs.length := by have := (List.getElem?_eq_some_iff.1 hu).1; rwa [bv_length] at this
      have := hcx (j + 1) u (by
        cases ps with
        | nil => simp at h0
        | cons x t =>
          have e : qs = t := by rw [hqs]; rfl
          rw [e] at hu hjl
          have h1 : (bv (x :: t ++ [f]))[j + 1]? = (bv (t ++ [f]))[j]? := by simp [bv]
          rw [h1, bv_get (by simp; omega)]
          rw [bv_get hjl] at hu
          rw [← hu, List.getElem_append_left hjl])
      rw [Nat.add_assoc, Nat.add_comm 1 j]
      exact this
  have HNUM : Hid (∀ W cap, Below w.heap.size w W → Calls Tryz.prog 114 #[.slice (some ⟨b, off + 1, none⟩) (k - 1) cap] W fun e w' => NumR qs W e w') := Lib.hid (fun W cap hW => rnums_any qs (by rw [hqs, List.length_tail]; omega) _ (k - 1) cap (by rw [hqs, List.length_tail, hkk]) W ((hsq.below hW).more hW.size))
  have hq63 : ((c0.toNat : Int) == 63) = true := by rw [h63]; rfl
  have d104 : ((f.toNat : Int) == 104) = true := by rw [hf]; rfl
  have HAR : Hid (areN qs = true) := Lib.hid (by rw [hqs]; exact har)
  have hlen := numsT_len qs
  have hq60 : qs.length ≤ 60 := by rw [hqs, List.length_tail]; omega
  rw [← hqs]
  obtain ⟨xs, hxs⟩ : ∃ xs, xs = numsT qs := ⟨_, rfl⟩
  rw [← hxs] at hlen ⊢
  have HXS := Lib.hid hxs
  obtain ⟨hx1, hx2⟩ := hlen
  obtain ⟨mx, hmx⟩ : ∃ mx, mx = xs.length := ⟨_, rfl⟩
  have hm1 : 0 < mx := by omega
  have hm2 : mx ≤ 200 := by omega
  have HMX := Lib.hid hmx
  have HNUM2 : Hid (∀ W cap, Below w.heap.size w W → Calls Tryz.prog 114 #[.slice (some ⟨b, off + 1, none⟩) (k - 1) cap] W fun e w' => ∃ g9 c9, e = .returned (.tuple #[.slice (some ⟨g9, 0, none⟩) mx c9, .bool true]) ∧ W.heap.size ≤ g9 ∧ (∀ (j : Nat) v, xs[j]? = some v → w'.cell? ⟨g9, j, none⟩ = some (.int .i64 v)) ∧ Below W.heap.size W w') := Lib.hid (fun W cap hW => (HNUM.out W cap hW).mono (fun e w' ⟨h1, _, h3⟩ => by
    obtain ⟨A9, c9, he, ho⟩ := h1 HAR.out
    rw [← HXS.out, ← HMX.out] at he ho
    obtain ⟨g9, cur, rfl, hge, _, _, hc⟩ := ho.some_ hm1
    exact ⟨g9, c9, he, hge, fun j v hv => hc j _ (by simp [iv, hv]), h3⟩))
  clear har hxs hx1 hx2 hmx HNUM hq60 hf
  clear hn hkk hcx hk hS hsq hqs h0 h63
  obtain ⟨W0, HW0, HS0⟩ := rt_start (vB := vB) h
  have HV := Lib.hid hv
  go_enter Tryz.func78, Tryz.ntmps78
  go_upto_region 1 with fail
  rw [← HW0.out]
  clear HW0
  have e0_f : W0.cell? ⟨b, off + k, none⟩ = some (.int .u8 f.toNat) := HCF.out _ HS0.out.bel
  have e0_c : W0.cell? ⟨b, off, none⟩ = some (.int .u8 c0.toNat) := HC0.out _ HS0.out.bel
  clear h hv
  go_wp2_with (go_at_call 114; refine (HNUM2.out _ _ HS0.out.bel).mono ?_; rintro e w2 ⟨g9, c9, rfl, hge9, hc9, hb2⟩; have HS2 := Lib.hid (HS0.out.below hb2); have HC9 := Lib.hid hc9; have hg9 : w.heap.size < g9 := (by have := HS0.out.size; omega); clear hb2 hc9 hge9 e0_f e0_c)
  go_loopw [9] (fun v9 wr => ∃ j : Nat, v9 = .int .i64 j ∧ j ≤ mx ∧ RtS w wr D ((xs.take j).foldl (modeQ true) T) A c vB ∧ (∀ (i : Nat) v, xs[i]? = some v → wr.cell? ⟨g9, i, none⟩ = some (.int .i64 v))) (fun v9 _ => mx - (intOf v9).toNat)
  case atStart => exact ⟨0, rfl, by omega, HS2.out, HC9.out⟩
  case round =>
    obtain ⟨j, rfl, hj, hs, hcl⟩ := hrel
    have HCL := Lib.hid hcl
    clear HC9 HS2 hcl
    by_cases hlt : j < mx
    · have hji : (j : Int) < mx := by omega
      have hjl : j < xs.length := by have := HMX.out; omega
      have hxk : xs[j]? = some xs[j] := List.getElem?_eq_getElem hjl
      have htk : xs.take (j + 1) = xs.take j ++ [xs[j]] := List.take_succ_eq_append_getElem hjl
      generalize xs[j] = v at hxk htk
      have hfd : (xs.take (j + 1)).foldl (modeQ true) T = modeQ true ((xs.take j).foldl (modeQ true) T) v := by rw [htk, List.foldl_append]; rfl
      generalize (xs.take j).foldl (modeQ true) T = Tk at hs hfd
      have HS3 := Lib.hid hs
      have HFD := Lib.hid hfd
      have e3_v : wr.cell? ⟨g9, j, none⟩ = some (.int .i64 v) := HCL.out j v hxk
      have hgn : g9 ≠ w.heap.size := by omega
      clear hs hfd hxk htk hjl
      by_cases h25 : v = 25
      · subst h25
        have HM : Hid (modeQ true Tk 25 = { Tk with seen := true }) := Lib.hid rfl
        go_wp2_with (((with_reducible refine at_store 68 ?_); refine wpList_store_cell rfl _ _ _ rfl rfl w.heap.size 11 _ (rtC Tk A c vB) (.bool true) rfl rfl HS3.out.x (by simp [rtC]) (by kernel_rfl) rfl ?_; intro w4 hn hg; have HS4 := Lib.hid (HS3.out.set (T' := { Tk with seen := true }) hg hn rfl); have e4_v : w4.cell? ⟨g9, j, none⟩ = some (.int .i64 25) := grown_cell hg hgn e3_v; have HC4 := Lib.hid (fun (i : Nat) v (hv : xs[i]? = some v) => grown_cell hg hgn (HCL.out i v hv)); clear hn hg))
        go_roundw
        case rel => exact ⟨j + 1, by go_num, by omega, by rw [HFD.out, HM.out]; exact HS4.out, HC4.out⟩
        case measure => simp [intOf]; omega
      · by_cases h20 : v = 2004
        · subst h20
          have HM : Hid (modeQ true Tk 2004 = { Tk with mark := true }) := Lib.hid rfl
          go_wp2_with (((with_reducible refine at_store 76 ?_); refine wpList_store_cell rfl _ _ _ rfl rfl w.heap.size 12 _ (rtC Tk A c vB) (.bool true) rfl rfl HS3.out.x (by simp [rtC]) (by kernel_rfl) rfl ?_; intro w4 hn hg; have HS4 := Lib.hid (HS3.out.set (T' := { Tk with mark := true }) hg hn rfl); have HC4 := Lib.hid (fun (i : Nat) v (hv : xs[i]? = some v) => grown_cell hg hgn (HCL.out i v hv)); clear hn hg))
          go_roundw
          case rel => exact ⟨j + 1, by go_num, by omega, by rw [HFD.out, HM.out]; exact HS4.out, HC4.out⟩
          case measure => simp [intOf]; omega
        · have q25 : (v == 25) = false := by simpa using h25
          have q20 : (v == 2004) = false := by simpa using h20
          have HM : Hid (modeQ true Tk v = Tk) := Lib.hid (by unfold modeQ; rw [if_neg h25, if_neg h20])
          clear h25 h20
          go_wp2
          go_roundw
          case rel => exact ⟨j + 1, by go_num, by omega, by rw [HFD.out, HM.out]; exact HS3.out, HCL.out⟩
          case measure => simp [intOf]; omega
    · have hji : ¬ (j : Int) < mx := by omega
      obtain rfl : j = mx := by omega
      rw [List.take_of_length_le (by have := HMX.out; omega)] at hs
      have HS3 := Lib.hid hs
      clear hs
      go_wp2_with (first
        | ((with_reducible refine at_dst 77 ?_); refine wpList_load_mid rfl _ _ rfl w.heap.size 0 rfl (rtC (xs.foldl (modeQ true) T) A c vB) _ HS3.out.x.whole Tryz.underlying34 rfl rt_size ?_)
        | ((with_reducible refine at_store 4 ?_); refine wpList_store_blk rfl _ _ _ rfl rfl (w.heap.size + 1) 0 _ rtZ (rtC (xs.foldl (modeQ true) T) A c vB) rfl rfl HS3.out.z (by simp [rtC, rtZ]) rt_size (rtC_one _ _ _ HV.out) ?_; intro w9 hn9 hg9))
      exact bodyPost_ret (results_c rfl rfl hn9.whole Tryz.underlying34 rfl rt_size) rfl ⟨_, rfl, HS3.out.fin hg9⟩
set_option maxRecDepth 100000 in
set_option maxHeartbeats 8000000 in
theorem robey_P_l {w : World} {D : Nat → Prop} {A : Option Addr} {c : Nat} {T : TS} {vB : Value} (h : RfAt w D A c T.L) (hk : TOk T) (hv : vB.oneCell' = true) (ps : List UInt8) (f : UInt8) (b off n cb : Nat) (hn : n = ps.length + 1) (h31 : ps.length ≤ 60) (hcb : n ≤ cb) (hS : Sl w w.heap.size (some ⟨b, off, none⟩) (bv (ps ++ [f]))) (c0 : UInt8) (h0 : ps[0]? = some c0) (h63 : c0 = 63) (har : areN ps.tail = true) (hf : f = 108) :
    Calls Tryz.prog 78 #[.agg #[.int .i64 T.W, .int .i64 T.L.length, .slice A T.L.length c, .int .i64 T.row, .int .i64 T.col, .bool T.y.b, .bool T.y.u, .bool T.y.i, .int .i64 T.y.f, .int .i64 T.y.g, .bool T.pend, .bool T.seen, .bool T.mark, .int .i64 T.bells, .int .i64 T.scr, vB, .bool T.joins, .int .i64 T.lr, .int .i64 T.lc], .slice (some ⟨b, off, none⟩) n cb] w fun e w' => ∃ V, e = .returned V ∧ RtV w' (fun b => D b ∨ w.heap.size ≤ b) V ((numsT ps.tail).foldl (modeQ false) T) vB ∧ Below w.heap.size w w' := by
  have HK := Lib.hid hk
  obtain ⟨k, hkk⟩ : ∃ k, k = ps.length := ⟨_, rfl⟩
  have hnk : (n : Int) - 1 = (k : Int) := by omega
  have hkn : k < n := by omega
  have hk60 : k ≤ 60 := by omega
  have hn61 : n ≤ 61 := by omega
  obtain ⟨b', off', hA, hbb, hcx⟩ := hS.open_ (by rw [bv_length]; simp)
  injection hA with hA
  injection hA with e1 e2
  subst e1 e2
  have hcf : w.cell? ⟨b, off + k, none⟩ = some (.int .u8 f.toNat) := hcx k _ (by have := bv_get (l := ps ++ [f]) (k := k) (by simp; omega); rw [this]; simp [hkk])
  have HCF : Hid (∀ W, Below w.heap.size w W → W.cell? ⟨b, off + k, none⟩ = some (.int .u8 f.toNat)) := Lib.hid (fun W hW => (hW.cell (p := ⟨b, off + k, none⟩) hbb).trans hcf)
  have hk0 : 0 < k := by have := (List.getElem?_eq_some_iff.1 h0).1; omega
  have hki0 : (0 : Int) < (k : Int) := by omega
  have hc0 : w.cell? ⟨b, off, none⟩ = some (.int .u8 c0.toNat) := hcx 0 _ (by
    have := bv_get (l := ps ++ [f]) (k := 0) (by simp)
    rw [this]
    cases ps with
    | nil => simp at h0
    | cons x t => simp at h0; subst h0; rfl)
  have HC0 : Hid (∀ W, Below w.heap.size w W → W.cell? ⟨b, off, none⟩ = some (.int .u8 c0.toNat)) := Lib.hid (fun W hW => (hW.cell (p := ⟨b, off, none⟩) hbb).trans hc0)
  have hk1 : (k : Int) - 1 = ((k - 1 : Nat) : Int) := by omega
  have hcb1 : cb ≠ 1 := by omega
  obtain ⟨qs, hqs⟩ : ∃ qs, qs = ps.tail := ⟨_, rfl⟩
  have hsq : Sl w w.heap.size (some ⟨b, off + 1, none⟩) (bv qs) := by
    rcases Nat.eq_zero_or_pos qs.length with hz | hz
    · have : qs = [] := List.eq_nil_of_length_eq_zero hz
      rw [this]; exact .inl rfl
    · refine .inr ⟨b, off + 1, rfl, hbb, fun j u hu => ?_⟩
      have hjl : j < qs.length := by have := (List.getElem?_eq_some_iff.1 hu).1; rwa [bv_length] at this
      have := hcx (j + 1) u (by
        cases ps with
        | nil => simp at h0
        | cons x t =>
          have e : qs = t := by rw [hqs]; rfl
          rw [e] at hu hjl
          have h1 : (bv (x :: t ++ [f]))[j + 1]? = (bv (t ++ [f]))[j]? := by simp [bv]
          rw [h1, bv_get (by simp; omega)]
          rw [bv_get hjl] at hu
          rw [← hu, List.getElem_append_left hjl])
      rw [Nat.add_assoc, Nat.add_comm 1 j]
      exact this
  have HNUM : Hid (∀ W cap, Below w.heap.size w W → Calls Tryz.prog 114 #[.slice (some ⟨b, off + 1, none⟩) (k - 1) cap] W fun e w' => NumR qs W e w') := Lib.hid (fun W cap hW => rnums_any qs (by rw [hqs, List.length_tail]; omega) _ (k - 1) cap (by rw [hqs, List.length_tail, hkk]) W ((hsq.below hW).more hW.size))
  have hq63 : ((c0.toNat : Int) == 63) = true := by rw [h63]; rfl
  have d104 : ((f.toNat : Int) == 104) = false := by rw [hf]; rfl
  have d108 : ((f.toNat : Int) == 108) = true := by rw [hf]; rfl
  have HAR : Hid (areN qs = true) := Lib.hid (by rw [hqs]; exact har)
  have hlen := numsT_len qs
  have hq60 : qs.length ≤ 60 := by rw [hqs, List.length_tail]; omega
  rw [← hqs]
  obtain ⟨xs, hxs⟩ : ∃ xs, xs = numsT qs := ⟨_, rfl⟩
  rw [← hxs] at hlen ⊢
  have HXS := Lib.hid hxs
  obtain ⟨hx1, hx2⟩ := hlen
  obtain ⟨mx, hmx⟩ : ∃ mx, mx = xs.length := ⟨_, rfl⟩
  have hm1 : 0 < mx := by omega
  have hm2 : mx ≤ 200 := by omega
  have HMX := Lib.hid hmx
  have HNUM2 : Hid (∀ W cap, Below w.heap.size w W → Calls Tryz.prog 114 #[.slice (some ⟨b, off + 1, none⟩) (k - 1) cap] W fun e w' => ∃ g9 c9, e = .returned (.tuple #[.slice (some ⟨g9, 0, none⟩) mx c9, .bool true]) ∧ W.heap.size ≤ g9 ∧ (∀ (j : Nat) v, xs[j]? = some v → w'.cell? ⟨g9, j, none⟩ = some (.int .i64 v)) ∧ Below W.heap.size W w') := Lib.hid (fun W cap hW => (HNUM.out W cap hW).mono (fun e w' ⟨h1, _, h3⟩ => by
    obtain ⟨A9, c9, he, ho⟩ := h1 HAR.out
    rw [← HXS.out, ← HMX.out] at he ho
    obtain ⟨g9, cur, rfl, hge, _, _, hc⟩ := ho.some_ hm1
    exact ⟨g9, c9, he, hge, fun j v hv => hc j _ (by simp [iv, hv]), h3⟩))
  clear har hxs hx1 hx2 hmx HNUM hq60 hf
  clear hn hkk hcx hk hS hsq hqs h0 h63
  obtain ⟨W0, HW0, HS0⟩ := rt_start (vB := vB) h
  have HV := Lib.hid hv
  go_enter Tryz.func78, Tryz.ntmps78
  go_upto_region 1 with fail
  rw [← HW0.out]
  clear HW0
  have e0_f : W0.cell? ⟨b, off + k, none⟩ = some (.int .u8 f.toNat) := HCF.out _ HS0.out.bel
  have e0_c : W0.cell? ⟨b, off, none⟩ = some (.int .u8 c0.toNat) := HC0.out _ HS0.out.bel
  clear h hv
  go_wp2_with (go_at_call 114; refine (HNUM2.out _ _ HS0.out.bel).mono ?_; rintro e w2 ⟨g9, c9, rfl, hge9, hc9, hb2⟩; have HS2 := Lib.hid (HS0.out.below hb2); have HC9 := Lib.hid hc9; have hg9 : w.heap.size < g9 := (by have := HS0.out.size; omega); clear hb2 hc9 hge9 e0_f e0_c)
  go_loopw [9] (fun v9 wr => ∃ j : Nat, v9 = .int .i64 j ∧ j ≤ mx ∧ RtS w wr D ((xs.take j).foldl (modeQ false) T) A c vB ∧ (∀ (i : Nat) v, xs[i]? = some v → wr.cell? ⟨g9, i, none⟩ = some (.int .i64 v))) (fun v9 _ => mx - (intOf v9).toNat)
  case atStart => exact ⟨0, rfl, by omega, HS2.out, HC9.out⟩
  case round =>
    obtain ⟨j, rfl, hj, hs, hcl⟩ := hrel
    have HCL := Lib.hid hcl
    clear HC9 HS2 hcl
    by_cases hlt : j < mx
    · have hji : (j : Int) < mx := by omega
      have hjl : j < xs.length := by have := HMX.out; omega
      have hxk : xs[j]? = some xs[j] := List.getElem?_eq_getElem hjl
      have htk : xs.take (j + 1) = xs.take j ++ [xs[j]] := List.take_succ_eq_append_getElem hjl
      generalize xs[j] = v at hxk htk
      have hfd : (xs.take (j + 1)).foldl (modeQ false) T = modeQ false ((xs.take j).foldl (modeQ false) T) v := by rw [htk, List.foldl_append]; rfl
      generalize (xs.take j).foldl (modeQ false) T = Tk at hs hfd
      have HS3 := Lib.hid hs
      have HFD := Lib.hid hfd
      have e3_v : wr.cell? ⟨g9, j, none⟩ = some (.int .i64 v) := HCL.out j v hxk
      have hgn : g9 ≠ w.heap.size := by omega
      clear hs hfd hxk htk hjl
      by_cases h25 : v = 25
      · subst h25
        have HM : Hid (modeQ false Tk 25 = { Tk with seen := false }) := Lib.hid rfl
        go_wp2_with (((with_reducible refine at_store 68 ?_); refine wpList_store_cell rfl _ _ _ rfl rfl w.heap.size 11 _ (rtC Tk A c vB) (.bool false) rfl rfl HS3.out.x (by simp [rtC]) (by kernel_rfl) rfl ?_; intro w4 hn hg; have HS4 := Lib.hid (HS3.out.set (T' := { Tk with seen := false }) hg hn rfl); have e4_v : w4.cell? ⟨g9, j, none⟩ = some (.int .i64 25) := grown_cell hg hgn e3_v; have HC4 := Lib.hid (fun (i : Nat) v (hv : xs[i]? = some v) => grown_cell hg hgn (HCL.out i v hv)); clear hn hg))
        go_roundw
        case rel => exact ⟨j + 1, by go_num, by omega, by rw [HFD.out, HM.out]; exact HS4.out, HC4.out⟩
        case measure => simp [intOf]; omega
      · by_cases h20 : v = 2004
        · subst h20
          have HM : Hid (modeQ false Tk 2004 = { Tk with mark := false }) := Lib.hid rfl
          go_wp2_with (((with_reducible refine at_store 76 ?_); refine wpList_store_cell rfl _ _ _ rfl rfl w.heap.size 12 _ (rtC Tk A c vB) (.bool false) rfl rfl HS3.out.x (by simp [rtC]) (by kernel_rfl) rfl ?_; intro w4 hn hg; have HS4 := Lib.hid (HS3.out.set (T' := { Tk with mark := false }) hg hn rfl); have HC4 := Lib.hid (fun (i : Nat) v (hv : xs[i]? = some v) => grown_cell hg hgn (HCL.out i v hv)); clear hn hg))
          go_roundw
          case rel => exact ⟨j + 1, by go_num, by omega, by rw [HFD.out, HM.out]; exact HS4.out, HC4.out⟩
          case measure => simp [intOf]; omega
        · have q25 : (v == 25) = false := by simpa using h25
          have q20 : (v == 2004) = false := by simpa using h20
          have HM : Hid (modeQ false Tk v = Tk) := Lib.hid (by unfold modeQ; rw [if_neg h25, if_neg h20])
          clear h25 h20
          go_wp2
          go_roundw
          case rel => exact ⟨j + 1, by go_num, by omega, by rw [HFD.out, HM.out]; exact HS3.out, HCL.out⟩
          case measure => simp [intOf]; omega
    · have hji : ¬ (j : Int) < mx := by omega
      obtain rfl : j = mx := by omega
      rw [List.take_of_length_le (by have := HMX.out; omega)] at hs
      have HS3 := Lib.hid hs
      clear hs
      go_wp2_with (first
        | ((with_reducible refine at_dst 77 ?_); refine wpList_load_mid rfl _ _ rfl w.heap.size 0 rfl (rtC (xs.foldl (modeQ false) T) A c vB) _ HS3.out.x.whole Tryz.underlying34 rfl rt_size ?_)
        | ((with_reducible refine at_store 4 ?_); refine wpList_store_blk rfl _ _ _ rfl rfl (w.heap.size + 1) 0 _ rtZ (rtC (xs.foldl (modeQ false) T) A c vB) rfl rfl HS3.out.z (by simp [rtC, rtZ]) rt_size (rtC_one _ _ _ HV.out) ?_; intro w9 hn9 hg9))
      exact bodyPost_ret (results_c rfl rfl hn9.whole Tryz.underlying34 rfl rt_size) rfl ⟨_, rfl, HS3.out.fin hg9⟩
set_option maxRecDepth 100000 in
set_option maxHeartbeats 8000000 in
theorem robey_P_o {w : World} {D : Nat → Prop} {A : Option Addr} {c : Nat} {T : TS} {vB : Value} (h : RfAt w D A c T.L) (hk : TOk T) (hv : vB.oneCell' = true) (ps : List UInt8) (f : UInt8) (b off n cb : Nat) (hn : n = ps.length + 1) (h31 : ps.length ≤ 60) (hcb : n ≤ cb) (hS : Sl w w.heap.size (some ⟨b, off, none⟩) (bv (ps ++ [f]))) (c0 : UInt8) (h0 : ps[0]? = some c0) (h63 : c0 = 63) (har : areN ps.tail = true) (hf : f ≠ 104 ∧ f ≠ 108) :
    Calls Tryz.prog 78 #[.agg #[.int .i64 T.W, .int .i64 T.L.length, .slice A T.L.length c, .int .i64 T.row, .int .i64 T.col, .bool T.y.b, .bool T.y.u, .bool T.y.i, .int .i64 T.y.f, .int .i64 T.y.g, .bool T.pend, .bool T.seen, .bool T.mark, .int .i64 T.bells, .int .i64 T.scr, vB, .bool T.joins, .int .i64 T.lr, .int .i64 T.lc], .slice (some ⟨b, off, none⟩) n cb] w fun e w' => ∃ V, e = .returned V ∧ RtV w' (fun b => D b ∨ w.heap.size ≤ b) V (T) vB ∧ Below w.heap.size w w' := by
  have HK := Lib.hid hk
  obtain ⟨k, hkk⟩ : ∃ k, k = ps.length := ⟨_, rfl⟩
  have hnk : (n : Int) - 1 = (k : Int) := by omega
  have hkn : k < n := by omega
  have hk60 : k ≤ 60 := by omega
  have hn61 : n ≤ 61 := by omega
  obtain ⟨b', off', hA, hbb, hcx⟩ := hS.open_ (by rw [bv_length]; simp)
  injection hA with hA
  injection hA with e1 e2
  subst e1 e2
  have hcf : w.cell? ⟨b, off + k, none⟩ = some (.int .u8 f.toNat) := hcx k _ (by have := bv_get (l := ps ++ [f]) (k := k) (by simp; omega); rw [this]; simp [hkk])
  have HCF : Hid (∀ W, Below w.heap.size w W → W.cell? ⟨b, off + k, none⟩ = some (.int .u8 f.toNat)) := Lib.hid (fun W hW => (hW.cell (p := ⟨b, off + k, none⟩) hbb).trans hcf)
  have hk0 : 0 < k := by have := (List.getElem?_eq_some_iff.1 h0).1; omega
  have hki0 : (0 : Int) < (k : Int) := by omega
  have hc0 : w.cell? ⟨b, off, none⟩ = some (.int .u8 c0.toNat) := hcx 0 _ (by
    have := bv_get (l := ps ++ [f]) (k := 0) (by simp)
    rw [this]
    cases ps with
    | nil => simp at h0
    | cons x t => simp at h0; subst h0; rfl)
  have HC0 : Hid (∀ W, Below w.heap.size w W → W.cell? ⟨b, off, none⟩ = some (.int .u8 c0.toNat)) := Lib.hid (fun W hW => (hW.cell (p := ⟨b, off, none⟩) hbb).trans hc0)
  have hk1 : (k : Int) - 1 = ((k - 1 : Nat) : Int) := by omega
  have hcb1 : cb ≠ 1 := by omega
  obtain ⟨qs, hqs⟩ : ∃ qs, qs = ps.tail := ⟨_, rfl⟩
  have hsq : Sl w w.heap.size (some ⟨b, off + 1, none⟩) (bv qs) := by
    rcases Nat.eq_zero_or_pos qs.length with hz | hz
    · have : qs = [] := List.eq_nil_of_length_eq_zero hz
      rw [this]; exact .inl rfl
    · refine .inr ⟨b, off + 1, rfl, hbb, fun j u hu => ?_⟩
      have hjl : j < qs.length := by have := (List.getElem?_eq_some_iff.1 hu).1; rwa [bv_length] at this
      have := hcx (j + 1) u (by
        cases ps with
        | nil => simp at h0
        | cons x t =>
          have e : qs = t := by rw [hqs]; rfl
          rw [e] at hu hjl
          have h1 : (bv (x :: t ++ [f]))[j + 1]? = (bv (t ++ [f]))[j]? := by simp [bv]
          rw [h1, bv_get (by simp; omega)]
          rw [bv_get hjl] at hu
          rw [← hu, List.getElem_append_left hjl])
      rw [Nat.add_assoc, Nat.add_comm 1 j]
      exact this
  have HNUM : Hid (∀ W cap, Below w.heap.size w W → Calls Tryz.prog 114 #[.slice (some ⟨b, off + 1, none⟩) (k - 1) cap] W fun e w' => NumR qs W e w') := Lib.hid (fun W cap hW => rnums_any qs (by rw [hqs, List.length_tail]; omega) _ (k - 1) cap (by rw [hqs, List.length_tail, hkk]) W ((hsq.below hW).more hW.size))
  have hq63 : ((c0.toNat : Int) == 63) = true := by rw [h63]; rfl
  have d104 : ((f.toNat : Int) == 104) = false := by
    have : (f.toNat : Int) ≠ 104 := fun e => hf.1 (by apply UInt8.toNat_inj.1; show f.toNat = 104; omega)
    simpa using this
  have d108 : ((f.toNat : Int) == 108) = false := by
    have : (f.toNat : Int) ≠ 108 := fun e => hf.2 (by apply UInt8.toNat_inj.1; show f.toNat = 108; omega)
    simpa using this
  have HAR : Hid (areN qs = true) := Lib.hid (by rw [hqs]; exact har)
  have hlen := numsT_len qs
  have hq60 : qs.length ≤ 60 := by rw [hqs, List.length_tail]; omega
  obtain ⟨xs, hxs⟩ : ∃ xs, xs = numsT qs := ⟨_, rfl⟩
  rw [← hxs] at hlen
  have HXS := Lib.hid hxs
  obtain ⟨hx1, hx2⟩ := hlen
  obtain ⟨mx, hmx⟩ : ∃ mx, mx = xs.length := ⟨_, rfl⟩
  have hm1 : 0 < mx := by omega
  have hm2 : mx ≤ 200 := by omega
  have HMX := Lib.hid hmx
  have HNUM2 : Hid (∀ W cap, Below w.heap.size w W → Calls Tryz.prog 114 #[.slice (some ⟨b, off + 1, none⟩) (k - 1) cap] W fun e w' => ∃ g9 c9, e = .returned (.tuple #[.slice (some ⟨g9, 0, none⟩) mx c9, .bool true]) ∧ W.heap.size ≤ g9 ∧ (∀ (j : Nat) v, xs[j]? = some v → w'.cell? ⟨g9, j, none⟩ = some (.int .i64 v)) ∧ Below W.heap.size W w') := Lib.hid (fun W cap hW => (HNUM.out W cap hW).mono (fun e w' ⟨h1, _, h3⟩ => by
    obtain ⟨A9, c9, he, ho⟩ := h1 HAR.out
    rw [← HXS.out, ← HMX.out] at he ho
    obtain ⟨g9, cur, rfl, hge, _, _, hc⟩ := ho.some_ hm1
    exact ⟨g9, c9, he, hge, fun j v hv => hc j _ (by simp [iv, hv]), h3⟩))
  clear har hxs hx1 hx2 hmx HNUM hq60 hf
  clear hn hkk hcx hk hS hsq hqs h0 h63
  obtain ⟨W0, HW0, HS0⟩ := rt_start (vB := vB) h
  have HV := Lib.hid hv
  go_enter Tryz.func78, Tryz.ntmps78
  go_upto_region 1 with fail
  rw [← HW0.out]
  clear HW0
  have e0_f : W0.cell? ⟨b, off + k, none⟩ = some (.int .u8 f.toNat) := HCF.out _ HS0.out.bel
  have e0_c : W0.cell? ⟨b, off, none⟩ = some (.int .u8 c0.toNat) := HC0.out _ HS0.out.bel
  clear h hv
  go_wp2_with (go_at_call 114; refine (HNUM2.out _ _ HS0.out.bel).mono ?_; rintro e w2 ⟨g9, c9, rfl, hge9, hc9, hb2⟩; have HS2 := Lib.hid (HS0.out.below hb2); have HC9 := Lib.hid hc9; have hg9 : w.heap.size < g9 := (by have := HS0.out.size; omega); clear hb2 hc9 hge9 e0_f e0_c)
  go_loopw [9] (fun v9 wr => v9 = .int .i64 0 ∧ RtS w wr D T A c vB) (fun v9 _ => 1)
  case atStart => exact ⟨rfl, HS2.out⟩
  case round =>
    obtain ⟨rfl, hs⟩ := hrel
    have HS3 := Lib.hid hs
    have hm1i : (0 : Int) < (mx : Int) := by omega
    clear hs
    go_wp2_with (first
      | ((with_reducible refine at_dst 77 ?_); refine wpList_load_mid rfl _ _ rfl w.heap.size 0 rfl (rtC T A c vB) _ HS3.out.x.whole Tryz.underlying34 rfl rt_size ?_)
      | ((with_reducible refine at_store 4 ?_); refine wpList_store_blk rfl _ _ _ rfl rfl (w.heap.size + 1) 0 _ rtZ (rtC T A c vB) rfl rfl HS3.out.z (by simp [rtC, rtZ]) rt_size (rtC_one _ _ _ HV.out) ?_; intro w9 hn9 hg9))
    exact bodyPost_ret (results_c rfl rfl hn9.whole Tryz.underlying34 rfl rt_size) rfl ⟨_, rfl, HS3.out.fin hg9⟩
set_option maxRecDepth 100000 in
set_option maxHeartbeats 8000000 in
theorem robey_any {w : World} {D : Nat → Prop} {A : Option Addr} {c : Nat} {T : TS} {vB : Value} (h : RfAt w D A c T.L) (hk : TOk T) (hv : vB.oneCell' = true) (ps : List UInt8) (f : UInt8) (b off n cb : Nat) (hn : n = ps.length + 1) (h31 : ps.length ≤ 60) (hcb : n ≤ cb) (hS : Sl w w.heap.size (some ⟨b, off, none⟩) (bv (ps ++ [f]))) :
    Calls Tryz.prog 78 #[.agg #[.int .i64 T.W, .int .i64 T.L.length, .slice A T.L.length c, .int .i64 T.row, .int .i64 T.col, .bool T.y.b, .bool T.y.u, .bool T.y.i, .int .i64 T.y.f, .int .i64 T.y.g, .bool T.pend, .bool T.seen, .bool T.mark, .int .i64 T.bells, .int .i64 T.scr, vB, .bool T.joins, .int .i64 T.lr, .int .i64 T.lc], .slice (some ⟨b, off, none⟩) n cb] w fun e w' => ∃ V, e = .returned V ∧ RtV w' (fun b => D b ∨ w.heap.size ≤ b) V (execT T ps f) vB ∧ Below w.heap.size w w' := by
  unfold execT
  cases hp : ps with
  | nil =>
    have h0 : ps = [] := hp
    rw [← hp]
    have hpr : ¬ (ps.head? = some 63) := by rw [hp]; simp
    simp only [decide_eq_true_eq, if_neg hpr]
    cases har : areN ps with
    | false => rw [if_pos rfl]; exact robey_N0_no h hk hv ps f b off n cb hn h31 hcb hS h0 har
    | true => rw [if_neg (by simp)]; exact robey_N0_yes h hk hv ps f b off n cb hn h31 hcb hS h0 har
  | cons c0 t =>
    have h0 : ps[0]? = some c0 := by rw [hp]; rfl
    rw [← hp]
    by_cases h63 : c0 = 63
    · have hpr : ps.head? = some 63 := by rw [hp, h63]; rfl
      simp only [decide_eq_true_eq, if_pos hpr]
      cases har : areN ps.tail with
      | false => rw [if_pos rfl]; exact robey_P_no h hk hv ps f b off n cb hn h31 hcb hS c0 h0 h63 har
      | true =>
        rw [if_neg (by simp)]
        unfold modesT
        by_cases h104 : f = 104
        · rw [if_neg (by simp [h104])]
          have := robey_P_h h hk hv ps f b off n cb hn h31 hcb hS c0 h0 h63 har h104
          have e : (fun (t : TS) (n : Int) => if n = 25 then { t with seen := decide (f = 104) } else if n = 2004 then { t with mark := decide (f = 104) } else t) = modeQ true := by
            funext t n; unfold modeQ; rw [h104]; rfl
          rw [e]; exact this
        · by_cases h108 : f = 108
          · rw [if_neg (by simp [h108])]
            have := robey_P_l h hk hv ps f b off n cb hn h31 hcb hS c0 h0 h63 har h108
            have e : (fun (t : TS) (n : Int) => if n = 25 then { t with seen := decide (f = 104) } else if n = 2004 then { t with mark := decide (f = 104) } else t) = modeQ false := by
              funext t n; unfold modeQ; rw [h108]; rfl
            rw [e]; exact this
          · rw [if_pos ⟨h104, h108⟩]
            exact robey_P_o h hk hv ps f b off n cb hn h31 hcb hS c0 h0 h63 har ⟨h104, h108⟩
    · have hpr : ¬ (ps.head? = some 63) := by rw [hp]; simpa using h63
      simp only [decide_eq_true_eq, if_neg hpr]
      cases har : areN ps with
      | false => rw [if_pos rfl]; exact robey_N1_no h hk hv ps f b off n cb hn h31 hcb hS c0 h0 h63 har
      | true => rw [if_neg (by simp)]; exact robey_N1_yes h hk hv ps f b off n cb hn h31 hcb hS c0 h0 h63 har
end Go.Proofs.YtfmkeeaenjeneaaGreatDoor
