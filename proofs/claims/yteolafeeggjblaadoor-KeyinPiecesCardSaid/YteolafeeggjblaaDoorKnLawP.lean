/-
  The law KeyinPieces, walked.
-/
import Derived.Test.YteolafeeggjblaaDoorKnPcs
namespace Go.Proofs.YteolafeeggjblaaDoor
open Go.RowKit
set_option linter.unusedVariables false
set_option linter.unusedSimpArgs false

set_option maxRecDepth 100000 in
set_option maxHeartbeats 16000000 in
theorem keyinPieces_walk (w : World) (A : Option Addr) (n c : Nat) (L : List UInt8) (hn : n = L.length) (hc : n ≤ c) (hS : Sl w w.heap.size A (bv L)) (A2 : Option Addr) (n2 c2 : Nat) (L2 : List UInt8) (hn2 : n2 = L2.length) (hm2 : c2 ≤ maxLen) (hc2 : n2 ≤ c2) (hS2 : Sl w w.heap.size A2 (bv L2)) (hT : NamesT w) :
    Calls Tryd.prog 3 #[.slice A n c, .slice A2 n2 c2] w fun e w' => e = .returned (.bool true) ∧ Below w.heap.size w w' := by
  have hB3 : (L.take 300).length = min n 300 := by rw [List.length_take, ← hn, Nat.min_comm]
  have hSB : Sl w w.heap.size A (bv (L.take 300)) := by have := hS.take 300; rwa [bv_take'] at this
  generalize L.take 300 = B at hB3 hSB
  have hm3 : B.length ≤ 300 := by omega
  have hmc : B.length ≤ c := by omega
  have HSB := Lib.hid hSB
  have HS2 := Lib.hid hS2
  have HT := Lib.hid hT
  have HN2 := Lib.hid hn2
  have HM2 := Lib.hid hm2
  have HCUT := Lib.hid (kcut_any A n c hc w)
  rw [← hB3] at HCUT
  have he := run_eqs_none
  have hg := namesT_lt hT
  clear hS hS2 hSB hT hn hn2 hc hm2 hB3
  go_enter Tryd.func3, Tryd.ntmps3
  have t1 : True := trivial
  have t2 : True := trivial
  go_upto_region 5 with (first
    | (go_at_call 6; refine HCUT.out.mono ?_; rintro e w0 ⟨rfl, rfl⟩)
    | (go_at_call 7; have _t := t1; refine (dnew_any _).mono ?_; rintro e w1 ⟨rfl, hd1, hb1⟩; have HD1 := Lib.hid hd1; have HB1 := Lib.hid hb1; clear hd1 hb1 _t t1)
    | (go_at_call 7; have _t := t2; refine (dnew_any _).mono ?_; rintro e w2 ⟨rfl, hd2, hb2⟩; have HD2 := Lib.hid hd2; have HB2 := Lib.hid hb2; clear hd2 hb2 _t t2)
    | (go_at_call 7; refine (dnew_any _).mono ?_; rintro e w3 ⟨rfl, hd3, hb3⟩; have HD3 := Lib.hid hd3; have HB3 := Lib.hid hb3; clear hd3 hb3))
  clear he HCUT
  obtain ⟨i0, hi0, hz0, hz1, hz2⟩ := info_parts kv_info
  have HI0 := Lib.hid hi0
  have HZ0 := Lib.hid hz0
  have HZ1 := Lib.hid hz1
  have HZ2 := Lib.hid hz2
  clear hi0 hz0 hz1 hz2
  have l1 := HD1.out.lt
  have l2 := HD2.out.lt
  have l3 := HD3.out.lt
  have z2 := HB2.out.size
  have z3 := HB3.out.size
  have hb13 : Below w1.heap.size w1 w3 := HB2.out.trans (HB3.out.mono z2)
  have hb03 : Below w.heap.size w w3 := HB1.out.trans (hb13.mono (by omega))
  have HB03 := Lib.hid hb03
  have hd13 : DAt w3 w.heap.size (one w.heap.size) ⟨[], none⟩ := ⟨rfl, fun j hj => by rw [show j = w.heap.size from hj]; omega, HD1.out.below hb13 l1⟩
  have HSB3 := Lib.hid (HSB.out.below hb03)
  have HF1 := Lib.hid (feed_any w.heap.size (one w.heap.size) ⟨[], none⟩ A B.length c B w3 rfl (by simp; omega) hd13 (ByL.of HSB3.out) (fun g hg e => by have := sl_blk HSB3.out g hg; rw [show g = w.heap.size from e] at this; omega))
  have HD23 := Lib.hid (HD2.out.below HB3.out l2)
  clear hb13 hb03 hd13
  obtain ⟨K, hK⟩ : ∃ K, K = (feedK ⟨[], none⟩ B).2 := ⟨_, rfl⟩
  rw [← hK] at HF1
  have HK := Lib.hid hK
  have hKl : K.length ≤ 90000 := by rw [hK]; exact feedK_cnt0 B hm3
  clear hK
  go_upto_region 9 with (go_at_call 8; refine HF1.out.mono ?_; rintro e w4 ⟨v1, O1, rfl, hk1, hd4, hO1, hc4⟩; obtain ⟨A1, n1, c1, rfl, rfl, hs1, hnl1, hlo1⟩ := hk1; have HD14 := Lib.hid hd4; have HO1 := Lib.hid hO1; have HC4 := Lib.hid hc4; have HS1 := Lib.hid hs1; have HL1 := Lib.hid hlo1; clear hd4 hO1 hc4 hs1 hlo1 hnl1)
  have z4 := HC4.out.size
  have hd24 : DBlk w4 w1.heap.size [] (.pointer none) := HD23.out.chg HC4.out (fun e => by have e' : w1.heap.size = w.heap.size := e; omega)
  have hd34 : DBlk w4 w2.heap.size [] (.pointer none) := HD3.out.chg HC4.out (fun e => by have e' : w2.heap.size = w.heap.size := e; omega)
  have HD34 := Lib.hid hd34
  have hbw4 : Below w.heap.size w w4 := HB03.out.trans (HC4.out.below HB03.out.size (fun j hj => by rw [show j = w.heap.size from hj]; exact Nat.le_refl _))
  have HBW4 := Lib.hid hbw4
  have HST := Lib.hid (PcI.start w1.heap.size w4 hd24)
  have HZ3 : Hid (w.heap.size < w1.heap.size ∧ w1.heap.size < w2.heap.size ∧ w2.heap.size < w3.heap.size ∧ w3.heap.size ≤ w4.heap.size) := Lib.hid ⟨l1, l2, l3, z4⟩
  clear hd24 hd34 hbw4 HF1 z4 l1 l2 l3 z2 z3 HD1 HD2 HB1 HB2 HB3 HD23
  go_loopw [9, 11, 12] (fun v9 v11 v12 wr => ∃ (i m1 r : Nat) (Ag : Option Addr) (cg : Nat) (ks : List Kv) (O2 : Nat → Prop) (Al : Option Addr) (cl : Nat), v12 = .int .i64 (i : Int) ∧ v11 = .slice Al r cl ∧ v9 = .slice Ag ks.length cg ∧ r + m1 = B.length ∧ i ≤ 100 ∧ r ≤ cl ∧ Sl w w.heap.size Al (bv (B.drop m1)) ∧ PcI w4 wr w1.heap.size (B.take m1) O2 Ag cg ks) (fun _ _ v12 _ => 100 - (intOf v12).toNat)
  case atStart => exact ⟨0, 0, B.length, none, 0, [], one w1.heap.size, A, c, rfl, rfl, rfl, rfl, by omega, hmc, HSB.out, HST.out⟩
  case round =>
    obtain ⟨i, m1, r, Ag, cg, ks, O2, Al, cl, rfl, rfl, rfl, hrm, hi, hcl, hsl, hpc⟩ := hrel
    have HRM := Lib.hid hrm
    have hr3 : r ≤ 300 := by omega
    have HPC := Lib.hid hpc
    have HSL := Lib.hid hsl
    have HHI := Lib.hid hi
    have hbwr : Below w.heap.size w wr := HBW4.out.trans (hpc.chg.below HBW4.out.size (fun j hj => by rw [show j = w1.heap.size from hj]; have := HZ3.out; omega))
    have HBWR := Lib.hid hbwr
    have HZW : Hid (w4.heap.size ≤ wr.heap.size) := Lib.hid hpc.chg.size
    have HKC : Hid (ks.length ≤ 90000) := Lib.hid (by rw [hpc.keys]; exact feedK_cnt0 _ (by rw [List.length_take]; omega))
    have HDL : Hid ((feedK ⟨[], none⟩ (B.take m1)).1.B.length ≤ 300) := Lib.hid (by have := feedK_len (B.take m1) ⟨[], none⟩; rw [List.length_take] at this; simp at this; omega)
    have HOR : Hid (∀ j, O2 j → w.heap.size ≤ j) := Lib.hid (fun j hj => by rcases hpc.own j hj with e | e <;> have := HZ3.out <;> omega)
    clear hpc hsl hi hbwr HST hrm
    by_cases hgo : i < n2 ∧ i < 100
    · have h1 : (i : Int) < (n2 : Int) := by omega
      have h2 : (i : Int) < 100 := by omega
      have hi2 : i < L2.length := by have := HN2.out; omega
      obtain ⟨b2, of2, rfl, hb2, hcell⟩ := HS2.out.open_ (by simp [bv]; omega)
      have hx0 := hcell i _ (by simp [bv, hi2] : (bv L2)[i]? = some (.int .u8 L2[i].toNat))
      have hx : wr.cell? ⟨b2, of2 + i, none⟩ = some (.int .u8 L2[i].toNat) := (HBWR.out.cell (p := ⟨b2, of2 + i, none⟩) hb2).trans hx0
      have hbd := kbd L2[i]
      generalize (L2[i].toNat : Int) = cc at hx hbd
      have hwc : wrap64 cc = cc := by unfold wrap64; omega
      clear hcell hx0 hi2
      obtain ⟨nn, hnn, hnl⟩ : ∃ nn : Nat, min (r : Int) (cc.tmod 9) = nn ∧ nn ≤ r := ⟨(min (r : Int) (cc.tmod 9)).toNat, by have := Int.tmod_nonneg 9 hbd.1; omega, by omega⟩
      have hdl : (B.drop m1).length = r := by rw [List.length_drop]; have := HRM.out; omega
      have hln : ((B.drop m1).take nn).length = nn := by rw [List.length_take, hdl]; omega
      have hst : Sl wr w.heap.size Al (bv ((B.drop m1).take nn)) := by have := (HSL.out.below HBWR.out).take nn; rwa [bv_take'] at this
      have HF := Lib.hid (feed_any w1.heap.size O2 _ Al nn cl ((B.drop m1).take nn) wr hln.symm (by have := HDL.out; omega) HPC.out.dec (ByL.of hst) (fun g hg e => by have := sl_blk hst g hg; have := HOR.out g e; omega))
      have hcn := feedK_cnt300 ((B.drop m1).take nn) (by omega) _ HDL.out
      obtain ⟨k2, hk2⟩ : ∃ k2, k2 = (feedK (feedK ⟨[], none⟩ (B.take m1)).1 ((B.drop m1).take nn)).2 := ⟨_, rfl⟩
      obtain ⟨d5, hdd⟩ : ∃ d5, d5 = (feedK (feedK ⟨[], none⟩ (B.take m1)).1 ((B.drop m1).take nn)).1 := ⟨_, rfl⟩
      rw [← hk2] at hcn
      rw [← hk2, ← hdd] at HF
      have HCN := Lib.hid hcn
      have HK2 := Lib.hid hk2
      have HDD := Lib.hid hdd
      clear hcn hk2 hdd
      have hsd : Sl w w.heap.size (if cl = nn then Al else Al.map (·.add nn)) (bv (B.drop (m1 + nn))) := by
        have := HSL.out.drop (k := nn) (cap := cl) (by simp [bv]; have := HRM.out; omega)
        rwa [show (bv (B.drop m1)).drop nn = bv (B.drop (m1 + nn)) by simp [bv, ← List.map_drop]] at this
      have HSD := Lib.hid hsd
      have htk : B.take m1 ++ (B.drop m1).take nn = B.take (m1 + nn) := by rw [List.take_add]
      have HTK := Lib.hid htk
      clear hdl hln hst hsd htk hbd
      go_upto_region 12 with fail
      clear hx hwc hnn
      go_wp2_with (first
        | (go_at_call 8; refine HF.out.mono ?_; rintro e w5 ⟨v5, O5, rfl, hk5, hd5, hO5, hc5⟩; obtain ⟨A5, n5, c5, rfl, rfl, hs5, hnl5, _⟩ := hk5; have HD5 := Lib.hid hd5; have HO5 := Lib.hid hO5; have HC5 := Lib.hid hc5; have HS5 := Lib.hid hs5; have HN5 := Lib.hid hnl5; clear hd5 hO5 hc5 hs5 hnl5)
        | (at_builtin; (refine wpList_append_sl _ rfl (.tmp 53) (.tmp 58) _ rfl w4.heap.size 40 i0 _ 6 40 Tryd.underlying26 HI0.out HZ0.out HZ1.out HZ2.out rfl (by omega) (.slice Ag ks.length cg) ks.length (ks.flatMap Kv.cells) rfl (HPC.out.at5 HC5.out) w5.heap.size A5 k2.length c5 (k2.flatMap Kv.cells) rfl HS5.out (kc_len _) HN5.out (fun u hu => by obtain ⟨k, _, hk⟩ := List.mem_flatMap.1 hu; exact Kv.one k u hk) (by simp only [maxLen]; have := HCN.out; have := HKC.out; omega) (by have := HCN.out; have := HKC.out; omega) (by have := HZW.out; have := HC5.out.size; omega) ?_); intro v' w6 ho hg hat; obtain ⟨Ag6, cg6, rfl, hn6, _⟩ := own_of ho; rw [ownBlock_slice] at hg hat; rw [ownBlock_slice] at hat; have HPC6 := Lib.hid (HPC.out.app ((B.drop m1).take nn) HK2.out HDD.out HD5.out HO5.out HC5.out ho hn6 hg hat); clear ho hg hat hn6))
      go_roundw
      case rel => exact ⟨i + 1, m1 + nn, r - nn, Ag6, cg6, ks ++ k2, O5, _, cl - nn, by go_num, rfl, by rw [List.length_append], by have := HRM.out; omega, by omega, by omega, HSD.out, by have := HPC6.out; rw [HTK.out] at this; exact this⟩
      case measure => simp [intOf]; omega
    · have hex : ¬ i < n2 ∨ (i < n2 ∧ ¬ i < 100) := by omega
      clear hgo
      rcases hex with h1 | ⟨h1, h2⟩
      · have h3 : ¬ (i : Int) < (n2 : Int) := by omega
        go_upto_region 14 with fail
        clear h1 h3
        have hdl : (B.drop m1).length = r := by rw [List.length_drop]; have := HRM.out; omega
        have hst : Sl wr w.heap.size Al (bv (B.drop m1)) := HSL.out.below HBWR.out
        have HF := Lib.hid (feed_any w1.heap.size O2 _ Al r cl (B.drop m1) wr hdl.symm (by have := HDL.out; omega) HPC.out.dec (ByL.of hst) (fun g hg e => by have := sl_blk hst g hg; have := HOR.out g e; omega))
        have hcn := feedK_cnt300 (B.drop m1) (by omega) _ HDL.out
        obtain ⟨k2, hk2⟩ : ∃ k2, k2 = (feedK (feedK ⟨[], none⟩ (B.take m1)).1 (B.drop m1)).2 := ⟨_, rfl⟩
        obtain ⟨d5, hdd⟩ : ∃ d5, d5 = (feedK (feedK ⟨[], none⟩ (B.take m1)).1 (B.drop m1)).1 := ⟨_, rfl⟩
        rw [← hk2] at hcn
        rw [← hk2, ← hdd] at HF
        have HCN := Lib.hid hcn
        have HK2 := Lib.hid hk2
        have HDD := Lib.hid hdd
        clear hcn hk2 hdd hdl hst
        go_upto_region 16 with (first
          | (go_at_call 8; refine HF.out.mono ?_; rintro e w5 ⟨v5, O5, rfl, hk5, hd5, hO5, hc5⟩; obtain ⟨A5, n5, c5, rfl, rfl, hs5, hnl5, _⟩ := hk5; have HD5 := Lib.hid hd5; have HO5 := Lib.hid hO5; have HC5 := Lib.hid hc5; have HS5 := Lib.hid hs5; have HN5 := Lib.hid hnl5; clear hd5 hO5 hc5 hs5 hnl5)
          | (at_builtin; (refine wpList_append_sl _ rfl (.tmp 63) (.tmp 66) _ rfl w4.heap.size 40 i0 _ 6 40 Tryd.underlying26 HI0.out HZ0.out HZ1.out HZ2.out rfl (by omega) (.slice Ag ks.length cg) ks.length (ks.flatMap Kv.cells) rfl (HPC.out.at5 HC5.out) w5.heap.size A5 k2.length c5 (k2.flatMap Kv.cells) rfl HS5.out (kc_len _) HN5.out (fun u hu => by obtain ⟨k, _, hk⟩ := List.mem_flatMap.1 hu; exact Kv.one k u hk) (by simp only [maxLen]; have := HCN.out; have := HKC.out; omega) (by have := HCN.out; have := HKC.out; omega) (by have := HZW.out; have := HC5.out.size; omega) ?_); intro v' w6 ho hg hat; obtain ⟨Ag6, cg6, rfl, hn6, _⟩ := own_of ho; rw [ownBlock_slice] at hg hat; rw [ownBlock_slice] at hat; have HPC6 := Lib.hid (HPC.out.app (B.drop m1) HK2.out HDD.out HD5.out HO5.out HC5.out ho hn6 hg hat); clear ho hg hat hn6))
        have hpc6 := HPC6.out
        rw [List.take_append_drop] at hpc6
        have hkg : ks ++ k2 = K := hpc6.keys.trans HK.out.symm
        have hkl : ks.length + k2.length = K.length := by rw [← hkg, List.length_append]
        have hz46 := hpc6.chg.size
        have hd36 : DBlk w6 w2.heap.size [] (.pointer none) := HD34.out.chg hpc6.chg (fun e => by have e' : w2.heap.size = w1.heap.size := e; have := HZ3.out; omega)
        have HST3 := Lib.hid (PcI.start w2.heap.size w6 hd36)
        have hbw6 : Below w.heap.size w w6 := HBW4.out.trans (hpc6.chg.below HBW4.out.size (fun j hj => by rw [show j = w1.heap.size from hj]; have := HZ3.out; omega))
        have HBW6 := Lib.hid hbw6
        have HPCG := Lib.hid hpc6
        have HKG := Lib.hid hkg
        have HKLG := Lib.hid hkl
        have HZ46 := Lib.hid hz46
        clear hpc6 hkg hkl hz46 hd36 hbw6 HPC6 HPC HF HD5 HO5 HC5 HS5 HN5 HK2 HDD HCN HKC HZW HDL HOR HSL HBWR HRM
        go_loopw [10, 14] (fun v10 v14 wr => ∃ (j : Nat) (Aa : Option Addr) (ca : Nat) (ka : List Kv) (O3 : Nat → Prop), v14 = .int .i64 (j : Int) ∧ v10 = .slice Aa ka.length ca ∧ j ≤ B.length ∧ PcI w6 wr w2.heap.size (B.take j) O3 Aa ca ka) (fun _ v14 _ => B.length - (intOf v14).toNat)
        case atStart => exact ⟨0, none, 0, [], one w2.heap.size, rfl, rfl, by omega, HST3.out⟩
        case round =>
          obtain ⟨j, Aa, ca, ka, O3, rfl, rfl, hj, hpc⟩ := hrel
          have HPC := Lib.hid hpc
          have hbwq : Below w.heap.size w wr := HBW6.out.trans (hpc.chg.below HBW6.out.size (fun j hj => by rw [show j = w2.heap.size from hj]; have := HZ3.out; omega))
          have HBWQ := Lib.hid hbwq
          have HZW : Hid (w6.heap.size ≤ wr.heap.size) := Lib.hid hpc.chg.size
          have HKC : Hid (ka.length ≤ 90000) := Lib.hid (by rw [hpc.keys]; exact feedK_cnt0 _ (by rw [List.length_take]; omega))
          have HDL : Hid ((feedK ⟨[], none⟩ (B.take j)).1.B.length ≤ 300) := Lib.hid (by have := feedK_len (B.take j) ⟨[], none⟩; rw [List.length_take] at this; simp at this; omega)
          have HOR : Hid (∀ q, O3 q → w.heap.size ≤ q) := Lib.hid (fun q hq => by rcases hpc.own q hq with e | e <;> have := HZ3.out <;> have := HZ46.out <;> omega)
          clear hpc hbwq HST3
          by_cases hlt : j < B.length
          · have h1 : (j : Int) < (B.length : Int) := by omega
            have h2 : (j : Int) ≤ (j : Int) + 1 := by omega
            have h3 : (j : Int) + 1 ≤ (c : Int) := by omega
            have hwj : IntKind.i64.wrap ((j : Int) + 1) = (j : Int) + 1 := IntWalk.i64_in _ (by omega)
            have hln : ((B.drop j).take 1).length = 1 := by rw [List.length_take, List.length_drop]; omega
            have hst : Sl wr w.heap.size (A.map (·.add j)) (bv ((B.drop j).take 1)) := by
              have := ((HSB.out.below HBWQ.out).drop (k := j) (cap := c) (by simp [bv]; omega)).take 1
              rw [if_neg (by omega)] at this
              rwa [show ((bv B).drop j).take 1 = bv ((B.drop j).take 1) by simp [bv, ← List.map_drop, ← List.map_take]] at this
            have HF := Lib.hid (feed_any w2.heap.size O3 _ (A.map (·.add j)) 1 (c - j) ((B.drop j).take 1) wr hln.symm (by have := HDL.out; omega) HPC.out.dec (ByL.of hst) (fun g hg e => by have := sl_blk hst g hg; have := HOR.out g e; omega))
            have hcn := feedK_cnt300 ((B.drop j).take 1) (by omega) _ HDL.out
            obtain ⟨k2, hk2⟩ : ∃ k2, k2 = (feedK (feedK ⟨[], none⟩ (B.take j)).1 ((B.drop j).take 1)).2 := ⟨_, rfl⟩
            obtain ⟨d5, hdd⟩ : ∃ d5, d5 = (feedK (feedK ⟨[], none⟩ (B.take j)).1 ((B.drop j).take 1)).1 := ⟨_, rfl⟩
            rw [← hk2] at hcn
            rw [← hk2, ← hdd] at HF
            have HCN := Lib.hid hcn
            have HK2 := Lib.hid hk2
            have HDD := Lib.hid hdd
            have htk : B.take j ++ (B.drop j).take 1 = B.take (j + 1) := by rw [List.take_add]
            have HTK := Lib.hid htk
            clear hcn hk2 hdd hst hln htk
            go_wp2_with (first
              | (go_at_call 8; refine HF.out.mono ?_; rintro e w7 ⟨v5, O5, rfl, hk5, hd5, hO5, hc5⟩; obtain ⟨A5, n5, c5, rfl, rfl, hs5, hnl5, _⟩ := hk5; have HD5 := Lib.hid hd5; have HO5 := Lib.hid hO5; have HC5 := Lib.hid hc5; have HS5 := Lib.hid hs5; have HN5 := Lib.hid hnl5; clear hd5 hO5 hc5 hs5 hnl5)
              | (at_builtin; (refine wpList_append_sl _ rfl (.tmp 74) (.tmp 81) _ rfl w6.heap.size 40 i0 _ 6 40 Tryd.underlying26 HI0.out HZ0.out HZ1.out HZ2.out rfl (by omega) (.slice Aa ka.length ca) ka.length (ka.flatMap Kv.cells) rfl (HPC.out.at5 HC5.out) w7.heap.size A5 k2.length c5 (k2.flatMap Kv.cells) rfl HS5.out (kc_len _) HN5.out (fun u hu => by obtain ⟨k, _, hk⟩ := List.mem_flatMap.1 hu; exact Kv.one k u hk) (by simp only [maxLen]; have := HCN.out; have := HKC.out; omega) (by have := HCN.out; have := HKC.out; omega) (by have := HZW.out; have := HC5.out.size; omega) ?_); intro v' w8 ho hg hat; obtain ⟨Aa6, ca6, rfl, hn6, _⟩ := own_of ho; rw [ownBlock_slice] at hg hat; rw [ownBlock_slice] at hat; have HPC7 := Lib.hid (HPC.out.app ((B.drop j).take 1) HK2.out HDD.out HD5.out HO5.out HC5.out ho hn6 hg hat); clear ho hg hat hn6))
            go_roundw
            case rel => exact ⟨j + 1, _, _, ka ++ k2, O5, by go_num, by rw [List.length_append], by omega, by have := HPC7.out; rw [HTK.out] at this; exact this⟩
            case measure => simp [intOf]; omega
          · have h1 : ¬ (j : Int) < (B.length : Int) := by omega
            obtain rfl : j = B.length := by omega
            have hpcq := HPC.out
            rw [List.take_length] at hpcq
            have hka : ka = K := hpcq.keys.trans HK.out.symm
            subst hka
            have hlg : ∀ g, blk Ag6 = some g → w4.heap.size ≤ g := fun g hg => (HPCG.out.row.lt g (by rw [ownBlock_slice]; exact hg)).1
            have hsG : Sl wr w6.heap.size Ag6 (ka.flatMap Kv.cells) := by
              have h0 := HPCG.out.sl
              rw [HKG.out] at h0
              exact hpcq.chg.sl h0 (Nat.le_refl _) (fun g off e h => by
                have h2 : g = w2.heap.size := h
                have := hlg g (by rw [e]; rfl)
                have := HZ3.out
                omega)
            have hsW : Sl wr w4.heap.size A1 (ka.flatMap Kv.cells) := by
              have h1 := HPCG.out.chg.sl HS1.out (Nat.le_refl _) (fun g off e h => by
                have h2 : g = w1.heap.size := h
                have := (HL1.out g (by rw [e]; rfl)).1
                have := HZ3.out
                omega)
              exact hpcq.chg.sl h1 HZ46.out (fun g off e h => by
                have h2 : g = w2.heap.size := h
                have := (HL1.out g (by rw [e]; rfl)).1
                have := HZ3.out
                omega)
            have hsA := hpcq.sl
            have hD1 : DAt wr w.heap.size O1 (feedK ⟨[], none⟩ B).1 := by
              have hz := HZ46.out
              have h1 : DAt w6 w.heap.size O1 (feedK ⟨[], none⟩ B).1 := HD14.out.same (fun q hq => HPCG.out.chg.block q (HD14.out.2.1 q hq) (fun e => by
                have e' : q = w1.heap.size := e
                rcases HO1.out q hq with h | h
                · have h' : q = w.heap.size := h
                  have := HZ3.out; omega
                · have := HZ3.out; omega)) hz
              refine h1.same (fun q hq => hpcq.chg.block q (h1.2.1 q hq) (fun e => ?_)) hpcq.chg.size
              have e' : q = w2.heap.size := e
              rcases HO1.out q hq with h | h
              · have h' : q = w.heap.size := h
                have := HZ3.out; omega
              · have := HZ3.out; omega
            have hD2 : DAt wr w1.heap.size O5 (feedK ⟨[], none⟩ B).1 := HPCG.out.dec.same (fun q hq => hpcq.chg.block q (HPCG.out.dec.2.1 q hq) (fun e => by
              have e' : q = w2.heap.size := e
              rcases HPCG.out.own q hq with h | h
              · have := HZ3.out; omega
              · have := HZ3.out; omega)) hpcq.chg.size
            have hD3 := hpcq.dec
            have hNT := namesT_below HT.out HBWQ.out (Nat.le_refl _)
            have HSG := Lib.hid (hsG.more HZW.out)
            have HSW := Lib.hid (hsW.more (Nat.le_trans HZ46.out HZW.out))
            have HSA := Lib.hid hsA
            have HE1 := Lib.hid hD1
            have HE2 := Lib.hid hD2
            have HE3 := Lib.hid hD3
            have HNT := Lib.hid hNT
            generalize (feedK ⟨[], none⟩ B).1 = dF at HE1 HE2 HE3
            clear hpcq hsG hsW hsA hD1 hD2 hD3 hNT hlg HPC HPCG HKG HK HKC HDL HOR HD14 HO1 HC4 HS1 HL1
            have t1 : True := trivial
            have t2 : True := trivial
            have t3 : True := trivial
            have t4 : True := trivial
            go_wp2_with (first
              | (go_at_call 9; have _t := t1; refine (rsame_any ka ka _ _ _ _ _ _ _ HKLG.out rfl (by have := HKLG.out; omega) (by omega) _ _ HSG.out HSW.out (Nat.le_refl _) (Nat.le_refl _)).mono ?_; rintro e wa ⟨rfl, hba⟩; have HBA := Lib.hid hba; clear hba _t t1)
              | (go_at_call 9; refine (rsame_any ka ka _ _ _ _ _ _ _ rfl rfl (by omega) (by omega) _ _ (HSA.out.below HBA.out) (HSW.out.below HBA.out) HBA.out.size HBA.out.size).mono ?_; rintro e wb ⟨rfl, hbb⟩; have HBB := Lib.hid (HBA.out.trans (hbb.mono HBA.out.size)); clear hbb)
              | (go_at_call 10; have _t := t2; refine (waits_any w.heap.size O1 dF _ (HE1.out.same (fun q hq => HBB.out.block q (HE1.out.2.1 q hq)) HBB.out.size)).mono ?_; rintro e wc ⟨rfl, rfl⟩; clear _t t2)
              | (go_at_call 10; have _t := t3; refine (waits_any w1.heap.size O5 dF _ (HE2.out.same (fun q hq => HBB.out.block q (HE2.out.2.1 q hq)) HBB.out.size)).mono ?_; rintro e wc ⟨rfl, rfl⟩; clear _t t3)
              | (go_at_call 10; have _t := t4; refine (waits_any w2.heap.size O3 dF _ (HE3.out.same (fun q hq => HBB.out.block q (HE3.out.2.1 q hq)) HBB.out.size)).mono ?_; rintro e wc ⟨rfl, rfl⟩; clear _t t4)
              | (go_at_call 10; refine (waits_any w.heap.size O1 dF _ (HE1.out.same (fun q hq => HBB.out.block q (HE1.out.2.1 q hq)) HBB.out.size)).mono ?_; rintro e wc ⟨rfl, rfl⟩)
              | (go_at_call 11; refine (kawake_any _ (namesT_below HNT.out HBB.out (Nat.le_refl _))).mono ?_; rintro e wd ⟨rfl, hbd⟩; have HBD := Lib.hid hbd; clear hbd))
            go_ret
            exact ⟨rfl, (HBWQ.out.trans (HBB.out.mono HBWQ.out.size)).trans (HBD.out.mono (by have := HBWQ.out.size; have := HBB.out.size; omega))⟩
      · have h3 : (i : Int) < (n2 : Int) := by omega
        have h4 : ¬ (i : Int) < 100 := by omega
        go_upto_region 14 with fail
        clear h1 h2 h3 h4
        have hdl : (B.drop m1).length = r := by rw [List.length_drop]; have := HRM.out; omega
        have hst : Sl wr w.heap.size Al (bv (B.drop m1)) := HSL.out.below HBWR.out
        have HF := Lib.hid (feed_any w1.heap.size O2 _ Al r cl (B.drop m1) wr hdl.symm (by have := HDL.out; omega) HPC.out.dec (ByL.of hst) (fun g hg e => by have := sl_blk hst g hg; have := HOR.out g e; omega))
        have hcn := feedK_cnt300 (B.drop m1) (by omega) _ HDL.out
        obtain ⟨k2, hk2⟩ : ∃ k2, k2 = (feedK (feedK ⟨[], none⟩ (B.take m1)).1 (B.drop m1)).2 := ⟨_, rfl⟩
        obtain ⟨d5, hdd⟩ : ∃ d5, d5 = (feedK (feedK ⟨[], none⟩ (B.take m1)).1 (B.drop m1)).1 := ⟨_, rfl⟩
        rw [← hk2] at hcn
        rw [← hk2, ← hdd] at HF
        have HCN := Lib.hid hcn
        have HK2 := Lib.hid hk2
        have HDD := Lib.hid hdd
        clear hcn hk2 hdd hdl hst
        go_upto_region 16 with (first
          | (go_at_call 8; refine HF.out.mono ?_; rintro e w5 ⟨v5, O5, rfl, hk5, hd5, hO5, hc5⟩; obtain ⟨A5, n5, c5, rfl, rfl, hs5, hnl5, _⟩ := hk5; have HD5 := Lib.hid hd5; have HO5 := Lib.hid hO5; have HC5 := Lib.hid hc5; have HS5 := Lib.hid hs5; have HN5 := Lib.hid hnl5; clear hd5 hO5 hc5 hs5 hnl5)
          | (at_builtin; (refine wpList_append_sl _ rfl (.tmp 63) (.tmp 66) _ rfl w4.heap.size 40 i0 _ 6 40 Tryd.underlying26 HI0.out HZ0.out HZ1.out HZ2.out rfl (by omega) (.slice Ag ks.length cg) ks.length (ks.flatMap Kv.cells) rfl (HPC.out.at5 HC5.out) w5.heap.size A5 k2.length c5 (k2.flatMap Kv.cells) rfl HS5.out (kc_len _) HN5.out (fun u hu => by obtain ⟨k, _, hk⟩ := List.mem_flatMap.1 hu; exact Kv.one k u hk) (by simp only [maxLen]; have := HCN.out; have := HKC.out; omega) (by have := HCN.out; have := HKC.out; omega) (by have := HZW.out; have := HC5.out.size; omega) ?_); intro v' w6 ho hg hat; obtain ⟨Ag6, cg6, rfl, hn6, _⟩ := own_of ho; rw [ownBlock_slice] at hg hat; rw [ownBlock_slice] at hat; have HPC6 := Lib.hid (HPC.out.app (B.drop m1) HK2.out HDD.out HD5.out HO5.out HC5.out ho hn6 hg hat); clear ho hg hat hn6))
        have hpc6 := HPC6.out
        rw [List.take_append_drop] at hpc6
        have hkg : ks ++ k2 = K := hpc6.keys.trans HK.out.symm
        have hkl : ks.length + k2.length = K.length := by rw [← hkg, List.length_append]
        have hz46 := hpc6.chg.size
        have hd36 : DBlk w6 w2.heap.size [] (.pointer none) := HD34.out.chg hpc6.chg (fun e => by have e' : w2.heap.size = w1.heap.size := e; have := HZ3.out; omega)
        have HST3 := Lib.hid (PcI.start w2.heap.size w6 hd36)
        have hbw6 : Below w.heap.size w w6 := HBW4.out.trans (hpc6.chg.below HBW4.out.size (fun j hj => by rw [show j = w1.heap.size from hj]; have := HZ3.out; omega))
        have HBW6 := Lib.hid hbw6
        have HPCG := Lib.hid hpc6
        have HKG := Lib.hid hkg
        have HKLG := Lib.hid hkl
        have HZ46 := Lib.hid hz46
        clear hpc6 hkg hkl hz46 hd36 hbw6 HPC6 HPC HF HD5 HO5 HC5 HS5 HN5 HK2 HDD HCN HKC HZW HDL HOR HSL HBWR HRM
        go_loopw [10, 14] (fun v10 v14 wr => ∃ (j : Nat) (Aa : Option Addr) (ca : Nat) (ka : List Kv) (O3 : Nat → Prop), v14 = .int .i64 (j : Int) ∧ v10 = .slice Aa ka.length ca ∧ j ≤ B.length ∧ PcI w6 wr w2.heap.size (B.take j) O3 Aa ca ka) (fun _ v14 _ => B.length - (intOf v14).toNat)
        case atStart => exact ⟨0, none, 0, [], one w2.heap.size, rfl, rfl, by omega, HST3.out⟩
        case round =>
          obtain ⟨j, Aa, ca, ka, O3, rfl, rfl, hj, hpc⟩ := hrel
          have HPC := Lib.hid hpc
          have hbwq : Below w.heap.size w wr := HBW6.out.trans (hpc.chg.below HBW6.out.size (fun j hj => by rw [show j = w2.heap.size from hj]; have := HZ3.out; omega))
          have HBWQ := Lib.hid hbwq
          have HZW : Hid (w6.heap.size ≤ wr.heap.size) := Lib.hid hpc.chg.size
          have HKC : Hid (ka.length ≤ 90000) := Lib.hid (by rw [hpc.keys]; exact feedK_cnt0 _ (by rw [List.length_take]; omega))
          have HDL : Hid ((feedK ⟨[], none⟩ (B.take j)).1.B.length ≤ 300) := Lib.hid (by have := feedK_len (B.take j) ⟨[], none⟩; rw [List.length_take] at this; simp at this; omega)
          have HOR : Hid (∀ q, O3 q → w.heap.size ≤ q) := Lib.hid (fun q hq => by rcases hpc.own q hq with e | e <;> have := HZ3.out <;> have := HZ46.out <;> omega)
          clear hpc hbwq HST3
          by_cases hlt : j < B.length
          · have h1 : (j : Int) < (B.length : Int) := by omega
            have h2 : (j : Int) ≤ (j : Int) + 1 := by omega
            have h3 : (j : Int) + 1 ≤ (c : Int) := by omega
            have hwj : IntKind.i64.wrap ((j : Int) + 1) = (j : Int) + 1 := IntWalk.i64_in _ (by omega)
            have hln : ((B.drop j).take 1).length = 1 := by rw [List.length_take, List.length_drop]; omega
            have hst : Sl wr w.heap.size (A.map (·.add j)) (bv ((B.drop j).take 1)) := by
              have := ((HSB.out.below HBWQ.out).drop (k := j) (cap := c) (by simp [bv]; omega)).take 1
              rw [if_neg (by omega)] at this
              rwa [show ((bv B).drop j).take 1 = bv ((B.drop j).take 1) by simp [bv, ← List.map_drop, ← List.map_take]] at this
            have HF := Lib.hid (feed_any w2.heap.size O3 _ (A.map (·.add j)) 1 (c - j) ((B.drop j).take 1) wr hln.symm (by have := HDL.out; omega) HPC.out.dec (ByL.of hst) (fun g hg e => by have := sl_blk hst g hg; have := HOR.out g e; omega))
            have hcn := feedK_cnt300 ((B.drop j).take 1) (by omega) _ HDL.out
            obtain ⟨k2, hk2⟩ : ∃ k2, k2 = (feedK (feedK ⟨[], none⟩ (B.take j)).1 ((B.drop j).take 1)).2 := ⟨_, rfl⟩
            obtain ⟨d5, hdd⟩ : ∃ d5, d5 = (feedK (feedK ⟨[], none⟩ (B.take j)).1 ((B.drop j).take 1)).1 := ⟨_, rfl⟩
            rw [← hk2] at hcn
            rw [← hk2, ← hdd] at HF
            have HCN := Lib.hid hcn
            have HK2 := Lib.hid hk2
            have HDD := Lib.hid hdd
            have htk : B.take j ++ (B.drop j).take 1 = B.take (j + 1) := by rw [List.take_add]
            have HTK := Lib.hid htk
            clear hcn hk2 hdd hst hln htk
            go_wp2_with (first
              | (go_at_call 8; refine HF.out.mono ?_; rintro e w7 ⟨v5, O5, rfl, hk5, hd5, hO5, hc5⟩; obtain ⟨A5, n5, c5, rfl, rfl, hs5, hnl5, _⟩ := hk5; have HD5 := Lib.hid hd5; have HO5 := Lib.hid hO5; have HC5 := Lib.hid hc5; have HS5 := Lib.hid hs5; have HN5 := Lib.hid hnl5; clear hd5 hO5 hc5 hs5 hnl5)
              | (at_builtin; (refine wpList_append_sl _ rfl (.tmp 74) (.tmp 81) _ rfl w6.heap.size 40 i0 _ 6 40 Tryd.underlying26 HI0.out HZ0.out HZ1.out HZ2.out rfl (by omega) (.slice Aa ka.length ca) ka.length (ka.flatMap Kv.cells) rfl (HPC.out.at5 HC5.out) w7.heap.size A5 k2.length c5 (k2.flatMap Kv.cells) rfl HS5.out (kc_len _) HN5.out (fun u hu => by obtain ⟨k, _, hk⟩ := List.mem_flatMap.1 hu; exact Kv.one k u hk) (by simp only [maxLen]; have := HCN.out; have := HKC.out; omega) (by have := HCN.out; have := HKC.out; omega) (by have := HZW.out; have := HC5.out.size; omega) ?_); intro v' w8 ho hg hat; obtain ⟨Aa6, ca6, rfl, hn6, _⟩ := own_of ho; rw [ownBlock_slice] at hg hat; rw [ownBlock_slice] at hat; have HPC7 := Lib.hid (HPC.out.app ((B.drop j).take 1) HK2.out HDD.out HD5.out HO5.out HC5.out ho hn6 hg hat); clear ho hg hat hn6))
            go_roundw
            case rel => exact ⟨j + 1, _, _, ka ++ k2, O5, by go_num, by rw [List.length_append], by omega, by have := HPC7.out; rw [HTK.out] at this; exact this⟩
            case measure => simp [intOf]; omega
          · have h1 : ¬ (j : Int) < (B.length : Int) := by omega
            obtain rfl : j = B.length := by omega
            have hpcq := HPC.out
            rw [List.take_length] at hpcq
            have hka : ka = K := hpcq.keys.trans HK.out.symm
            subst hka
            have hlg : ∀ g, blk Ag6 = some g → w4.heap.size ≤ g := fun g hg => (HPCG.out.row.lt g (by rw [ownBlock_slice]; exact hg)).1
            have hsG : Sl wr w6.heap.size Ag6 (ka.flatMap Kv.cells) := by
              have h0 := HPCG.out.sl
              rw [HKG.out] at h0
              exact hpcq.chg.sl h0 (Nat.le_refl _) (fun g off e h => by
                have h2 : g = w2.heap.size := h
                have := hlg g (by rw [e]; rfl)
                have := HZ3.out
                omega)
            have hsW : Sl wr w4.heap.size A1 (ka.flatMap Kv.cells) := by
              have h1 := HPCG.out.chg.sl HS1.out (Nat.le_refl _) (fun g off e h => by
                have h2 : g = w1.heap.size := h
                have := (HL1.out g (by rw [e]; rfl)).1
                have := HZ3.out
                omega)
              exact hpcq.chg.sl h1 HZ46.out (fun g off e h => by
                have h2 : g = w2.heap.size := h
                have := (HL1.out g (by rw [e]; rfl)).1
                have := HZ3.out
                omega)
            have hsA := hpcq.sl
            have hD1 : DAt wr w.heap.size O1 (feedK ⟨[], none⟩ B).1 := by
              have hz := HZ46.out
              have h1 : DAt w6 w.heap.size O1 (feedK ⟨[], none⟩ B).1 := HD14.out.same (fun q hq => HPCG.out.chg.block q (HD14.out.2.1 q hq) (fun e => by
                have e' : q = w1.heap.size := e
                rcases HO1.out q hq with h | h
                · have h' : q = w.heap.size := h
                  have := HZ3.out; omega
                · have := HZ3.out; omega)) hz
              refine h1.same (fun q hq => hpcq.chg.block q (h1.2.1 q hq) (fun e => ?_)) hpcq.chg.size
              have e' : q = w2.heap.size := e
              rcases HO1.out q hq with h | h
              · have h' : q = w.heap.size := h
                have := HZ3.out; omega
              · have := HZ3.out; omega
            have hD2 : DAt wr w1.heap.size O5 (feedK ⟨[], none⟩ B).1 := HPCG.out.dec.same (fun q hq => hpcq.chg.block q (HPCG.out.dec.2.1 q hq) (fun e => by
              have e' : q = w2.heap.size := e
              rcases HPCG.out.own q hq with h | h
              · have := HZ3.out; omega
              · have := HZ3.out; omega)) hpcq.chg.size
            have hD3 := hpcq.dec
            have hNT := namesT_below HT.out HBWQ.out (Nat.le_refl _)
            have HSG := Lib.hid (hsG.more HZW.out)
            have HSW := Lib.hid (hsW.more (Nat.le_trans HZ46.out HZW.out))
            have HSA := Lib.hid hsA
            have HE1 := Lib.hid hD1
            have HE2 := Lib.hid hD2
            have HE3 := Lib.hid hD3
            have HNT := Lib.hid hNT
            generalize (feedK ⟨[], none⟩ B).1 = dF at HE1 HE2 HE3
            clear hpcq hsG hsW hsA hD1 hD2 hD3 hNT hlg HPC HPCG HKG HK HKC HDL HOR HD14 HO1 HC4 HS1 HL1
            have t1 : True := trivial
            have t2 : True := trivial
            have t3 : True := trivial
            have t4 : True := trivial
            go_wp2_with (first
              | (go_at_call 9; have _t := t1; refine (rsame_any ka ka _ _ _ _ _ _ _ HKLG.out rfl (by have := HKLG.out; omega) (by omega) _ _ HSG.out HSW.out (Nat.le_refl _) (Nat.le_refl _)).mono ?_; rintro e wa ⟨rfl, hba⟩; have HBA := Lib.hid hba; clear hba _t t1)
              | (go_at_call 9; refine (rsame_any ka ka _ _ _ _ _ _ _ rfl rfl (by omega) (by omega) _ _ (HSA.out.below HBA.out) (HSW.out.below HBA.out) HBA.out.size HBA.out.size).mono ?_; rintro e wb ⟨rfl, hbb⟩; have HBB := Lib.hid (HBA.out.trans (hbb.mono HBA.out.size)); clear hbb)
              | (go_at_call 10; have _t := t2; refine (waits_any w.heap.size O1 dF _ (HE1.out.same (fun q hq => HBB.out.block q (HE1.out.2.1 q hq)) HBB.out.size)).mono ?_; rintro e wc ⟨rfl, rfl⟩; clear _t t2)
              | (go_at_call 10; have _t := t3; refine (waits_any w1.heap.size O5 dF _ (HE2.out.same (fun q hq => HBB.out.block q (HE2.out.2.1 q hq)) HBB.out.size)).mono ?_; rintro e wc ⟨rfl, rfl⟩; clear _t t3)
              | (go_at_call 10; have _t := t4; refine (waits_any w2.heap.size O3 dF _ (HE3.out.same (fun q hq => HBB.out.block q (HE3.out.2.1 q hq)) HBB.out.size)).mono ?_; rintro e wc ⟨rfl, rfl⟩; clear _t t4)
              | (go_at_call 10; refine (waits_any w.heap.size O1 dF _ (HE1.out.same (fun q hq => HBB.out.block q (HE1.out.2.1 q hq)) HBB.out.size)).mono ?_; rintro e wc ⟨rfl, rfl⟩)
              | (go_at_call 11; refine (kawake_any _ (namesT_below HNT.out HBB.out (Nat.le_refl _))).mono ?_; rintro e wd ⟨rfl, hbd⟩; have HBD := Lib.hid hbd; clear hbd))
            go_ret
            exact ⟨rfl, (HBWQ.out.trans (HBB.out.mono HBWQ.out.size)).trans (HBD.out.mono (by have := HBWQ.out.size; have := HBB.out.size; omega))⟩
end Go.Proofs.YteolafeeggjblaaDoor
