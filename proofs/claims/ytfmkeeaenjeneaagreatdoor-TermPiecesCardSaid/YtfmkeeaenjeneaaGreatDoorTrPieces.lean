/-
  The law TermPieces, walked.
-/
import Derived.Test.YtfmkeeaenjeneaaGreatDoorTrPcs
import Derived.Test.YtfmkeeaenjeneaaGreatDoorTmAwak2
import Derived.Test.YtfmkeeaenjeneaaGreatDoorRtNew
import Derived.Deep.DeepCutAuto
import Derived.Outline
import Derived.Deep.CutBlock
namespace Go.Proofs.YtfmkeeaenjeneaaGreatDoor
open Go.RowKit Go.Sort
set_option linter.unusedVariables false
set_option linter.unusedSimpArgs false

set_option maxRecDepth 100000 in
set_option maxHeartbeats 8000000 in
theorem termPieces_walk (a b : Int) (a0 : 0 ≤ a) (a1 : a ≤ 255) (b0 : 0 ≤ b) (b1 : b ≤ 255) (w : World) (A : Option Addr) (n c : Nat) (L : List UInt8) (hn : n = L.length) (hc : n ≤ c) (hcm : c ≤ maxLen) (hnil : A = none → c = 0) (hS : Sl w w.heap.size A (bv L)) (A2 : Option Addr) (n2 c2 : Nat) (L2 : List UInt8) (hn2 : n2 = L2.length) (hm2 : c2 ≤ maxLen) (hc2 : n2 ≤ c2) (hS2 : Sl w w.heap.size A2 (bv L2)) (hT : BlankT w) (hTab : Tabs w) :
    Calls Tryz.prog 4 #[.int .u8 a, .int .u8 b, .slice A n c, .slice A2 n2 c2] w fun e w' => e = .returned (.bool true) ∧ Below w.heap.size w w' := by
  have hB3 : (L.take 300).length = min n 300 := by rw [List.length_take, ← hn, Nat.min_comm]
  have hSB : Sl w w.heap.size A (bv (L.take 300)) := by have := hS.take 300; rwa [bv_take] at this
  generalize L.take 300 = B at hB3 hSB
  have hm3 : B.length ≤ 300 := by omega
  have hmc : B.length ≤ c := by omega
  obtain ⟨X, hX⟩ : ∃ x : Nat, (x : Int) = 1 + a % 30 := ⟨(1 + a % 30).toNat, by omega⟩
  obtain ⟨Y, hY⟩ : ∃ x : Nat, (x : Int) = 1 + b % 10 := ⟨(1 + b % 10).toNat, by omega⟩
  have hX1 : 1 ≤ X ∧ X ≤ 500 := by omega
  have hY1 : 1 ≤ Y ∧ Y ≤ 500 := by omega
  obtain ⟨x1, x5⟩ := hX1
  obtain ⟨y1, y5⟩ := hY1
  have HX := Lib.hid hX
  have HY := Lib.hid hY
  have HSB := Lib.hid hSB
  have HS2 := Lib.hid hS2
  have HN2 := Lib.hid hn2
  have HNIL := Lib.hid hnil
  have HT := Lib.hid hT
  have HTB := Lib.hid hTab
  have HB0 := Lib.hid (base_of hT hTab)
  have HCUT := Lib.hid (cut5_any A n c hc w)
  rw [← hB3] at HCUT
  unfold maxLen at hm2 hcm
  clear hS hS2 hSB hn hn2 hc hB3 hX hY hnil hT hTab
  go_enter Tryz.func4, Tryz.ntmps4
  go_upto_region 3 with (go_at_call 9; refine HCUT.out.mono ?_; rintro e w0 ⟨rfl, rfl⟩)
  rw [← HX.out, ← HY.out]
  clear a0 a1 b0 b1
  go_upto_region 4 with (go_at_call 5; refine (tnewS X Y x1 x5 y1 y5 _ HT.out).mono ?_; rintro e w1 ⟨ta, Oa, rfl, ha, hb1⟩; have HA := Lib.hid ha; have HB1 := Lib.hid hb1; clear ha hb1)
  have s1 := HB1.out.size
  go_upto_region 5 with (go_at_call 5; refine (tnewS X Y x1 x5 y1 y5 _ (HT.out.bel HB1.out)).mono ?_; rintro e w2 ⟨tb, Ob, rfl, hb, hb2⟩; have HBB := Lib.hid hb; have HB2 := Lib.hid (HB1.out.trans (hb2.mono HB1.out.size)); have HB12 := Lib.hid hb2; clear hb hb2)
  have s2 := HB12.out.size
  go_upto_region 6 with (go_at_call 5; refine (tnewS X Y x1 x5 y1 y5 _ (HT.out.bel HB2.out)).mono ?_; rintro e w3 ⟨tc, Oc, rfl, hc, hb3⟩; have HCC := Lib.hid hc; have HB3 := Lib.hid (HB2.out.trans (hb3.mono HB2.out.size)); have HB23 := Lib.hid hb3; clear hc hb3)
  have s3 := HB23.out.size
  go_upto_region 7 with (first
    | (go_at_call 6; refine (rtnew_ok X Y x1 x5 y1 y5 _).mono ?_; rintro e w4 ⟨Ar, cr, rfl, hr4, hb4⟩; have HR4 := Lib.hid hr4; have HB4 := Lib.hid (HB3.out.trans (hb4.mono HB3.out.size)); have HB34 := Lib.hid hb4; have HZ4 := Lib.hid (Blk.new w4 34 rtZ); clear hr4 hb4)
    | ((with_reducible refine at_store 17 ?_); refine wpList_store_blk rfl _ _ _ rfl rfl w4.heap.size 0 _ rtZ (rtC (tmNew X Y) Ar cr (.slice none 0 0)) rfl rfl HZ4.out (by simp [rtC, rtZ]) rt_size (rtC_one _ _ _ rfl) ?_; intro w5 hn5 hg5; have hb5 : Below w4.heap.size w4 w5 := ((Below.refl _ _).alloc (Nat.le_refl _) _).grown hg5 (by simp) (fun j hj => by injection hj with hj; omega); have HZ5 := Lib.hid (show Blk w5 w4.heap.size 34 (rtC (tmNew X Y) Ar cr (.slice none 0 0)) from hn5); have HB45 := Lib.hid hb5; clear hn5 hg5 hb5))
  have s4 := HB34.out.size
  have s5 := HB45.out.size
  obtain ⟨t, st, O, rfl, rfl, rfl, e0, e1, e2, htri⟩ := tri_start (w := w) (w5 := w5) (z := w4.heap.size) (T0 := tmNew X Y) (A := Ar) (c := cr) w1.heap.size w2.heap.size w3.heap.size
    (((HA.out.below HB12.out).below HB23.out).below (HB34.out.trans (HB45.out.mono s4)) |>.weaken (Nat.le_refl _))
    ((HBB.out.below HB23.out).below (HB34.out.trans (HB45.out.mono s4)) |>.weaken s1)
    (HCC.out.below (HB34.out.trans (HB45.out.mono s4)) |>.weaken (by omega))
    (fun k hk => HA.out.lt hk) (fun k hk => ⟨HBB.out.lo_ hk, HBB.out.lt hk⟩) (fun k hk => ⟨HCC.out.lo_ hk, HCC.out.lt hk⟩) s2 s3 s4 HZ5.out
    ((HR4.out.mono (D' := fun b => w3.heap.size ≤ b ∧ b ≠ w4.heap.size) (fun b hb hd => ⟨hd, by omega⟩)).below HB45.out) (by omega) (HB0.out.below (HB4.out.trans (HB45.out.mono (by omega)))) (HB4.out.trans (HB45.out.mono (by omega)))
  have HTRI := Lib.hid htri
  have HE0 := Lib.hid e0
  have HE1 := Lib.hid e1
  have HE2 := Lib.hid e2
  have hpt : ∀ (i : Fin 3) w, Sem.run Tryz.prog (binOp .eql 23 (.pointer (some ⟨t i, 0, none⟩)) (.pointer none)) w = .ok (.bool false) w := fun i w => by
    have h : ∀ d : Nat, (Op.equalIn (d + 1) 23 (.pointer (some ⟨t i, 0, none⟩)) (.pointer none)).run Tryz.prog w = .ok false w := fun d => by
      simp [Op.equalIn, run_underlying Tryz.underlying23]
    simp only [binOp]
    simp [Op.equal, Op.maxDepth, h 9999]
  clear e0 e1 e2 htri s1 s2 s3 s4 s5 HA HBB HCC HB1 HB2 HB3 HB12 HB23 HB34 HB45 HZ4 HZ5 HR4 HB4 HCUT
  generalize w4.heap.size = z at HTRI ⊢
  obtain ⟨T0, hT0⟩ : ∃ T0, T0 = tmNew X Y := ⟨_, rfl⟩
  rw [← hT0] at HTRI HE0 HE1 HE2
  have HTOK : Hid (TOk T0) := Lib.hid (by have := (HTRI.out.tm 0).tok; rw [HE0.out] at this; exact this)
  clear hT0 x1 x5 y1 y5 HX HY
  obtain ⟨S9, hS9⟩ : ∃ S9, S9 = wrT (T0, []) B := ⟨_, rfl⟩
  have HF := Lib.hid (HTRI.out.wr1 0 (by rw [HE0.out]; simp) A B B.length c rfl (by omega) (HSB.out.below HTRI.out.bel))
  rw [HE0.out, ← hS9] at HF
  have HS9 := Lib.hid hS9
  clear hS9
  go_upto_region 10 with (go_at_call 8; refine HF.out.mono ?_; rintro e w6 ⟨rfl, st6, O6, h6, e6, f6⟩; have H6 := Lib.hid h6; have E6 := Lib.hid e6; have F6 := Lib.hid f6; clear h6 e6 f6)
  clear hpt HF
  have HG1 : Hid (st6 1 = (T0, [])) := Lib.hid (by rw [F6.out 1 (by decide)]; exact HE1.out)
  have HG2 : Hid (st6 2 = (T0, [])) := Lib.hid (by rw [F6.out 2 (by decide)]; exact HE2.out)
  clear HTRI HE0 HE1 HE2 F6
  go_upto_block 0 with (fail)
  go_cut [19] (fun v19 wx => ∃ (m1 r : Nat) (Al : Option Addr) (cl : Nat) (st : Fin 3 → TS × List UInt8) (O : Fin 3 → Nat → Prop), v19 = .slice Al r cl ∧ r + m1 = B.length ∧ r ≤ cl ∧ Sl w w.heap.size Al (bv (B.drop m1)) ∧ Tri w wx t st O z T0 Ar cr ∧ st 0 = S9 ∧ st 1 = wrT (T0, []) (B.take m1) ∧ st 2 = (T0, []))
  case first =>
   go_wp2_with (fail)
   go_loopw [19, 20] (fun v19 v20 wr => ∃ (i m1 r : Nat) (Al : Option Addr) (cl : Nat) (st : Fin 3 → TS × List UInt8) (O : Fin 3 → Nat → Prop), v20 = .int .i64 (i : Int) ∧ v19 = .slice Al r cl ∧ r + m1 = B.length ∧ i ≤ 100 ∧ r ≤ cl ∧ Sl w w.heap.size Al (bv (B.drop m1)) ∧ Tri w wr t st O z T0 Ar cr ∧ st 0 = S9 ∧ st 1 = wrT (T0, []) (B.take m1) ∧ st 2 = (T0, [])) (fun _ v20 _ => 100 - (intOf v20).toNat)
   case atStart => exact ⟨0, 0, B.length, A, c, st6, O6, rfl, rfl, rfl, by omega, hmc, HSB.out, H6.out, E6.out, HG1.out, HG2.out⟩
   case round =>
     clear H6 E6 HG1 HG2
     obtain ⟨i, m1, r, Al, cl, st, O, rfl, rfl, hrm, hi, hcl, hsl, htri, e0, e1, e2⟩ := hrel
     have HRM := Lib.hid hrm
     have hr3 : r ≤ 300 := by omega
     have HTRI := Lib.hid htri
     have HSL := Lib.hid hsl
     have HHI := Lib.hid hi
     have HE0 := Lib.hid e0
     have HE1 := Lib.hid e1
     have HE2 := Lib.hid e2
     have HBWR := Lib.hid htri.bel
     clear htri hsl hi hrm e0 e1 e2
     by_cases hgo : i < n2 ∧ i < 100
     · obtain ⟨g1, g2⟩ := hgo
       have h1 : (i : Int) < (n2 : Int) := by omega
       have h2 : (i : Int) < 100 := by omega
       have hi2 : i < L2.length := by have := HN2.out; omega
       obtain ⟨b2, of2, rfl, hb2, hcell⟩ := HS2.out.open_ (by simp [bv]; omega)
       have hx0 := hcell i _ (by simp [bv, hi2] : (bv L2)[i]? = some (.int .u8 L2[i].toNat))
       have hx : wr.cell? ⟨b2, of2 + i, none⟩ = some (.int .u8 L2[i].toNat) := (HBWR.out.cell (p := ⟨b2, of2 + i, none⟩) hb2).trans hx0
       have hbd : 0 ≤ (L2[i].toNat : Int) ∧ (L2[i].toNat : Int) ≤ 255 := by have := L2[i].toNat_lt; omega
       generalize (L2[i].toNat : Int) = cc at hx hbd
       have hwc : wrap64 cc = cc := by unfold wrap64; omega
       clear hcell hx0 hi2
       obtain ⟨nn, hnn, hnl⟩ : ∃ nn : Nat, min (r : Int) (cc.tmod 9) = nn ∧ nn ≤ r := ⟨(min (r : Int) (cc.tmod 9)).toNat, by have := Int.tmod_nonneg 9 hbd.1; omega, by omega⟩
       have hdl : (B.drop m1).length = r := by rw [List.length_drop]; have := HRM.out; omega
       have hln : ((B.drop m1).take nn).length = nn := by rw [List.length_take, hdl]; omega
       have hst : Sl wr w.heap.size Al (bv ((B.drop m1).take nn)) := by have := (HSL.out.below HBWR.out).take nn; rwa [bv_take] at this
       have HF := Lib.hid (HTRI.out.wr2 1 (by rw [HE1.out]; exact wrT_lt (by simp) _) Al ((B.drop m1).take nn) nn cl hln.symm (by omega) hst)
       rw [HE1.out, ← wrT_append, ← List.take_add] at HF
       have hsd : Sl w w.heap.size (if cl = nn then Al else Al.map (·.add nn)) (bv (B.drop (m1 + nn))) := by
         have := HSL.out.drop (k := nn) (cap := cl) (by simp [bv]; have := HRM.out; omega)
         rwa [show (bv (B.drop m1)).drop nn = bv (B.drop (m1 + nn)) by simp [bv, ← List.map_drop]] at this
       have HSD := Lib.hid hsd
       clear hdl hln hst hsd hbd
       go_upto_region 15 with fail
       clear hx hwc hnn
       go_wp2_with (go_at_call 8; refine HF.out.mono ?_; rintro e w7 ⟨rfl, st7, O7, h7, e7, f7⟩; have H7 := Lib.hid h7; have E7 := Lib.hid e7; have F7 := Lib.hid f7; clear h7 e7 f7)
       go_roundw
       case rel => exact ⟨i + 1, m1 + nn, r - nn, _, cl - nn, st7, O7, by go_num, rfl, by have := HRM.out; omega, by omega, by omega, HSD.out, H7.out, by rw [F7.out 0 (by decide)]; exact HE0.out, E7.out, by rw [F7.out 2 (by decide)]; exact HE2.out⟩
       case measure => simp [intOf]; omega
     · have hex : ¬ i < n2 ∨ (i < n2 ∧ ¬ i < 100) := by omega
       clear hgo
       rcases hex with h1 | ⟨h1, h2⟩
       · have h3 : ¬ (i : Int) < (n2 : Int) := by omega
         go_wp2_with (fail)
         go_meet
         exact ⟨m1, r, Al, cl, st, O, rfl, HRM.out, hcl, HSL.out, HTRI.out, HE0.out, HE1.out, HE2.out⟩
       · have h3 : (i : Int) < (n2 : Int) := by omega
         have h4 : ¬ (i : Int) < 100 := by omega
         go_wp2_with (fail)
         go_meet
         exact ⟨m1, r, Al, cl, st, O, rfl, HRM.out, hcl, HSL.out, HTRI.out, HE0.out, HE1.out, HE2.out⟩
  case rest =>
  clear H6 E6 HG1 HG2
  obtain ⟨m1, r, Al, cl, st, O, rfl, hrm, hcl, hsl, htri, e0, e1, e2⟩ := hcut
  have HRM := Lib.hid hrm
  have hr3 : r ≤ 300 := by omega
  have HTRI := Lib.hid htri
  have HSL := Lib.hid hsl
  have HE0 := Lib.hid e0
  have HE1 := Lib.hid e1
  have HE2 := Lib.hid e2
  have HBWR := Lib.hid htri.bel
  clear htri hsl hrm e0 e1 e2
  have hdl : (B.drop m1).length = r := by rw [List.length_drop]; have := HRM.out; omega
  have hst : Sl _ w.heap.size Al (bv (B.drop m1)) := HSL.out.below HBWR.out
  have HF := Lib.hid (HTRI.out.wr1 1 (by rw [HE1.out]; exact wrT_lt (by simp) _) Al (B.drop m1) r cl hdl.symm (by omega) hst)
  rw [HE1.out, ← wrT_append, List.take_append_drop, ← HS9.out] at HF
  clear hdl hst
  go_upto_region 18 with (go_at_call 8; refine HF.out.mono ?_; rintro e w7 ⟨rfl, st7, O7, h7, e7, f7⟩; have H7 := Lib.hid h7; have E7 := Lib.hid e7; have F7 := Lib.hid f7; clear h7 e7 f7)
  have HG0 : Hid (st7 0 = S9) := Lib.hid (by rw [F7.out 0 (by decide)]; exact HE0.out)
  have HG2 : Hid (st7 2 = (T0, [])) := Lib.hid (by rw [F7.out 2 (by decide)]; exact HE2.out)
  clear HTRI HE0 HE1 HE2 F7 HF HBWR HSL
  go_wp2_with (fail)
  go_loopw [22] (fun v22 wr => ∃ (j : Nat) (st : Fin 3 → TS × List UInt8) (O : Fin 3 → Nat → Prop), v22 = .int .i64 (j : Int) ∧ j ≤ B.length ∧ Tri w wr t st O z T0 Ar cr ∧ st 0 = S9 ∧ st 1 = S9 ∧ st 2 = wrT (T0, []) (B.take j)) (fun v22 _ => B.length - (intOf v22).toNat)
  case atStart => exact ⟨0, st7, O7, rfl, by omega, H7.out, HG0.out, E7.out, HG2.out⟩
  case round =>
    clear H7 HG0 E7 HG2
    obtain ⟨j, st, O, rfl, hj, htri, e0, e1, e2⟩ := hrel
    have HTRI := Lib.hid htri
    have HE0 := Lib.hid e0
    have HE1 := Lib.hid e1
    have HE2 := Lib.hid e2
    have HBWR := Lib.hid htri.bel
    clear htri e0 e1 e2
    by_cases hlt : j < B.length
    · have h1 : (j : Int) < (B.length : Int) := by omega
      have h2 : (j : Int) ≤ (j : Int) + 1 := by omega
      have h3 : (j : Int) + 1 ≤ (c : Int) := by omega
      have hwj : IntKind.i64.wrap ((j : Int) + 1) = (j : Int) + 1 := IntWalk.i64_in _ (by omega)
      have hln : ((B.drop j).take 1).length = 1 := by rw [List.length_take, List.length_drop]; omega
      have hst : Sl wr w.heap.size (A.map (·.add j)) (bv ((B.drop j).take 1)) := by
        have := ((HSB.out.below HBWR.out).drop (k := j) (cap := c) (by simp [bv]; omega)).take 1
        rw [if_neg (by omega)] at this
        rwa [show ((bv B).drop j).take 1 = bv ((B.drop j).take 1) by simp [bv, ← List.map_drop, ← List.map_take]] at this
      have HF := Lib.hid (HTRI.out.wr1 2 (by rw [HE2.out]; exact wrT_lt (by simp) _) (A.map (·.add j)) ((B.drop j).take 1) 1 (c - j) hln.symm (by omega) hst)
      rw [HE2.out, ← wrT_append, ← List.take_add] at HF
      clear hln hst
      go_wp2_with (go_at_call 8; refine HF.out.mono ?_; rintro e w8 ⟨rfl, st8, O8, h8, e8, f8⟩; have H8 := Lib.hid h8; have E8 := Lib.hid e8; have F8 := Lib.hid f8; clear h8 e8 f8)
      go_roundw
      case rel => exact ⟨j + 1, st8, O8, by go_num, by omega, H8.out, by rw [F8.out 0 (by decide)]; exact HE0.out, by rw [F8.out 1 (by decide)]; exact HE1.out, E8.out⟩
      case measure => simp [intOf]; omega
    · have h1 : ¬ (j : Int) < (B.length : Int) := by omega
      have HE2' : Hid (st 2 = S9) := Lib.hid (by rw [HE2.out, List.take_of_length_le (by omega)]; exact HS9.out.symm)
      have HALL : Hid (∀ i, st i = S9) := Lib.hid (fun i => match i with | 0 => HE0.out | 1 => HE1.out | 2 => HE2'.out)
      have hS : S9 = bytesT T0 ([] ++ B) := by rw [HS9.out]; exact wrT_eq T0 [] rfl _ B rfl
      obtain ⟨T9, B9, hTB⟩ : ∃ T9 B9, S9 = (T9, B9) := ⟨S9.1, S9.2, rfl⟩
      have hok : TOk T0 := HTOK.out
      have HW := Lib.hid (rwrite_any (T := T0) HTRI.out.rows hok [] B none A 0 0 B.length c rfl (fun _ => rfl) (.inl rfl) rfl HNIL.out ((HSB.out.below HBWR.out).more HBWR.out.size) (by simp) (by omega))
      rw [← hS, hTB] at HW
      rw [hTB] at HALL
      clear hS hTB hok HE2' HE2 HE1 HE0
      go_upto_region 23 with (first
        | ((with_reducible refine at_dst 130 ?_); refine wpList_load_mid rfl _ _ rfl z 0 rfl (rtC T0 Ar cr (.slice none 0 0)) _ HTRI.out.box.whole Tryz.underlying34 rfl rt_size ?_)
        | (go_at_call 10; refine HW.out.mono ?_; rintro e w7 ⟨V, rfl, ⟨Ab, cb, ⟨A9, c9, rfl, hr9⟩, _, _, _⟩, hb7⟩; have HR9 := Lib.hid hr9; have HB7 := Lib.hid hb7; have HZ7 := Lib.hid (HTRI.out.box.below hb7 HTRI.out.box.lt); clear hr9 hb7)
        | ((with_reducible refine at_store 17 ?_); refine wpList_store_blk rfl _ _ _ rfl rfl z 0 _ (rtC T0 Ar cr (.slice none 0 0)) (rtC T9 A9 c9 (.slice Ab B9.length cb)) rfl rfl HZ7.out (by simp [rtC]) rt_size (rtC_one _ _ _ rfl) ?_; intro w8 hn8 hg8; have HFIN := Lib.hid (HTRI.out.fin HALL.out HB7.out HR9.out hg8 hn8); clear hn8 hg8))
      clear HZ7 HR9 HB7 HTRI HALL HW h1
      have t1 : True := trivial
      have t2 : True := trivial
      go_wp2_with (first
        | ((with_reducible refine at_dst 134 ?_); refine wpList_load_mid rfl _ _ rfl z 0 rfl (rtC T9 A9 c9 (.slice Ab B9.length cb)) _ HFIN.out.box.whole Tryz.underlying34 rfl rt_size ?_)
        | ((with_reducible refine at_dst 138 ?_); refine wpList_load_mid_g (by rfl) _ _ rfl z 0 rfl (rtC T9 A9 c9 (.slice Ab B9.length cb)) _ HFA.out.box.whole Tryz.underlying34 rfl rt_size ?_)
        | ((with_reducible refine at_dst 143 ?_); refine wpList_load_mid_g (by rfl) _ _ rfl z 0 rfl (rtC T9 A9 c9 (.slice Ab B9.length cb)) _ HFB.out.box.whole Tryz.underlying34 rfl rt_size ?_)
        | (go_at_call 16; have _t := t1; refine (HFIN.out.shows 0).mono ?_; rintro e wa ⟨rfl, hfa⟩; have HFA := Lib.hid hfa; clear hfa _t t1)
        | (go_at_call 16; have _t := t2; refine (HFA.out.shows 1).mono ?_; rintro e wb ⟨rfl, hfb⟩; have HFB := Lib.hid hfb; clear hfb _t t2)
        | (go_at_call 16; refine (HFB.out.shows 2).mono ?_; rintro e wc ⟨rfl, hfc⟩; have HFC := Lib.hid hfc; clear hfc)
        | (go_at_call 7; refine (tawake_any _ HFC.out.base.bl HFC.out.base.tb).mono ?_; rintro e wd ⟨rfl, hbd⟩; have HBD := Lib.hid hbd; clear hbd))
      go_ret
      exact ⟨rfl, HFC.out.bel.trans (HBD.out.mono HFC.out.bel.size)⟩
end Go.Proofs.YtfmkeeaenjeneaaGreatDoor
