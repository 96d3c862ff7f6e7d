/-
  The law FrameBuilds, walked.
-/
import Derived.Test.YtipglbpmpcoidaaGreatDoorFrTwo
import Derived.Test.YtipglbpmpcoidaaGreatDoorFrBuildsN
import Derived.Test.YtipglbpmpcoidaaGreatDoorFrWrMath
import Derived.Test.YtipglbpmpcoidaaGreatDoorRegT
import Derived.Deep.RegionHeld3
import Derived.Deep.DeepCutAuto
import Derived.BigRegion
import Derived.Outline
namespace Go.Proofs.YtipglbpmpcoidaaGreatDoor
open Go.RowKit
set_option linter.unusedVariables false
set_option linter.unusedSimpArgs false

set_option maxRecDepth 100000 in
set_option maxHeartbeats 16000000 in
theorem frameBuilds_yes (W H : Nat) (w1 : 1 ≤ W) (w5 : W ≤ 500) (h1 : 1 ≤ H) (h6 : H ≤ 60) (l : List OpF) (hok : ∀ o ∈ l, o.ok) (n c : Nat) (A : Option Addr) (hn : n = l.length) (hm : n ≤ maxLen) (w : World) (hS : Sl w w.heap.size A (foc l)) (hT : BlankT w) (hTab : Tabs w) :
    Calls Tryz.prog 3 #[.int .i64 W, .int .i64 H, .slice A n c] w fun e w' => e = .returned (.bool true) ∧ Below w.heap.size w w' := by
  have HN := Lib.hid (fnew_ok W H w1 w5 h1 h6 w hT)
  have hrn := fun w' => rbnew_ok W H w1 w5 h1 h6 w'
  have HRN := Lib.hid hrn
  have HT := Lib.hid hT
  have HTB := Lib.hid hTab
  have HL := Lib.hid hn
  have HS := Lib.hid hS
  have HOK := Lib.hid hok
  have hmi : (n : Int) ≤ 9223372036854775807 := by unfold maxLen at hm; omega
  have hbl : (blankG W H).length = H := by simp [blankG]
  have HBL := Lib.hid hbl
  clear hrn hT hTab hn hS hok hm hbl
  go_enter Tryz.func3, Tryz.ntmps3
  go_wp2_with (first
    | (go_at_call 4; refine HN.out.mono ?_; rintro e w1 ⟨b, g, rb, bs, rfl, hbd1, hb1⟩; have HD1 := Lib.hid hbd1; have HB1 := Lib.hid hb1; clear hb1 hbd1)
    | (go_at_call 5; refine (HRN.out _).mono ?_; rintro e w2 ⟨V, rfl, ⟨A2, c2, rfl, hr2⟩, hb2⟩; rw [HBL.out]; have HR2 := Lib.hid hr2; have HB2 := Lib.hid hb2; have HX2 := Lib.hid (Blk.new w2 31 rbZ); clear hb2 hr2)
    | ((with_reducible refine at_store 9 ?_); refine wpList_store_blk rfl _ _ _ rfl rfl w2.heap.size 0 _ rbZ (rbC W H A2 c2 0 0 false) rfl rfl HX2.out (by simp [rbZ, rbC]) rb_size (rbC_one _ _ _ _ _ _ _) ?_; intro w3 hn3 hg3; have hn3' : Blk w3 w2.heap.size 31 (rbC W H A2 c2 0 0 false) := hn3; have hb3 : Below w2.heap.size w2 w3 := ((Below.refl _ _).alloc (Nat.le_refl _) _).grown hg3 (by simp) (fun j hj => by injection hj with hj; omega); have H2 := Lib.hid (Two.new HD1.out HB1.out HR2.out HB2.out HBL.out hb3 hn3'); clear hn3 hn3' hg3 hb3)
    | (go_at_call 6; refine (fawake_any _ (HT.out.bel H2.out.bel) (HTB.out.below H2.out.bel)).mono ?_; rintro e w4 ⟨rfl, hb4⟩; have H4 := Lib.hid (H2.out.below hb4); clear hb4))
  have H4' := H4.out
  obtain ⟨box, hbox⟩ : ∃ box, box = w2.heap.size := ⟨_, rfl⟩
  rw [← hbox] at H4' ⊢
  have H5 := Lib.hid H4'
  clear HN HRN HD1 HB1 HR2 HB2 HX2 H2 H4 H4' hbox HBL
  go_loopw [11] (fun v wr => ∃ (k : Nat) (L : List (List Cl)) (row col : Int) (sn : Bool) (A : Option Addr) (c : Nat), v = .int .i64 k ∧ k ≤ n ∧ k ≤ 40 ∧ Two w b g rb bs box W H wr L row col sn A c) (fun v _ => 40 - (intOf v).toNat)
  case atStart => exact ⟨0, _, _, _, _, _, _, rfl, by omega, by omega, H5.out⟩
  case round =>
    clear H5
    obtain ⟨k, L, row, col, sn, A', c', rfl, hk, hk4, htw⟩ := hrel
    by_cases hlt : k < n ∧ k < 40
    · obtain ⟨hkn, hk40⟩ := hlt
      have hki : (k : Int) < n := by omega
      have hki4 : (k : Int) < 40 := by omega
      have hx : l[k]? = some (l[k]'(by have := HL.out; omega)) := List.getElem?_eq_getElem _
      generalize l[k]'(by have := HL.out; omega) = o at hx
      have hook := HOK.out o (List.mem_of_getElem? hx)
      obtain ⟨ab, off, rfl, hab, hcell⟩ := HS.out.open_ (by rw [foc_length]; have := HL.out; omega)
      have hrg : wr.rangeAt ab (off + k * 11) o.cells := fun j v hv => by
        rw [Nat.add_assoc]
        exact (htw.bel.cell (p := ⟨ab, off + (k * 11 + j), none⟩) hab).trans (hcell _ v (foc_get hx hv))
      have HRG := Lib.hid hrg
      have HX := Lib.hid (Blk.new wr 38 fozero.cells)
      have HTW := Lib.hid htw
      have HOO := Lib.hid hook
      have hos : o.s.size ≤ 9223372036854775807 := by have := hook.s; unfold maxLen at this; omega
      have d0 := hook.d0
      have d1 := hook.d1
      clear hx hook hcell hrg htw
      obtain ⟨t, ht, ht200⟩ : ∃ t : List UInt8, o.s.extract 0 (min (o.s.size : Int) 200).toNat = ⟨t.toArray⟩ ∧ t.length ≤ 200 :=
        ⟨_, fex_take o.s _ (by omega), by rw [List.length_take]; omega⟩
      have hdm : o.kd % 4 = 0 ∨ o.kd % 4 = 1 ∨ o.kd % 4 = 2 ∨ o.kd % 4 = 3 := by omega
      go_upto_region 11 with (first
        | ((with_reducible refine at_dst 63 ?_); refine wpList_load_mid rfl _ _ rfl ab (off + k * 11) rfl o.cells _ HRG.out Tryz.underlying38 rfl fop_size ?_)
        | ((with_reducible refine at_store 12 ?_); refine wpList_store_blk rfl _ _ _ rfl rfl wr.heap.size 0 _ fozero.cells o.cells rfl rfl HX.out (by simp [OpF.len]) fop_size o.one ?_; intro w3 hn3 hg3; have hn3' : Blk w3 wr.heap.size 38 o.cells := hn3; have hb3 : Below wr.heap.size wr w3 := ((Below.refl _ _).alloc (Nat.le_refl _) _).grown hg3 (by simp) (fun j hj => by injection hj with hj; omega); have HT3 := Lib.hid (HTW.out.below hb3); have HO3 := Lib.hid hn3'; have hsz3 := hb3.size; have q4 : w3.cell? ⟨wr.heap.size, 4, none⟩ = some (.string o.s) := hn3'.cell 4; clear hn3 hn3' hg3 hb3))
      have hlen := HT3.out.len
      have hown : ∀ k, BdOwn b g rb bs k → k ≠ wr.heap.size := fun k hk e => by have := HTW.out.bd.own_lt k hk; omega
      have hbt := HT.out.bel HT3.out.bel
      have htt := HTB.out.below HT3.out.bel
      have hlo : 0 < w.heap.size ∧ 1 < w.heap.size ∧ 2 < w.heap.size := ⟨HT.out.2, HTB.out.mg, HTB.out.wg⟩
      have hq := HT3.out.bd.grid.rws_
      have hf4 := flatB_le4 t
      have HOW := Lib.hid hown
      have HLO := Lib.hid hlo
      rcases hdm with hd | hd | hd | hd
      case' inl =>
        have e0 : (o.kd % 4 == 0) = true := by simp [hd]
        have hbc := ftext_any HT3.out.bd hbt htt hlo o.row o.col t (by omega) o.y
        have hre : ∀ ww D A c, RfAt ww D A c L → Calls Tryz.prog 8 #[.agg (rbC W H A c row col sn).toArray, .int .i64 o.row, .int .i64 o.col, .string ⟨t.toArray⟩, .agg o.y.cells.toArray] ww fun e w' => ∃ V, e = .returned (.tuple #[V, .int .i64 (ftxt W L o.row o.col t o.y).2.1, .int .i64 (ftxt W L o.row o.col t o.y).2.2]) ∧
            RbV w' (fun k => D k ∨ ww.heap.size ≤ k) V W (ftxt W L o.row o.col t o.y).1 row col sn ∧ Below ww.heap.size ww w' := fun ww D A c hh => by
          have := rbtext_any hh hq row col sn o.row o.col t (by omega) (by omega) o.y
          rw [hlen] at this
          exact this
        have hl' : (ftxt W L o.row o.col t o.y).1.length = H := ftxt_length.trans hlen
        generalize ftxt W L o.row o.col t o.y = q at hbc hre hl'
        obtain ⟨L', nn, xx⟩ := q
        simp only at hbc hre hl'
        have q0 : w3.cell? ⟨wr.heap.size, 0, none⟩ = some (.int .u8 o.kd) := HO3.out.cell 0
        have q1 : w3.cell? ⟨wr.heap.size, 1, none⟩ = some (.int .i64 o.row) := HO3.out.cell 1
        have q2 : w3.cell? ⟨wr.heap.size, 2, none⟩ = some (.int .i64 o.col) := HO3.out.cell 2
        have HBC := Lib.hid hbc
        have HRE := Lib.hid hre
        have HL' := Lib.hid hl'
        clear hbc hre hl' hlen hown hbt htt hlo hq hf4
        simp only [OpF.cells] at HO3
        go_upto_region 22 with (first
          | (go_at_call 7; refine HBC.out.mono ?_; rintro e w4 ⟨rfl, hbd4, hc4⟩; have hmid := HT3.out.mid hc4 (fun k hk => .inr hk); have ho4 := HO3.out.chg hc4 (fun e => HOW.out _ (.inr e) rfl); have M1 := Lib.hid hmid.1; have M2 := Lib.hid hmid.2.1; have HO4 := Lib.hid ho4; have HD4 := Lib.hid hbd4; have HC4 := Lib.hid hc4; have r0 : w4.cell? ⟨wr.heap.size, 0, none⟩ = some (.int .u8 o.kd) := ho4.cell 0; have r1 : w4.cell? ⟨wr.heap.size, 1, none⟩ = some (.int .i64 o.row) := ho4.cell 1; have r2 : w4.cell? ⟨wr.heap.size, 2, none⟩ = some (.int .i64 o.col) := ho4.cell 2; clear hmid ho4 hbd4 hc4)
          | ((with_reducible refine at_dst 109 ?_); refine wpList_load_mid rfl _ _ rfl box 0 rfl (rbC W H A' c' row col sn) _ (range_all M1.out) Tryz.underlying31 rfl rb_size ?_)
          | ((with_reducible refine at_dst 104 ?_); refine wpList_load_mid rfl _ _ rfl wr.heap.size 5 rfl o.y.cells _ (HO3.out.range 5 o.y.cells (by
            intro j v hv
            have hj : j < 5 := (List.getElem?_eq_some_iff.1 hv).1
            match j, hj with
            | 0, _ => exact hv
            | 1, _ => exact hv
            | 2, _ => exact hv
            | 3, _ => exact hv
            | 4, _ => exact hv)) Tryz.underlying36 rfl sty_size ?_)
          | ((with_reducible refine at_dst 116 ?_); refine wpList_load_mid rfl _ _ rfl wr.heap.size 5 rfl o.y.cells _ (HO4.out.range 5 o.y.cells (by
            intro j v hv
            have hj : j < 5 := (List.getElem?_eq_some_iff.1 hv).1
            match j, hj with
            | 0, _ => exact hv
            | 1, _ => exact hv
            | 2, _ => exact hv
            | 3, _ => exact hv
            | 4, _ => exact hv)) Tryz.underlying36 rfl sty_size ?_)
          | (go_at_call 8; refine (HRE.out _ _ _ _ M2.out).mono ?_; rintro e w5 ⟨V, rfl, ⟨A5, c5, rfl, hr5⟩, hb5⟩; rw [HL'.out]; have HB5 := Lib.hid hb5; have HR5 := Lib.hid hr5; have HX5 := Lib.hid (M1.out.below hb5 M1.out.lt); clear hb5 hr5)
          | ((with_reducible refine at_store 9 ?_); refine wpList_store_blk rfl _ _ _ rfl rfl box 0 _ (rbC W H A' c' row col sn) (rbC W H A5 c5 row col sn) rfl rfl HX5.out (by simp [rbC]) rb_size (rbC_one _ _ _ _ _ _ _) ?_; intro w6 hn6 hg6; have T6 := Lib.hid (Two.done HT3.out HC4.out (fun k hk => .inr hk) HD4.out HR5.out HB5.out HL'.out hg6 hn6); clear hn6 hg6)
          | (go_at_call 13; refine (fbsize_any T6.out.bd).mono ?_; rintro e w7 ⟨rfl, dd, rfl⟩; rw [HL'.out]))
      case' inr.inl =>
        have e0 : (o.kd % 4 == 0) = false := by simp [hd]
        have e1 : (o.kd % 4 == 1) = true := by simp [hd]
        have hbc := ftext_any HT3.out.bd hbt htt hlo o.row o.col t (by omega) o.y
        have hre : ∀ ww D A c, RfAt ww D A c L → Calls Tryz.prog 8 #[.agg (rbC W H A c row col sn).toArray, .int .i64 o.row, .int .i64 o.col, .string ⟨t.toArray⟩, .agg o.y.cells.toArray] ww fun e w' => ∃ V, e = .returned (.tuple #[V, .int .i64 (ftxt W L o.row o.col t o.y).2.1, .int .i64 (ftxt W L o.row o.col t o.y).2.2]) ∧
            RbV w' (fun k => D k ∨ ww.heap.size ≤ k) V W (ftxt W L o.row o.col t o.y).1 row col sn ∧ Below ww.heap.size ww w' := fun ww D A c hh => by
          have := rbtext_any hh hq row col sn o.row o.col t (by omega) (by omega) o.y
          rw [hlen] at this
          exact this
        have hl' : (ftxt W L o.row o.col t o.y).1.length = H := ftxt_length.trans hlen
        generalize ftxt W L o.row o.col t o.y = q at hbc hre hl'
        obtain ⟨L', nn, xx⟩ := q
        simp only at hbc hre hl'
        have q0 : w3.cell? ⟨wr.heap.size, 0, none⟩ = some (.int .u8 o.kd) := HO3.out.cell 0
        have q1 : w3.cell? ⟨wr.heap.size, 1, none⟩ = some (.int .i64 o.row) := HO3.out.cell 1
        have q2 : w3.cell? ⟨wr.heap.size, 2, none⟩ = some (.int .i64 o.col) := HO3.out.cell 2
        have HBC := Lib.hid hbc
        have HRE := Lib.hid hre
        have HL' := Lib.hid hl'
        clear hbc hre hl' hlen hown hbt htt hlo hq hf4
        simp only [OpF.cells] at HO3
        go_upto_region 22 with (first
          | (go_at_call 7; refine HBC.out.mono ?_; rintro e w4 ⟨rfl, hbd4, hc4⟩; have hmid := HT3.out.mid hc4 (fun k hk => .inr hk); have ho4 := HO3.out.chg hc4 (fun e => HOW.out _ (.inr e) rfl); have M1 := Lib.hid hmid.1; have M2 := Lib.hid hmid.2.1; have HO4 := Lib.hid ho4; have HD4 := Lib.hid hbd4; have HC4 := Lib.hid hc4; have r0 : w4.cell? ⟨wr.heap.size, 0, none⟩ = some (.int .u8 o.kd) := ho4.cell 0; have r1 : w4.cell? ⟨wr.heap.size, 1, none⟩ = some (.int .i64 o.row) := ho4.cell 1; have r2 : w4.cell? ⟨wr.heap.size, 2, none⟩ = some (.int .i64 o.col) := ho4.cell 2; clear hmid ho4 hbd4 hc4)
          | ((with_reducible refine at_dst 109 ?_); refine wpList_load_mid rfl _ _ rfl box 0 rfl (rbC W H A' c' row col sn) _ (range_all M1.out) Tryz.underlying31 rfl rb_size ?_)
          | ((with_reducible refine at_dst 104 ?_); refine wpList_load_mid rfl _ _ rfl wr.heap.size 5 rfl o.y.cells _ (HO3.out.range 5 o.y.cells (by
            intro j v hv
            have hj : j < 5 := (List.getElem?_eq_some_iff.1 hv).1
            match j, hj with
            | 0, _ => exact hv
            | 1, _ => exact hv
            | 2, _ => exact hv
            | 3, _ => exact hv
            | 4, _ => exact hv)) Tryz.underlying36 rfl sty_size ?_)
          | ((with_reducible refine at_dst 116 ?_); refine wpList_load_mid rfl _ _ rfl wr.heap.size 5 rfl o.y.cells _ (HO4.out.range 5 o.y.cells (by
            intro j v hv
            have hj : j < 5 := (List.getElem?_eq_some_iff.1 hv).1
            match j, hj with
            | 0, _ => exact hv
            | 1, _ => exact hv
            | 2, _ => exact hv
            | 3, _ => exact hv
            | 4, _ => exact hv)) Tryz.underlying36 rfl sty_size ?_)
          | (go_at_call 8; refine (HRE.out _ _ _ _ M2.out).mono ?_; rintro e w5 ⟨V, rfl, ⟨A5, c5, rfl, hr5⟩, hb5⟩; rw [HL'.out]; have HB5 := Lib.hid hb5; have HR5 := Lib.hid hr5; have HX5 := Lib.hid (M1.out.below hb5 M1.out.lt); clear hb5 hr5)
          | ((with_reducible refine at_store 9 ?_); refine wpList_store_blk rfl _ _ _ rfl rfl box 0 _ (rbC W H A' c' row col sn) (rbC W H A5 c5 row col sn) rfl rfl HX5.out (by simp [rbC]) rb_size (rbC_one _ _ _ _ _ _ _) ?_; intro w6 hn6 hg6; have T6 := Lib.hid (Two.done HT3.out HC4.out (fun k hk => .inr hk) HD4.out HR5.out HB5.out HL'.out hg6 hn6); clear hn6 hg6)
          | (go_at_call 13; refine (fbsize_any T6.out.bd).mono ?_; rintro e w7 ⟨rfl, dd, rfl⟩; rw [HL'.out]))
      case' inr.inr.inl =>
        have e0 : (o.kd % 4 == 0) = false := by simp [hd]
        have e1 : (o.kd % 4 == 1) = false := by simp [hd]
        have e2 : (o.kd % 4 == 2) = true := by simp [hd]
        have hbc := ffill_any HT3.out.bd hbt hlo.1 o.row o.col o.z HOO.out.c0 HOO.out.c1 o.y
        have hre : ∀ ww D A c, RfAt ww D A c L → Calls Tryz.prog 10 #[.agg (rbC W H A c row col sn).toArray, .int .i64 o.row, .int .i64 o.col, .int .i64 o.z, .agg o.y.cells.toArray] ww fun e w' => ∃ V, e = .returned (.tuple #[V, .int .i64 (ffil W L o.row o.col o.z o.y).2]) ∧
            RbV w' (fun k => D k ∨ ww.heap.size ≤ k) V W (ffil W L o.row o.col o.z o.y).1 row col sn ∧ Below ww.heap.size ww w' := fun ww D A c hh => by
          have := rbfill_any hh hq row col sn o.row o.col o.z o.y
          rw [hlen] at this
          exact this
        have hl' : (ffil W L o.row o.col o.z o.y).1.length = H := ffil_length.trans hlen
        generalize ffil W L o.row o.col o.z o.y = q at hbc hre hl'
        obtain ⟨L', xx⟩ := q
        simp only at hbc hre hl'
        have q0 : w3.cell? ⟨wr.heap.size, 0, none⟩ = some (.int .u8 o.kd) := HO3.out.cell 0
        have q1 : w3.cell? ⟨wr.heap.size, 1, none⟩ = some (.int .i64 o.row) := HO3.out.cell 1
        have q2 : w3.cell? ⟨wr.heap.size, 2, none⟩ = some (.int .i64 o.col) := HO3.out.cell 2
        have q3 : w3.cell? ⟨wr.heap.size, 3, none⟩ = some (.int .i64 o.z) := HO3.out.cell 3
        have HBC := Lib.hid hbc
        have HRE := Lib.hid hre
        have HL' := Lib.hid hl'
        clear hbc hre hl' hlen hown hbt htt hlo hq hf4
        simp only [OpF.cells] at HO3
        go_upto_region 22 with (first
          | (go_at_call 9; refine HBC.out.mono ?_; rintro e w4 ⟨rfl, hbd4, hc4⟩; have hmid := HT3.out.mid hc4 (fun k hk => .inr hk); have ho4 := HO3.out.chg hc4 (fun e => HOW.out _ (.inr e) rfl); have M1 := Lib.hid hmid.1; have M2 := Lib.hid hmid.2.1; have HO4 := Lib.hid ho4; have HD4 := Lib.hid hbd4; have HC4 := Lib.hid hc4; have r0 : w4.cell? ⟨wr.heap.size, 0, none⟩ = some (.int .u8 o.kd) := ho4.cell 0; have r1 : w4.cell? ⟨wr.heap.size, 1, none⟩ = some (.int .i64 o.row) := ho4.cell 1; have r2 : w4.cell? ⟨wr.heap.size, 2, none⟩ = some (.int .i64 o.col) := ho4.cell 2; have r3 : w4.cell? ⟨wr.heap.size, 3, none⟩ = some (.int .i64 o.z) := ho4.cell 3; clear hmid ho4 hbd4 hc4)
          | ((with_reducible refine at_dst 134 ?_); refine wpList_load_mid rfl _ _ rfl box 0 rfl (rbC W H A' c' row col sn) _ (range_all M1.out) Tryz.underlying31 rfl rb_size ?_)
          | ((with_reducible refine at_dst 131 ?_); refine wpList_load_mid rfl _ _ rfl wr.heap.size 5 rfl o.y.cells _ (HO3.out.range 5 o.y.cells (by
            intro j v hv
            have hj : j < 5 := (List.getElem?_eq_some_iff.1 hv).1
            match j, hj with
            | 0, _ => exact hv
            | 1, _ => exact hv
            | 2, _ => exact hv
            | 3, _ => exact hv
            | 4, _ => exact hv)) Tryz.underlying36 rfl sty_size ?_)
          | ((with_reducible refine at_dst 142 ?_); refine wpList_load_mid rfl _ _ rfl wr.heap.size 5 rfl o.y.cells _ (HO4.out.range 5 o.y.cells (by
            intro j v hv
            have hj : j < 5 := (List.getElem?_eq_some_iff.1 hv).1
            match j, hj with
            | 0, _ => exact hv
            | 1, _ => exact hv
            | 2, _ => exact hv
            | 3, _ => exact hv
            | 4, _ => exact hv)) Tryz.underlying36 rfl sty_size ?_)
          | (go_at_call 10; refine (HRE.out _ _ _ _ M2.out).mono ?_; rintro e w5 ⟨V, rfl, ⟨A5, c5, rfl, hr5⟩, hb5⟩; rw [HL'.out]; have HB5 := Lib.hid hb5; have HR5 := Lib.hid hr5; have HX5 := Lib.hid (M1.out.below hb5 M1.out.lt); clear hb5 hr5)
          | ((with_reducible refine at_store 9 ?_); refine wpList_store_blk rfl _ _ _ rfl rfl box 0 _ (rbC W H A' c' row col sn) (rbC W H A5 c5 row col sn) rfl rfl HX5.out (by simp [rbC]) rb_size (rbC_one _ _ _ _ _ _ _) ?_; intro w6 hn6 hg6; have T6 := Lib.hid (Two.done HT3.out HC4.out (fun k hk => .inr hk) HD4.out HR5.out HB5.out HL'.out hg6 hn6); clear hn6 hg6)
          | (go_at_call 13; refine (fbsize_any T6.out.bd).mono ?_; rintro e w7 ⟨rfl, dd, rfl⟩; rw [HL'.out]))
      case' inr.inr.inr =>
        have e0 : (o.kd % 4 == 0) = false := by simp [hd]
        have e1 : (o.kd % 4 == 1) = false := by simp [hd]
        have e2 : (o.kd % 4 == 2) = false := by simp [hd]
        have hbc := fcursor_any HT3.out.bd o.row o.col o.sn
        have hre : ∀ ww D A c, RfAt ww D A c L → Calls Tryz.prog 12 #[.agg (rbC W H A c row col sn).toArray, .int .i64 o.row, .int .i64 o.col, .bool o.sn] ww fun e w' => ∃ V, e = .returned (.tuple #[V, .int .i64 (if fcurB W L.length o.row o.col = true then 0 else 5)]) ∧
            RbV w' (fun k => D k ∨ ww.heap.size ≤ k) V W L (if fcurB W L.length o.row o.col = true then o.row else row) (if fcurB W L.length o.row o.col = true then o.col else col) (if fcurB W L.length o.row o.col = true then o.sn else sn) ∧ Below ww.heap.size ww w' := fun ww D A c hh => by
          have := rbcursor_any (W := W) hh row col sn o.row o.col o.sn
          rw [hlen] at this ⊢
          refine this.mono fun e w' ⟨V, h1, ⟨A6, c6, h2, h3⟩, h4⟩ => ⟨V, h1, ⟨A6, c6, h2, h3.mono (fun k _ hk => .inl hk)⟩, h4⟩
        have hl' := hlen
        generalize (if fcurB W L.length o.row o.col = true then (0 : Int) else 5) = xx at hbc hre
        generalize (if fcurB W L.length o.row o.col = true then o.row else row) = row' at hbc hre
        generalize (if fcurB W L.length o.row o.col = true then o.col else col) = col' at hbc hre
        generalize (if fcurB W L.length o.row o.col = true then o.sn else sn) = sn' at hbc hre
        have q0 : w3.cell? ⟨wr.heap.size, 0, none⟩ = some (.int .u8 o.kd) := HO3.out.cell 0
        have q1 : w3.cell? ⟨wr.heap.size, 1, none⟩ = some (.int .i64 o.row) := HO3.out.cell 1
        have q2 : w3.cell? ⟨wr.heap.size, 2, none⟩ = some (.int .i64 o.col) := HO3.out.cell 2
        have q10 : w3.cell? ⟨wr.heap.size, 10, none⟩ = some (.bool o.sn) := HO3.out.cell 10
        have HBC := Lib.hid hbc
        have HRE := Lib.hid hre
        have HL' := Lib.hid hl'
        clear hbc hre hl' hlen hown hbt htt hlo hq hf4
        simp only [OpF.cells] at HO3
        go_upto_region 22 with (first
          | (go_at_call 11; refine HBC.out.mono ?_; rintro e w4 ⟨rfl, hbd4, hc4⟩; have hmid := HT3.out.mid hc4 (fun k hk => .inl hk); have ho4 := HO3.out.chg hc4 (fun e => HOW.out _ (.inl e) rfl); have M1 := Lib.hid hmid.1; have M2 := Lib.hid hmid.2.1; have HO4 := Lib.hid ho4; have HD4 := Lib.hid hbd4; have HC4 := Lib.hid hc4; have r0 : w4.cell? ⟨wr.heap.size, 0, none⟩ = some (.int .u8 o.kd) := ho4.cell 0; have r1 : w4.cell? ⟨wr.heap.size, 1, none⟩ = some (.int .i64 o.row) := ho4.cell 1; have r2 : w4.cell? ⟨wr.heap.size, 2, none⟩ = some (.int .i64 o.col) := ho4.cell 2; have r10 : w4.cell? ⟨wr.heap.size, 10, none⟩ = some (.bool o.sn) := ho4.cell 10; clear hmid ho4 hbd4 hc4)
          | ((with_reducible refine at_dst 83 ?_); refine wpList_load_mid rfl _ _ rfl box 0 rfl (rbC W H A' c' row col sn) _ (range_all M1.out) Tryz.underlying31 rfl rb_size ?_)
          | (go_at_call 12; refine (HRE.out _ _ _ _ M2.out).mono ?_; rintro e w5 ⟨V, rfl, ⟨A5, c5, rfl, hr5⟩, hb5⟩; rw [HL'.out]; have HB5 := Lib.hid hb5; have HR5 := Lib.hid hr5; have HX5 := Lib.hid (M1.out.below hb5 M1.out.lt); clear hb5 hr5)
          | ((with_reducible refine at_store 9 ?_); refine wpList_store_blk rfl _ _ _ rfl rfl box 0 _ (rbC W H A' c' row col sn) (rbC W H A5 c5 row' col' sn') rfl rfl HX5.out (by simp [rbC]) rb_size (rbC_one _ _ _ _ _ _ _) ?_; intro w6 hn6 hg6; have T6 := Lib.hid (Two.done HT3.out HC4.out (fun k hk => .inl hk) HD4.out HR5.out HB5.out HL'.out hg6 hn6); clear hn6 hg6)
          | (go_at_call 13; refine (fbsize_any T6.out.bd).mono ?_; rintro e w7 ⟨rfl, dd, rfl⟩; rw [HL'.out]))
      all_goals
        obtain ⟨L9, r9, c9, s9, A9, k9, hT9⟩ : ∃ L r c s A k, Two w b g rb bs box W H (w6.drewN dd) L r c s A k := ⟨_, _, _, _, _, _, T6.out.below (below_drewN _ _)⟩
        obtain ⟨w9, hw9⟩ : ∃ w9, w9 = w6.drewN dd := ⟨_, rfl⟩
        rw [← hw9] at hT9 ⊢
        clear hw9 q0 q1 q2 q4 r0 r1 r2 T6 HBC HRE HL' HX5 HR5 HB5 HC4 HD4 M1 M2 HT3 HOW HLO HRG HX HTW
        have hlen9 := hT9.len
        have hsh := fbs_short hT9.bd.grid.rws_
        have h60 := hT9.bd.h60
        have hgood := fb_good (w := w) hT9.bd
        have q1 : ∀ ww, Below w9.heap.size w9 ww → Calls Tryz.prog 15 #[.pointer (some ⟨b, 0, none⟩)] ww fun e w' => ∃ A1 c1, e = .returned (.agg #[.slice A1 H c1, .int .i64 r9, .int .i64 c9, .bool s9]) ∧ RfAt w' (fun _ => True) A1 c1 L9 ∧ Below w9.heap.size w9 w' := fun ww hb => by
          have := fframe_any (hT9.bd.below hb) (HT.out.bel (hT9.bel.trans (hb.mono hT9.bel.size)))
          rw [hlen9] at this
          exact this.mono fun e w' ⟨A1, c1, h1, h2, h3⟩ => ⟨A1, c1, h1, h2.mono (fun _ _ _ => trivial), hb.trans (h3.mono hb.size)⟩
        have q2 : ∀ ww, Below w9.heap.size w9 ww → Calls Tryz.prog 16 #[.agg #[.int .i64 W, .int .i64 H, .slice A9 H k9, .int .i64 r9, .int .i64 c9, .bool s9]] ww fun e w' => ∃ A1 c1, e = .returned (.agg #[.slice A1 H c1, .int .i64 r9, .int .i64 c9, .bool s9]) ∧ RfAt w' (fun _ => True) A1 c1 L9 ∧ Below ww.heap.size ww w' ∧ Below w9.heap.size w9 w' := fun ww hb => by
          have := rbframe_any (W := W) (hT9.rf.below hb) (by omega) r9 c9 s9
          rw [hlen9] at this
          exact this.mono fun e w' ⟨A1, c1, h1, h2, h3⟩ => ⟨A1, c1, h1, h2.mono (fun _ _ _ => trivial), h3, hb.trans (h3.mono hb.size)⟩
        have q3 : ∀ (ww : World) A1 c1 A2 c2, RfAt ww (fun _ => True) A1 c1 L9 → RfAt ww (fun _ => True) A2 c2 L9 → Calls Tryz.prog 14 #[.agg #[.slice A1 H c1, .int .i64 r9, .int .i64 c9, .bool s9], .agg #[.slice A2 H c2, .int .i64 r9, .int .i64 c9, .bool s9]] ww fun e w' => e = .returned (.bool true) ∧ Below ww.heap.size ww w' := fun ww A1 c1 A2 c2 ha hb => by
          have := rfsame_eq ha hb r9 c9 s9 (fun l hl => (hsh l hl).1) (by omega)
          rw [hlen9] at this
          exact this
        have q4 : ∀ (ww : World) A1 c1, Below w9.heap.size w9 ww → RfAt ww (fun _ => True) A1 c1 L9 → Calls Tryz.prog 17 #[.agg #[.slice A1 H c1, .int .i64 r9, .int .i64 c9, .bool s9]] ww fun e w' => e = .returned (.int .i64 0) ∧ Below ww.heap.size ww w' := fun ww A1 c1 hb ha => by
          have := fcheck_any ha r9 c9 s9 hsh (by omega) (HTB.out.below (hT9.bel.trans (hb.mono hT9.bel.size)))
          rw [hlen9, hgood] at this
          exact this
        have hk9 : ∀ w', Below w9.heap.size w9 w' → Below w9.heap.size w9 w' ∧ w'.cell? ⟨box, 0, none⟩ = some (.int .i64 W) ∧ w'.cell? ⟨box, 1, none⟩ = some (.int .i64 H) ∧ w'.cell? ⟨box, 2, none⟩ = some (.slice A9 H k9) ∧ w'.cell? ⟨box, 3, none⟩ = some (.int .i64 r9) ∧ w'.cell? ⟨box, 4, none⟩ = some (.int .i64 c9) ∧ w'.cell? ⟨box, 5, none⟩ = some (.bool s9) := fun w' hb => by
          have hx := (hT9.below hb).bx
          exact ⟨hb, hx.cell 0, hx.cell 1, hx.cell 2, hx.cell 3, hx.cell 4, hx.cell 5⟩
        have Q1 := Lib.hid q1
        have Q2 := Lib.hid q2
        have Q3 := Lib.hid q3
        have Q4 := Lib.hid q4
        have HK9 := Lib.hid hk9
        have T9 := Lib.hid hT9
        have HDR := Lib.hid ((Below.refl w9.heap.size w9).drew)
        clear q1 q2 q3 q4 hk9 hT9 hlen9 hsh h60 hgood
        go_region_held3 (fun w' => Below w9.heap.size w9 w' ∧ w'.cell? ⟨box, 0, none⟩ = some (.int .i64 W) ∧ w'.cell? ⟨box, 1, none⟩ = some (.int .i64 H) ∧ w'.cell? ⟨box, 2, none⟩ = some (.slice A9 H k9) ∧ w'.cell? ⟨box, 3, none⟩ = some (.int .i64 r9) ∧ w'.cell? ⟨box, 4, none⟩ = some (.int .i64 c9) ∧ w'.cell? ⟨box, 5, none⟩ = some (.bool s9))
          (first | exact HK9.out _ hbx | exact HK9.out _ HDR.out)
          (first
            | (go_at_call 15; refine (Q1.out _ (by first | assumption | exact And.left (by assumption))).mono ?_; rintro e wx ⟨A1, c1, rfl, hs1, hbx⟩; have HS1 := Lib.hid hs1; clear hs1)
            | (go_at_call 16; refine (Q2.out _ (by first | assumption | exact And.left (by assumption))).mono ?_; rintro e wx ⟨A2, c2, rfl, hs2, hbw, hbx⟩; have HS2 := Lib.hid hs2; have HS3 := Lib.hid (HS1.out.below hbw); clear hs2 hbw)
            | (go_at_call 14; refine (Q3.out _ _ _ _ _ HS3.out HS2.out).mono ?_; rintro e wy ⟨rfl, hby⟩; have hbx' := hbx.trans (hby.mono hbx.size); clear hby hbx; have hbx := hbx'; clear hbx')
            | (go_at_call 17; refine (Q4.out _ _ _ hbx HS1.out).mono ?_; rintro e wy ⟨rfl, hby⟩; have hbx' := hbx.trans (hby.mono hbx.size); clear hby hbx; have hbx := hbx'; clear hbx'))
        all_goals
          go_wp2_with (fail)
          go_roundw
          case rel => exact ⟨k + 1, L9, r9, c9, s9, A9, k9, by go_num, by omega, by omega, T9.out.below hbx⟩
          case measure => simp [intOf]; omega
    · have HTW := Lib.hid htw.bel
      clear htw
      by_cases hkn : k < n
      · have hki : (k : Int) < n := by omega
        have hki4 : ¬ (k : Int) < 40 := by omega
        go_wp2
        go_ret
        exact ⟨rfl, HTW.out⟩
      · have hki : ¬ (k : Int) < n := by omega
        go_wp2
        go_ret
        exact ⟨rfl, HTW.out⟩

theorem frameBuilds_walk (a b : Int) (l : List OpF) (hok : ∀ o ∈ l, o.ok) (n c : Nat) (A : Option Addr) (hn : n = l.length) (hm : n ≤ maxLen) (w : World) (hS : Sl w w.heap.size A (foc l)) (hT : BlankT w) (hTab : Tabs w) :
    Calls Tryz.prog 3 #[.int .i64 a, .int .i64 b, .slice A n c] w fun e w' => e = .returned (.bool true) ∧ Below w.heap.size w w' := by
  by_cases h : fsizeB a b = true
  · have hr : 1 ≤ a ∧ a ≤ 500 ∧ 1 ≤ b ∧ b ≤ 60 := by
      unfold fsizeB at h
      simp only [decide_eq_true_eq] at h
      omega
    obtain ⟨W, rfl⟩ := Int.eq_ofNat_of_zero_le (show 0 ≤ a by omega)
    obtain ⟨H, rfl⟩ := Int.eq_ofNat_of_zero_le (show 0 ≤ b by omega)
    exact frameBuilds_yes W H (by omega) (by omega) (by omega) (by omega) l hok n c A hn hm w hS hT hTab
  · exact frameBuilds_no a b (by simpa using h) A n c hm w hT hTab
end Go.Proofs.YtipglbpmpcoidaaGreatDoor
