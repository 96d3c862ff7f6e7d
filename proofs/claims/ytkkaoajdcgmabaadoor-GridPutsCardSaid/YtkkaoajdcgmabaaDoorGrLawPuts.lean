/-
  The law GridPuts, walked.
-/
import Derived.Test.YtkkaoajdcgmabaaDoorGrPutsM
import Derived.Test.YtkkaoajdcgmabaaDoorGrAwake
import Derived.Test.YtkkaoajdcgmabaaDoorGrSame
namespace Go.Proofs.YtkkaoajdcgmabaaDoor
open Go.RowKit
set_option linter.unusedVariables false
set_option linter.unusedSimpArgs false

theorem GrAt.wf {w : World} {lo g rb W : Nat} {bs : List Nat} {L : List (List Cl)} (h : GrAt w lo g rb bs W L) : ∀ (i : Nat) l, L[i]? = some l → Wf l := fun i l hl => (h.some_at hl).2
theorem GrAt.wd {w : World} {lo g rb W : Nat} {bs : List Nat} {L : List (List Cl)} (h : GrAt w lo g rb bs W L) : ∀ (i : Nat) l, L[i]? = some l → l.length = W := fun i l hl => (h.some_at hl).1

set_option maxRecDepth 100000 in
set_option maxHeartbeats 8000000 in
theorem gridPuts_walk (l : List OpV) (hok : ∀ o ∈ l, o.ok) (n c : Nat) (A : Option Addr) (hn : n = l.length) (hm : n ≤ maxLen) (o : OpV) (ho : o.ok) (w : World) (hS : Sl w w.heap.size A (oc l)) (hT : BlankT w) :
    Calls Tryd.prog 4 #[.slice A n c, .agg o.cells.toArray] w fun e w' => e = .returned (.bool true) ∧ Below w.heap.size w w' := by
  have hb0 : Below w.heap.size w (w.alloc (.cells o.cells.toArray 36)) := (Below.refl _ _).alloc (Nat.le_refl _) _
  have HB0 := Lib.hid hb0
  have HX0 := Lib.hid (Blk.new w 36 o.cells)
  have HS := Lib.hid hS
  have HT := Lib.hid hT
  have HOK := Lib.hid hok
  have HO := Lib.hid ho
  have HN := Lib.hid hn
  have HM := Lib.hid hm
  have hlo := hT.2
  have HFW := Lib.hid (few_any o ho)
  have hs70 := few_s o
  have hok2 := ho.few
  generalize fewM o = p at HFW hs70 hok2
  have HP := Lib.hid hok2
  clear hb0 hS hT hok ho hn hm hok2
  go_enter Tryd.func4, Tryd.ntmps4
  go_wp2_with (fail)
  refine (filled_any l HOK.out n c A HN.out HM.out _ ((HS.out.alloc (Nat.le_refl _) _).more (by simp)) (HT.out.bel HB0.out)).mono ?_
  rintro e w1 ⟨g, rb, bs, rfl, hg1, hb1⟩
  have HG1 := Lib.hid hg1
  have HB1 := Lib.hid (HB0.out.trans (hb1.mono HB0.out.size))
  have HX1 := Lib.hid (HX0.out.below hb1 HX0.out.lt)
  clear hg1 hb1
  go_wp2_with (fail)
  refine (filled_any l HOK.out n c A HN.out HM.out _ ((HS.out.below HB1.out).more HB1.out.size) (HT.out.below HB1.out hlo)).mono ?_
  rintro e w2 ⟨g2, rb2, bs2, rfl, hg2, hb2⟩
  have HH2 := Lib.hid hg2
  have HG2 := Lib.hid (HG1.out.below hb2)
  have HB2 := Lib.hid (HB1.out.trans (hb2.mono HB1.out.size))
  have HX2 := Lib.hid (HX1.out.below hb2 HX1.out.lt)
  have HSZ2 := Lib.hid hb2.size
  have HSZ1 : Hid (∀ j, GrOwn g rb bs j → j < w1.heap.size) := HG1.out.own_lt
  clear hg2 hb2
  have hpn := ptr_eqn g
  have hpn2 := ptr_eqn g2
  go_wp2_with (fail)
  refine (gsame_any HG2.out HH2.out).mono ?_
  rintro e w3 ⟨rfl, hb3⟩
  rw [show decide (fillS l = fillS l) = true by simp]
  have HG3 := Lib.hid (HG2.out.below hb3)
  have HH3 := Lib.hid (HH2.out.below hb3)
  have HX3 := Lib.hid (HX2.out.below hb3 HX2.out.lt)
  have HB3 := Lib.hid (HB2.out.trans (hb3.mono HB2.out.size))
  have HSZ3 := Lib.hid hb3.size
  clear hb3
  go_wp2_with (fail)
  refine (awake_any w3 (HT.out.below HB3.out hlo)).mono ?_
  rintro e w4 ⟨rfl, hb4⟩
  have HG4 := Lib.hid (HG3.out.below hb4)
  have HH4 := Lib.hid (HH3.out.below hb4)
  have HX4 := Lib.hid (HX3.out.below hb4 HX3.out.lt)
  have HB4 := Lib.hid (HB3.out.trans (hb4.mono HB3.out.size))
  have HSZ4 := Lib.hid hb4.size
  clear hb4
  go_wp2_with (first
    | ((with_reducible refine at_dst 36 ?_); refine wpList_load_mid rfl _ _ rfl w.heap.size 0 rfl o.cells _ HX4.out.whole Tryd.underlying36 rfl op_size ?_)
    | (go_at_call 10; refine (HFW.out w4).mono ?_; rintro e w5 ⟨rfl, hb5⟩; have HG5 := Lib.hid (HG4.out.below hb5); have HH5 := Lib.hid (HH4.out.below hb5); have HX5 := Lib.hid (HX4.out.below hb5 HX4.out.lt); have HB5 := Lib.hid (HB4.out.trans (hb5.mono HB4.out.size)); have HSZ5 := Lib.hid hb5.size; clear hb5)
    | ((with_reducible refine at_store 3 ?_); refine wpList_store_blk rfl _ _ _ rfl rfl w.heap.size 0 _ o.cells p.cells rfl rfl HX5.out (by simp [OpV.len]) op_size p.one ?_; intro w6 hn6 hg6; have hn6' : Blk w6 w.heap.size 36 p.cells := hn6; have HG6 := Lib.hid (HG5.out.keep (chg_of_grown hg6) (fun j hj e => by have := HG5.out.lo j hj; have e' : j = w.heap.size := e; simp at this; omega)); have HH6 := Lib.hid (HH5.out.keep (chg_of_grown hg6) (fun j hj e => by have := HH5.out.lo j hj; have e' : j = w.heap.size := e; have := HB1.out.size; have := HX1.out.lt; omega)); have HB6 := Lib.hid (HB5.out.grown hg6 HB5.out.size (fun j hj => by injection hj with hj; omega)); have HX6 := Lib.hid hn6'; have HSZ6 := Lib.hid hg6.size; have q1 : w6.cell? ⟨w.heap.size, 1, none⟩ = some (.int .i64 p.row) := hn6'.cell 1; have q2 : w6.cell? ⟨w.heap.size, 2, none⟩ = some (.int .i64 p.col) := hn6'.cell 2; have q3 : w6.cell? ⟨w.heap.size, 3, none⟩ = some (.string ⟨p.s.toArray⟩) := hn6'.cell 3; have q4 : w6.cell? ⟨w.heap.size, 4, none⟩ = some (.int .i64 p.cols) := hn6'.cell 4; clear hn6 hn6' hg6)
    | ((with_reducible refine at_dst 48 ?_); refine wpList_load_mid rfl _ _ rfl w.heap.size 5 rfl p.y.cells _ (HX6.out.range 5 p.y.cells (fun j v hv => by
              have hj : j < 5 := (List.getElem?_eq_some_iff.1 hv).1
              match j, hj with
              | 0, _ => exact hv
              | 1, _ => exact hv
              | 2, _ => exact hv
              | 3, _ => exact hv
              | 4, _ => exact hv)) Tryd.underlying34 rfl sty_size ?_))
  refine (put_any HG6.out (HT.out.below HB6.out hlo) (by simp) p.row p.col p.s p.cols p.y (by omega)).mono ?_
  rintro e w7 ⟨rfl, hg7, hc7⟩
  have hl1 : (putM 12 (fillS l) p.row p.col p.s p.cols p.y).1.length = 4 := by rw [putM_length, fillS_length]
  have hfar := put_far (W := 12) HG6.out.wf p.row p.col p.s p.cols p.y
  have hrg : (putM 12 (fillS l) p.row p.col p.s p.cols p.y).2 = 0 → 0 ≤ p.col ∧ p.col < 12 ∧ (p.cols = 1 ∨ p.cols = 2) := by
    unfold putM
    split
    · intro h; simp at h
    · next h1 =>
      split
      · intro h; simp at h
      · next h2 =>
        intro _
        have a : inB p.row p.col 12 (fillS l).length = true := by simpa using fun e => h2 (.inl e)
        have a' : 0 ≤ p.row ∧ p.row < (fillS l).length ∧ 0 ≤ p.col ∧ p.col < 12 := by simpa [inB] using a
        refine ⟨a'.2.2.1, a'.2.2.2, ?_⟩
        by_cases b : p.cols = 1
        · exact .inl b
        · by_cases c : p.cols = 2
          · exact .inr c
          · exact absurd (.inr (.inr ⟨b, c⟩)) h1
  have hl2 := fillS_length l
  have HH7 := Lib.hid (HH6.out.keep hc7 (fun j hj e => by have h1 := HH6.out.lo j hj; have h2 := HSZ1.out j e; omega))
  have HX7 := Lib.hid (HX6.out.chg hc7 (fun e => by have := HG6.out.lo _ e; simp at this; omega))
  have HB7 := Lib.hid (HB6.out.trans (hc7.below HB6.out.size (fun j hj => by have := HG6.out.lo j hj; simp at this; omega)))
  have HG7 := Lib.hid hg7
  clear hg7 hc7 HG6 HH6 HB6 HX6 q1 q2 q3 q4 HG5 HH5 HX5 HB5 HSZ5 HSZ6 HG4 HH4 HX4 HB4 HSZ4 HG3 HH3 HX3 HB3 HSZ3 HG2 HH2 HX2 HB2 HSZ2 HG1 HB1 HX1 HSZ1 HX0
  generalize putM 12 (fillS l) p.row p.col p.s p.cols p.y = P at hl1 hfar hrg HG7 ⊢
  generalize fillS l = G at hfar hl2 HG7 HH7
  obtain ⟨G', er⟩ := P
  simp only at hl1 hfar hrg HG7 ⊢
  have HL1 := Lib.hid hl1
  have HL2 := Lib.hid hl2
  have HFAR := Lib.hid hfar
  have HRG := Lib.hid hrg
  clear hl1 hl2 hfar hrg hs70
  go_wp2_with (fail)
  go_loopw [8, 9] (fun v8 v9 wr => ∃ (r : Nat) (al : Bool), v9 = .int .i64 r ∧ r ≤ 4 ∧ v8 = .bool al ∧ (al = true ↔ EqU G' G r 0) ∧ Below w7.heap.size w7 wr) (fun _ v9 _ => 4 - (intOf v9).toNat)
  case atStart => exact ⟨0, true, rfl, by omega, rfl, ⟨fun _ => EqU.zero _ _, fun _ => rfl⟩, Below.refl _ _⟩
  case round =>
    obtain ⟨r, al, rfl, hr, rfl, hal, hbr⟩ := hrel
    have HAL := Lib.hid hal
    have HBR := Lib.hid hbr
    clear hal hbr
    by_cases hr4 : r < 4
    · have hri : (r : Int) < 4 := by omega
      go_wp2_with (fail)
      go_loopw [8, 10] (fun v8 v10 wx => ∃ (c : Nat) (al : Bool), v10 = .int .i64 c ∧ c ≤ 12 ∧ v8 = .bool al ∧ (al = true ↔ EqU G' G r c) ∧ Below w7.heap.size w7 wx) (fun _ v10 _ => 12 - (intOf v10).toNat)
      case atStart => exact ⟨0, al, rfl, by omega, rfl, HAL.out, HBR.out⟩
      case round =>
        clear HAL HBR
        rename_i wx
        obtain ⟨c, al, rfl, hc, rfl, hal, hbx⟩ := hrel
        have HAL := Lib.hid hal
        have HBX := Lib.hid hbx
        clear hal hbx
        by_cases hc12 : c < 12
        · have hci : (c : Int) < 12 := by omega
          go_wp2_with (fail)
          have HGx := Lib.hid (HG7.out.below HBX.out)
          have HHx := Lib.hid (HH7.out.below HBX.out)
          have HXx := Lib.hid (HX7.out.below HBX.out HX7.out.lt)
          refine (cell_any HGx.out r c).mono ?_
          rintro e wa ⟨rfl, hba⟩
          have hfar := HFAR.out r c
          obtain ⟨⟨ca, ia⟩, hca⟩ : ∃ x, cellB G' r c = x := ⟨_, rfl⟩
          obtain ⟨⟨cb, ib⟩, hcb⟩ : ∃ x, cellB G r c = x := ⟨_, rfl⟩
          have hstep := EqU.step al HAL.out
          rw [hca, hcb] at hstep
          rw [hca, hcb] at hfar
          rw [hca]
          obtain ⟨d, hd⟩ : ∃ d, decide (ca = cb) = d := ⟨_, rfl⟩
          simp only at hstep
          rw [hd] at hstep
          have HST := Lib.hid hstep
          have hfar' : (er ≠ 0 ∨ (r : Int) ≠ p.row ∨ (c : Int) < p.col - 1 ∨ p.col + p.cols < (c : Int)) → d = true := fun h => by
            have := hfar h
            injection this with h1 h2
            rw [← hd, h1]
            simp
          have HFR := Lib.hid hfar'
          have HCB := Lib.hid hcb
          have hq := fun w => run_eq_cl ca cb w
          rw [hd] at hq
          have HQ := Lib.hid hq
          have HGa := Lib.hid (HGx.out.below hba)
          have HHa := Lib.hid (HHx.out.below hba)
          have HXa := Lib.hid (HXx.out.below hba HXx.out.lt)
          have HBa := Lib.hid (HBX.out.trans (hba.mono HBX.out.size))
          have HNa := Lib.hid (Blk.new wa 51 czero.cells)
          clear hfar hca hcb hstep hd hfar' hq hba HAL HBX HGx HHx HXx
          go_wp2_with ((with_reducible refine at_store 11 ?_); refine wpList_store_blk rfl _ _ _ rfl rfl wa.heap.size 0 _ czero.cells ca.cells rfl rfl HNa.out (by simp [Cl.len]) cl_size ca.one ?_; intro wb hnb hgb; have hnb' : Blk wb wa.heap.size 51 ca.cells := hnb; have hbb : Below wa.heap.size wa wb := ((Below.refl _ _).alloc (Nat.le_refl _) _).grown hgb (by simp) (fun j hj => by injection hj with hj; omega); have HNb := Lib.hid hnb'; have HHb := Lib.hid (HHa.out.below hbb); have HXb := Lib.hid (HXa.out.below hbb HXa.out.lt); have HBb := Lib.hid (HBa.out.trans (hbb.mono HBa.out.size)); clear hnb hnb' hgb hbb)
          refine (cell_any HHb.out r c).mono ?_
          rintro e wc ⟨rfl, hbc⟩
          rw [HCB.out]
          have HNc := Lib.hid (HNb.out.below hbc HNb.out.lt)
          have HXc := Lib.hid (HXb.out.below hbc HXb.out.lt)
          have HBc := Lib.hid (HBb.out.trans (hbc.mono HBb.out.size))
          have HMc := Lib.hid (Blk.new wc 51 czero.cells)
          clear hbc HGa HHa HXa HBa HNa HNb HHb HXb HBb
          go_upto_region 15 with ((with_reducible refine at_store 13 ?_); refine wpList_store_blk rfl _ _ _ rfl rfl wc.heap.size 0 _ czero.cells cb.cells rfl rfl HMc.out (by simp [Cl.len]) cl_size cb.one ?_; intro wd hnd hgd; have hnd' : Blk wd wc.heap.size 51 cb.cells := hnd; have hbd : Below wc.heap.size wc wd := ((Below.refl _ _).alloc (Nat.le_refl _) _).grown hgd (by simp) (fun j hj => by injection hj with hj; omega); obtain ⟨y0, y1, y2, y3, y4, y5, y6⟩ := blk7 hnd'; obtain ⟨x0, x1, x2, x3, x4, x5, x6⟩ := blk7 (HNc.out.below hbd HNc.out.lt); have HXd := Lib.hid (HXc.out.below hbd HXc.out.lt); have HBd := Lib.hid (HBc.out.trans (hbd.mono HBc.out.size)); clear hnd hnd' hgd hbd)
          have q1 : wd.cell? ⟨w.heap.size, 1, none⟩ = some (.int .i64 p.row) := HXd.out.cell 1
          have q2 : wd.cell? ⟨w.heap.size, 2, none⟩ = some (.int .i64 p.col) := HXd.out.cell 2
          have q4 : wd.cell? ⟨w.heap.size, 4, none⟩ = some (.int .i64 p.cols) := HXd.out.cell 4
          have hq := HQ.out
          have hgd := cl_guard
          have fin : ∀ v : Bool, v = (al && d) → (∃ (c_1 : Nat) (al_1 : Bool), Value.int IntKind.i64 ((c : Int) + 1) = Value.int IntKind.i64 (c_1 : Int) ∧ c_1 ≤ 12 ∧ Value.bool v = Value.bool al_1 ∧ (al_1 = true ↔ EqU G' G r c_1) ∧ Below w7.heap.size w7 wd) := fun v hv =>
            ⟨c + 1, al && d, by go_num, by omega, by rw [hv], HST.out, HBd.out⟩
          have FIN := Lib.hid fin
          clear fin
          by_cases e0 : er = 0
          · obtain ⟨k0, k1, k2⟩ := HRG.out e0
            have her : (er != 0) = false := by simp [e0]
            by_cases e1 : (r : Int) = p.row
            · have hrow : ((r : Int) != p.row) = false := by simp [e1]
              by_cases e2 : (c : Int) < p.col - 1
              · have hd : d = true := HFR.out (.inr (.inr (.inl e2)))
                subst hd
                clear e0 e1
                cases al
                all_goals
                  go_wp2_with (fail)
                  go_roundw
                  case rel => exact FIN.out _ rfl
                  case measure => simp [intOf]; omega
              · by_cases e3 : p.col + p.cols < (c : Int)
                · have hd : d = true := HFR.out (.inr (.inr (.inr e3)))
                  subst hd
                  clear e0 e1
                  have k3 : p.cols ≤ 2 := by omega
                  have k4 : 1 ≤ p.cols := by omega
                  clear k2
                  cases al
                  all_goals
                    go_wp2_with (fail)
                    go_roundw
                    case rel => exact FIN.out _ rfl
                    case measure => simp [intOf]; omega
                · have k3 : p.cols ≤ 2 := by omega
                  have k4 : 1 ≤ p.cols := by omega
                  clear e0 e1 k2
                  cases al <;> cases d
                  all_goals
                    go_wp2_with (fail)
                    go_roundw
                    case rel => exact FIN.out _ rfl
                    case measure => simp [intOf]; omega
            · have hd : d = true := HFR.out (.inr (.inl e1))
              have hrow : ((r : Int) != p.row) = true := by simp [e1]
              subst hd
              clear e0 e1
              cases al
              all_goals
                go_wp2_with (fail)
                go_roundw
                case rel => exact FIN.out _ rfl
                case measure => simp [intOf]; omega
          · have hd : d = true := HFR.out (.inl e0)
            have her : (er != 0) = true := by simp [e0]
            subst hd
            clear e0
            cases al
            all_goals
              go_wp2_with (fail)
              go_roundw
              case rel => exact FIN.out _ rfl
              case measure => simp [intOf]; omega
        · have hci : ¬ (c : Int) < 12 := by omega
          obtain rfl : c = 12 := by omega
          go_wp2_with (fail)
          go_roundw
          case rel => exact ⟨r + 1, al, by go_num, by omega, rfl, EqU.row al HAL.out, HBX.out⟩
          case measure => simp [intOf]; omega
    · have hri : ¬ (r : Int) < 4 := by omega
      have HAR := HBR
      obtain rfl : r = 4 := by omega
      have HD : Hid (decide (G' = G) = al) := by
        show decide (G' = G) = al
        have h1 := HAL.out
        rw [EqU.all HL1.out HL2.out HG7.out.wd HH7.out.wd] at h1
        cases al with
        | true => rw [decide_eq_true_iff]; exact h1.1 rfl
        | false => rw [decide_eq_false_iff_not]; intro e; have := h1.2 e; cases this
      have HD2 : Hid (decide (G = G') = al) := by
        show decide (G = G') = al
        rw [← HD.out]
        by_cases e : G' = G
        · rw [e]
        · rw [decide_eq_false e, decide_eq_false (fun h => e h.symm)]
      go_wp2_with (fail)
      refine (gsame_any (HG7.out.below HAR.out) (HH7.out.below HAR.out)).mono ?_
      rintro e wy ⟨rfl, hby⟩
      rw [HD.out]
      have HBY := Lib.hid (HAR.out.trans (hby.mono HAR.out.size))
      clear hby
      cases al
      all_goals
        go_wp2_with (fail)
        refine (gsame_any (HH7.out.below HBY.out) (HG7.out.below HBY.out)).mono ?_
        rintro e wz ⟨rfl, hbz⟩
        rw [HD2.out]
        go_wp2
        go_ret
        exact ⟨rfl, HB7.out.trans ((HBY.out.trans (hbz.mono HBY.out.size)).mono HB7.out.size)⟩
end Go.Proofs.YtkkaoajdcgmabaaDoor
