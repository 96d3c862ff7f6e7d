/-
  The law GridNobody, walked.
-/
import Derived.Test.YtijbimofigkdkaaDoorGrNot
import Derived.Test.YtijbimofigkdkaaDoorGrPutsM
import Derived.Test.YtijbimofigkdkaaDoorGrAwake
import Derived.Test.YtijbimofigkdkaaDoorGrRow
import Derived.Deep.RegionHeld3
import Derived.Deep.QuietTactic
import Derived.BigQuiet
import Derived.Test.YtijbimofigkdkaaDoorQuietB
namespace Go.Proofs.YtijbimofigkdkaaDoor
open Go.RowKit Go.Sort
set_option linter.unusedVariables false
set_option linter.unusedSimpArgs false

theorem gput_not {w : World} {p : Option Addr} (h : GrNo w p) (row col : Int) (s : ByteArray) (m : Int) (b u i : Bool) (f g : Int) :
    Calls Tryd.prog 13 #[.pointer p, .int .i64 row, .int .i64 col, .string s, .int .i64 m, .agg #[.bool b, .bool u, .bool i, .int .i64 f, .int .i64 g]] w fun e w' => e = .returned (.int .i64 4) ∧ Below w.heap.size w w' :=
  put_not h row col s m ⟨b, u, i, f, g⟩

set_option maxRecDepth 100000 in
set_option maxHeartbeats 16000000 in
theorem gridNobody_walk (o : OpV) (ho : o.ok) (w : World) (hT : BlankT w) :
    Calls Tryd.prog 6 #[.agg o.cells.toArray] w fun e w' => e = .returned (.bool true) ∧ Below w.heap.size w w' := by
  have HB0 := Lib.hid ((Below.refl w.heap.size w).alloc (Nat.le_refl _) (.cells o.cells.toArray 36))
  have HX0 := Lib.hid (Blk.new w 36 o.cells)
  have HT := Lib.hid hT
  have hlo := hT.2
  have HFW := Lib.hid (few_any o ho)
  have hok2 := ho.few
  generalize fewM o = p at HFW hok2
  have HP := Lib.hid hok2
  clear hT ho hok2
  go_enter Tryd.func6, Tryd.ntmps6
  go_wp2_with (first
    | ((with_reducible refine at_dst 16 ?_); refine wpList_load_mid rfl _ _ rfl w.heap.size 0 rfl o.cells _ HX0.out.whole Tryd.underlying36 rfl op_size ?_)
    | (go_at_call 10; refine (HFW.out _).mono ?_; rintro e w1 ⟨rfl, hb1⟩; have HB1 := Lib.hid (HB0.out.trans (hb1.mono HB0.out.size)); have HX1 := Lib.hid (HX0.out.below hb1 HX0.out.lt); clear hb1)
    | ((with_reducible refine at_store 1 ?_); refine wpList_store_blk rfl _ _ _ rfl rfl w.heap.size 0 _ o.cells p.cells rfl rfl HX1.out (by simp [OpV.len]) op_size p.one ?_; intro w2 hn2 hg2; have hn2' : Blk w2 w.heap.size 36 p.cells := hn2; have HB2 := Lib.hid (HB1.out.grown hg2 HB1.out.size (fun j hj => by injection hj with hj; omega)); have HX2 := Lib.hid hn2'; clear hn2 hn2' hg2))
  refine (new_ok 2 2 (by omega) (by omega) (by omega) (by omega) w2 (HT.out.below HB2.out hlo)).mono ?_
  rintro e w3 ⟨g, rb, bs, rfl, hg3, hb3⟩
  have HG3 := Lib.hid hg3
  have HB3 := Lib.hid (HB2.out.trans (hb3.mono HB2.out.size))
  have HX3 := Lib.hid (HX2.out.below hb3 HX2.out.lt)
  clear hg3 hb3
  go_wp2_with (fail)
  obtain ⟨W0, hW0⟩ : ∃ W0, W0 = (w3.alloc (.cells #[.pointer none, .slice none 0 0] 62)).alloc (.cells #[.pointer none, .pointer (some ⟨w3.heap.size, 0, none⟩)] 23) := ⟨_, rfl⟩
  have hbv : Below w3.heap.size w3 W0 := by rw [hW0]; exact ((Below.refl _ w3).alloc (Nat.le_refl _) _).alloc (by simp) _
  have hsz : W0.heap.size = w3.heap.size + 2 := by rw [hW0]; simp
  have hz : Blk W0 w3.heap.size 62 [.pointer none, .slice none 0 0] := by rw [hW0]; exact (Blk.new w3 _ _).alloc _
  have hl : Blk W0 (w3.heap.size + 1) 23 [.pointer none, .pointer (some ⟨w3.heap.size, 0, none⟩)] := by
    have := Blk.new (w3.alloc (.cells #[.pointer none, .slice none 0 0] 62)) 23 [.pointer none, .pointer (some ⟨w3.heap.size, 0, none⟩)]
    rw [hW0]; simpa using this
  rw [← hW0]
  have HG0 := Lib.hid (HG3.out.below hbv)
  have HX := Lib.hid (HX3.out.below hbv HX3.out.lt)
  have HB := Lib.hid (HB3.out.trans (hbv.mono HB3.out.size))
  have HXL := Lib.hid (HX.out.lt)
  have hno : ∀ k : Nat, k < 2 → ∃ q, W0.cell? ⟨w3.heap.size + 1, k, none⟩ = some (.pointer q) ∧ GrNo W0 q := fun k hk => by
    match k, hk with
    | 0, _ => exact ⟨none, hl.cell 0, .inl rfl⟩
    | 1, _ => exact ⟨_, hl.cell 1, .inr ⟨w3.heap.size, rfl, hz.cell 0⟩⟩
  have HNO := Lib.hid hno
  have HSZ := Lib.hid hsz
  clear hW0 hbv hsz hz hl hno HG3 HX3 HX2 HB2 HX1 HB1 HB0 HX0
  generalize w3.heap.size = z at HNO HSZ ⊢
  have hzl : z + 1 < W0.heap.size := by have := HSZ.out; omega
  have hxl : w.heap.size < W0.heap.size := HXL.out
  go_loopw [7] (fun v7 wr => ∃ k : Nat, v7 = .int .i64 k ∧ k ≤ 2 ∧ Below W0.heap.size W0 wr) (fun v7 _ => 2 - (intOf v7).toNat)
  case atStart => exact ⟨0, rfl, by omega, Below.refl _ _⟩
  case round =>
    obtain ⟨k, rfl, hk, hbr⟩ := hrel
    have HBR := Lib.hid hbr
    clear hbr
    by_cases hk2 : k < 2
    · have hki : (k : Int) < 2 := by omega
      obtain ⟨q, hc, hq⟩ := HNO.out k hk2
      have hcr : wr.cell? ⟨z + 1, k, none⟩ = some (.pointer q) := (HBR.out.cell (p := ⟨z + 1, k, none⟩) hzl).trans hc
      have HQ := Lib.hid (hq.below HBR.out)
      have HC := Lib.hid hc
      clear hc hq
      go_wp2_with (first
        | (go_at_call 23; refine (size_not HQ.out).mono ?_; rintro e w' ⟨rfl, rfl⟩)
        | (go_at_call 20; refine (cell_not HQ.out 0 0).mono ?_; rintro e w4 ⟨rfl, hb4⟩; have HQ4 := Lib.hid (HQ.out.below hb4); have HB4 := Lib.hid (HBR.out.trans (hb4.mono HBR.out.size)); have HN4 := Lib.hid (Blk.new w4 51 czero.cells); clear hb4)
        | ((with_reducible refine at_store 10 ?_); refine wpList_store_blk rfl _ _ _ rfl rfl w4.heap.size 0 _ czero.cells czero.cells rfl rfl HN4.out (by simp [Cl.len]) cl_size czero.one ?_; intro w5 hn5 hg5; have hb5 : Below w4.heap.size w4 w5 := ((Below.refl _ _).alloc (Nat.le_refl _) _).grown hg5 (by simp) (fun j hj => by injection hj with hj; omega); have HQ5 := Lib.hid (HQ4.out.below hb5); have HB5 := Lib.hid (HB4.out.trans (hb5.mono HB4.out.size)); clear hn5 hg5 hb5))
      have hcx : ∀ w', Below W0.heap.size W0 w' → w'.cell? ⟨z + 1, k, none⟩ = some (.pointer q) := fun w' hb => (hb.cell (p := ⟨z + 1, k, none⟩) hzl).trans HC.out
      have hqx : ∀ w', Below W0.heap.size W0 w' → GrNo w' q := fun w' hb => by
        obtain ⟨q', h1, h2⟩ := HNO.out k hk2
        have e : q' = q := by have := h1.symm.trans HC.out; simpa using this
        exact e ▸ h2.below hb
      have hgx : ∀ w', Below W0.heap.size W0 w' → GrAt w' w2.heap.size g rb bs 2 (blankG 2 2) := fun w' hb => HG0.out.below hb
      have hox : ∀ w', Below W0.heap.size W0 w' → Blk w' w.heap.size 36 p.cells := fun w' hb => HX.out.below hb hxl
      have HCX := Lib.hid hcx
      have HQX := Lib.hid hqx
      have HGX := Lib.hid hgx
      have HOX := Lib.hid hox
      clear hcx hqx hgx hox hcr HC HQ HQ4 HB4 HN4
      have c0 := HCX.out _ HB5.out
      have c3 : w5.cell? ⟨w.heap.size, 3, none⟩ = some (.string ⟨p.s.toArray⟩) := (HOX.out _ HB5.out).cell 3
      have hj : ∀ n, Calls Tryd.prog 24 #[.pointer q, .int .i64 0, .int .i64 0, .string ⟨p.s.toArray⟩] (w5.drewN n) fun e w' => e = .returned (.tuple #[.bool false, .int .i64 4]) ∧ w' = w5.drewN n := fun n => (join_not (HQX.out _ (below_dN HB5.out n)) 0 0 _).mono fun e w' ⟨a, b⟩ => ⟨a, b.symm⟩
      have HJ := Lib.hid hj
      clear hj
      go_quiet ((go_at_call 24; with_reducible refine Calls.quiet_of_same (HJ.out _)))
      clear HJ c0 c3
      have hb6 : Below W0.heap.size W0 (w5.drewN nq) := below_dN HB5.out nq
      generalize w5.drewN nq = w6 at hb6 ⊢
      have HB6 := Lib.hid hb6
      have HB6' := Lib.hid hb6.drew
      clear hb6 HB5 HQ5
      have h6 := HOX.out _ HB6.out
      have k0 := cell_regrown (HCX.out _ HB6.out)
      have k1 := cell_regrown (show w6.cell? ⟨w.heap.size, 1, none⟩ = some (.int .i64 p.row) from h6.cell 1)
      have k2 := cell_regrown (show w6.cell? ⟨w.heap.size, 2, none⟩ = some (.int .i64 p.col) from h6.cell 2)
      have k3 := cell_regrown (show w6.cell? ⟨w.heap.size, 3, none⟩ = some (.string ⟨p.s.toArray⟩) from h6.cell 3)
      have k4 := cell_regrown (show w6.cell? ⟨w.heap.size, 4, none⟩ = some (.int .i64 p.cols) from h6.cell 4)
      have k5 := cell_regrown (show w6.cell? ⟨w.heap.size, 5, none⟩ = some (.bool p.y.b) from h6.cell 5)
      have k6 := cell_regrown (show w6.cell? ⟨w.heap.size, 6, none⟩ = some (.bool p.y.u) from h6.cell 6)
      have k7 := cell_regrown (show w6.cell? ⟨w.heap.size, 7, none⟩ = some (.bool p.y.i) from h6.cell 7)
      have k8 := cell_regrown (show w6.cell? ⟨w.heap.size, 8, none⟩ = some (.int .i64 p.y.f) from h6.cell 8)
      have k9 := cell_regrown (show w6.cell? ⟨w.heap.size, 9, none⟩ = some (.int .i64 p.y.g) from h6.cell 9)
      have k10 := cell_regrown (show w6.cell? ⟨w.heap.size, 10, none⟩ = some (.int .i64 p.z) from h6.cell 10)
      have k11 := cell_regrown (show w6.cell? ⟨w.heap.size, 11, none⟩ = some (.int .i64 p.n) from h6.cell 11)
      have hbr6 : ∀ d os, Below W0.heap.size W0 (grow (redrawn w6 d) os) := fun d os => HB6.out.trans ((below_regrown w6 d os).mono HB6.out.size)
      have Q1 := Lib.hid (fun d os => Calls.regrown_of ((resize_not (HQX.out _ (hbr6 d os)) p.n p.z p.row).mono fun e w' ⟨a, b⟩ => ⟨a, b ▸ Below.refl _ _⟩))
      have Q2 := Lib.hid (fun d os => Calls.regrown_of ((scroll_not (HQX.out _ (hbr6 d os)) p.n).mono fun e w' ⟨a, b⟩ => ⟨a, b ▸ Below.refl _ _⟩))
      have Q3 := Lib.hid (fun d os => Calls.regrown_of (row_no 0 ((has_not (HQX.out _ (hbr6 d os)) 0 0).mono fun e w' ⟨a, b⟩ => ⟨a, b ▸ Below.refl _ _⟩)))
      have Q4 := Lib.hid (fun d os => Calls.regrown_of (text_no 0 ((has_not (HQX.out _ (hbr6 d os)) 0 0).mono fun e w' ⟨a, b⟩ => ⟨a, b ▸ Below.refl _ _⟩)))
      have Q5 := Lib.hid (fun d os => Calls.regrown_of (gput_not (HQX.out _ (hbr6 d os)) p.row p.col ⟨p.s.toArray⟩ p.cols p.y.b p.y.u p.y.i p.y.f p.y.g))
      have Q6 := Lib.hid (fun d os => Calls.regrown_of ((erase_not (HQX.out _ (hbr6 d os)) p.row p.col p.z).mono fun e w' ⟨a, b⟩ => ⟨a, b ▸ Below.refl _ _⟩))
      have Q7 := Lib.hid (fun d os => Calls.regrown_of (same_not1 (q := q) (HQX.out _ (hbr6 d os))))
      have Q8 := Lib.hid (fun d os => Calls.regrown_of (same_not2 (HGX.out _ (hbr6 d os)) (HQX.out _ (hbr6 d os))))
      have Q9 := Lib.hid (fun d os => Calls.regrown_of (fork_not (HQX.out _ (hbr6 d os))))
      clear h6 hbr6 HQX HGX HOX HCX HG0 HX HNO HB6'
      go_wp2_with (fail)
      refine wp_region_quiet_below (by kernel_rfl) (by kernel_rfl) ?_
      repeat (first | go_big_quiet_step (exact Q1.out _ _) | quiet_step (exact Q1.out _ _))
      refine wpQuiet_nil ?_
      intro _ hw'
      obtain ⟨⟨dq, osq⟩, hw''⟩ := hw'
      subst hw''
      go_wp2_with (fail)
      simp only [List.append_eq, List.cons_append, List.nil_append]
      refine region_below (by kernel_rfl) (by kernel_rfl) ?_
      repeat (first
        | go_big_quiet_step (first | with_reducible exact Q2.out _ _ | with_reducible exact Q3.out _ _ | with_reducible exact Q4.out _ _ | with_reducible exact Q5.out _ _ | with_reducible exact Q6.out _ _ | with_reducible exact Q7.out _ _ | with_reducible exact Q8.out _ _ | with_reducible exact Q9.out _ _)
        | quiet_step (first | with_reducible exact Q2.out _ _ | with_reducible exact Q3.out _ _ | with_reducible exact Q4.out _ _ | with_reducible exact Q5.out _ _ | with_reducible exact Q6.out _ _ | with_reducible exact Q7.out _ _ | with_reducible exact Q8.out _ _ | with_reducible exact Q9.out _ _))
      refine wpQuiet_nil ?_
      intro _ hw'
      obtain ⟨⟨dr, osr⟩, hw''⟩ := hw'
      subst hw''
      have HBE := Lib.hid (HB6.out.trans ((below_regrown w6 dr osr).mono HB6.out.size))
      go_wp2
      go_roundw
      case rel => exact ⟨k + 1, by go_num, by omega, HBE.out⟩
      case measure => simp [intOf]; omega
    · have hki : ¬ (k : Int) < 2 := by omega
      go_wp2_with (go_at_call 9; refine (awake_any _ (HT.out.below (HB.out.trans (HBR.out.mono HB.out.size)) hlo)).mono ?_; rintro e w9 ⟨rfl, hb9⟩)
      go_ret
      exact ⟨rfl, (HB.out.trans (HBR.out.mono HB.out.size)).trans (hb9.mono (by have := HB.out.size; have := HBR.out.size; omega))⟩
end Go.Proofs.YtijbimofigkdkaaDoor
