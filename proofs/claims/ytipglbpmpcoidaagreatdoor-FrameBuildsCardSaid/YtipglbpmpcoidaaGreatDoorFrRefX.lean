/-
  Walks: the document's builder: Text.
-/
import Derived.Test.YtipglbpmpcoidaaGreatDoorFrRefT
import Derived.Test.YtipglbpmpcoidaaGreatDoorGfS
import Derived.Test.YtipglbpmpcoidaaGreatDoorGfA
import Derived.Deep.RegionLaw
import Derived.Outline
namespace Go.Proofs.YtipglbpmpcoidaaGreatDoor
open Go.RowKit Go.Sort
set_option linter.unusedVariables false
set_option linter.unusedSimpArgs false

theorem enters_rput4 : ∀ args w, (callFunc 33 args).run Tryz.prog w = .ok (.enter 33 args) w := enters_of Tryz.func33 (by kernel_rfl) rfl
theorem flatB_le5 (s : List UInt8) : (flatB s).length ≤ 64 * s.length := flatB_le s
set_option maxRecDepth 100000 in
set_option maxHeartbeats 16000000 in
theorem rbtext_any {w : World} {D : Nat → Prop} {A : Option Addr} {c W : Nat} {L : List (List Cl)} (h : RfAt w D A c L) (hq : Rws W L) (r0 c0 : Int) (sn : Bool) (row col : Int) (s : List UInt8) (hs : s.length ≤ 2000) (hf : (flatB s).length ≤ 10000) (y : Sty) :
    Calls Tryz.prog 8 #[.agg (rbC W L.length A c r0 c0 sn).toArray, .int .i64 row, .int .i64 col, .string ⟨s.toArray⟩, .agg y.cells.toArray] w fun e w' => ∃ V, e = .returned (.tuple #[V, .int .i64 (ftxt W L row col s y).2.1, .int .i64 (ftxt W L row col s y).2.2]) ∧
      RbV w' (fun k => D k ∨ w.heap.size ≤ k) V W (ftxt W L row col s y).1 r0 c0 sn ∧ Below w.heap.size w w' := by
  have hW5 := hq.w5
  obtain ⟨W0, hW0⟩ : ∃ W0, W0 = ((w.alloc (.cells (rbC W L.length A c r0 c0 sn).toArray 31)).alloc (.cells y.cells.toArray 36)).alloc (.cells #[.int .i64 0, .int .i64 0, .slice none 0 0, .int .i64 0, .int .i64 0, .bool false] 31) := ⟨_, rfl⟩
  have hB0 : Below w.heap.size w W0 := by rw [hW0]; exact (((Below.refl _ w).alloc (Nat.le_refl _) _).alloc (by simp) _).alloc (by simp; omega) _
  have h1 : Blk W0 w.heap.size 31 (rbC W L.length A c r0 c0 sn) := by rw [hW0]; exact ((Blk.new w _ _).alloc _).alloc _
  have h2 : Blk W0 (w.heap.size + 1) 36 y.cells := by rw [hW0]; exact (Blk.new1 w _ _ _).alloc _
  have h3 : Blk W0 (w.heap.size + 1 + 1) 31 rbZ := by rw [hW0]; exact Blk.new2 w _ _ _ rbZ
  have hsz : W0.heap.size = w.heap.size + 3 := by rw [hW0]; simp
  have hbx : RBx W0 w.heap.size (w.heap.size + 1 + 1) (fun k => D k ∨ w.heap.size ≤ k) W A c L r0 c0 sn := ⟨h1, (h.mono (D' := fun k => (D k ∨ w.heap.size ≤ k) ∧ k ≠ w.heap.size ∧ k ≠ w.heap.size + 1 + 1) (fun b hb hd => ⟨.inl hd, by omega, by omega⟩)).below hB0, by omega⟩
  have k0 : W0.cell? ⟨w.heap.size, 0, none⟩ = some (.int .i64 W) := h1.cell 0
  have k1 : W0.cell? ⟨w.heap.size, 1, none⟩ = some (.int .i64 L.length) := h1.cell 1
  have hlt : w.heap.size + 1 + 1 < W0.heap.size := by omega
  have HB0 := Lib.hid hB0
  have HX0 := Lib.hid hbx
  have HS0 := Lib.hid h2
  have HZ0 := Lib.hid h3
  have HW0 := Lib.hid hW0
  have HQ := Lib.hid hq
  obtain ⟨v1, hv1⟩ : ∃ v, v = (fwithB row L.length && fwithB col (W + 1)) := ⟨_, rfl⟩
  obtain ⟨v3, hv3⟩ : ∃ v, v = styB y := ⟨_, rfl⟩
  have HST := Lib.hid (rcolours_any y)
  rw [← hv3] at HST
  unfold ftxt
  rw [← hv1, ← hv3]
  have hvt : v1 = true → 0 ≤ row ∧ row < L.length ∧ 0 ≤ col ∧ col ≤ W := by
    intro e
    rw [e] at hv1
    unfold fwithB at hv1
    simp at hv1
    omega
  have hvf : v1 = false → row < 0 ∨ L.length ≤ row ∨ col < 0 ∨ W < col := by
    intro e
    rw [e] at hv1
    unfold fwithB at hv1
    have := hv1.symm
    simp only [Bool.and_eq_false_iff, decide_eq_false_iff_not] at this
    omega
  have H3 := Lib.hid hv3
  clear h hq hB0 h1 h2 h3 hW0 hbx hv1 hv3 hsz
  cases v1
  · have hc := hvf rfl
    clear hvt hvf
    by_cases a1 : row < 0
    all_goals by_cases a2 : (L.length : Int) ≤ row
    all_goals by_cases a3 : col < 0
    all_goals by_cases a4 : (W : Int) < col
    all_goals first
      | (exfalso; omega)
      | (clear hc
         go_enter Tryz.func8, Tryz.ntmps8
         go_upto_region 1 with (fail)
         rw [← HW0.out]
         go_wp2_with (first
           | ((with_reducible refine at_dst 36 ?_); refine wpList_load_mid rfl _ _ rfl w.heap.size 0 rfl (rbC W L.length A c r0 c0 sn) _ (range_all HX0.out.box) Tryz.underlying31 rfl rb_size ?_)
           | ((with_reducible refine at_store 10 ?_); refine wpList_store_blk rfl _ _ _ rfl rfl (w.heap.size + 1 + 1) 0 _ rbZ (rbC W L.length A c r0 c0 sn) rfl rfl HZ0.out (by simp [rbC, rbZ]) rb_size (rbC_one _ _ _ _ _ _ _) ?_; intro wz hn5 hg5))
         have hn6 : Blk wz (w.heap.size + 1 + 1) 31 (rbC W L.length A c r0 c0 sn) := hn5
         obtain ⟨o1, o2⟩ := HX0.out.out HB0.out (by omega) hg5
         exact bodyPost_ret (results_ctt rfl rfl rfl rfl (range_all hn6) Tryz.underlying31 rfl rb_size) rfl ⟨_, rfl, o1, o2⟩)
  obtain ⟨a1, a2, a3, a4⟩ := hvt rfl
  clear hvt hvf
  have b1 : ¬ row < 0 := by omega
  have b2 : ¬ (L.length : Int) ≤ row := by omega
  have b3 : ¬ col < 0 := by omega
  have b4 : ¬ (W : Int) < col := by omega
  cases v3
  · go_enter Tryz.func8, Tryz.ntmps8
    go_upto_region 1 with (fail)
    rw [← HW0.out]
    go_wp2_with (first
      | ((with_reducible refine at_dst 37 ?_); refine wpList_load_mid rfl _ _ rfl (w.heap.size + 1) 0 rfl y.cells _ (range_all HS0.out) Tryz.underlying36 rfl sty_size ?_)
      | (go_at_call 29; refine (HST.out _).mono ?_; rintro e w2 ⟨rfl, hb2⟩; have HX2 := Lib.hid (HX0.out.below hb2); have HB2 := Lib.hid (HB0.out.trans (hb2.mono HB0.out.size)); have HZ2 := Lib.hid (HZ0.out.below hb2 HZ0.out.lt); clear hb2)
      | ((with_reducible refine at_dst 40 ?_); refine wpList_load_mid rfl _ _ rfl w.heap.size 0 rfl (rbC W L.length A c r0 c0 sn) _ (range_all HX2.out.box) Tryz.underlying31 rfl rb_size ?_)
      | ((with_reducible refine at_store 10 ?_); refine wpList_store_blk rfl _ _ _ rfl rfl (w.heap.size + 1 + 1) 0 _ rbZ (rbC W L.length A c r0 c0 sn) rfl rfl HZ2.out (by simp [rbC, rbZ]) rb_size (rbC_one _ _ _ _ _ _ _) ?_; intro wz hn5 hg5))
    have hn6 : Blk wz (w.heap.size + 1 + 1) 31 (rbC W L.length A c r0 c0 sn) := hn5
    obtain ⟨o1, o2⟩ := HX2.out.out HB2.out (by omega) hg5
    exact bodyPost_ret (results_ctt rfl rfl rfl rfl (range_all hn6) Tryz.underlying31 rfl rb_size) rfl ⟨_, rfl, o1, o2⟩
  · have hfl := Lib.hid (rflat_any ⟨s.toArray⟩ (by show s.toArray.size ≤ _; simp; omega))
    rw [show (⟨s.toArray⟩ : ByteArray).data.toList = s from rfl] at hfl
    have hct := Lib.hid (rcut_any ⟨(flatB s).toArray⟩ (by show (flatB s).toArray.size ≤ _; simpa using hf))
    rw [show (⟨(flatB s).toArray⟩ : ByteArray).data.toList = flatB s from rfl] at hct
    have hcn : (cls (rs (flatB s))).length = (fcs s).length := by simp [fcs]
    rw [hcn, show (cls (rs (flatB s))).map eb = fcs s from rfl] at hct
    simp only [Bool.true_eq_false, if_false]
    obtain ⟨P, hP⟩ : ∃ P, P = ftextM W L row col y (fcs s) := ⟨_, rfl⟩
    rw [← hP]
    obtain ⟨RL, RC⟩ := P
    have hics := fcs_is s
    have hcs64 : ∀ x ∈ fcs s, x.length ≤ 64 := fun x hx => (isC_fw (hics x hx)).2.2
    have hlen : (fcs s).length ≤ 10000 := by rw [← hcn]; have h1 := run_count_le (rs (flatB s)); have h2 : (rs (flatB s)).length ≤ (flatB s).length := (by unfold rs; rw [List.length_map]; exact rnsOf_le _); omega
    generalize fcs s = cs at hct hP hics hcs64 hlen
    have HP := Lib.hid hP
    have HIC := Lib.hid hics
    have HC64 := Lib.hid hcs64
    clear hcn hP hics hcs64
    go_enter Tryz.func8, Tryz.ntmps8
    go_upto_region 1 with (fail)
    rw [← HW0.out]
    go_wp2_with (first
      | ((with_reducible refine at_dst 37 ?_); refine wpList_load_mid rfl _ _ rfl (w.heap.size + 1) 0 rfl y.cells _ (range_all HS0.out) Tryz.underlying36 rfl sty_size ?_)
      | (go_at_call 29; refine (HST.out _).mono ?_; rintro e w2 ⟨rfl, hb2⟩; have HX2 := Lib.hid (HX0.out.below hb2); have HB2 := Lib.hid (HB0.out.trans (hb2.mono HB0.out.size)); have HZ2 := Lib.hid (HZ0.out.below hb2 HZ0.out.lt); have HS2 := Lib.hid (HS0.out.below hb2 HS0.out.lt); clear hb2)
      | (go_at_call 31; refine (hfl.out _).mono ?_; rintro e w3 ⟨rfl, hb3⟩; have HX3 := Lib.hid (HX2.out.below hb3); have HB3 := Lib.hid (HB2.out.trans (hb3.mono HB2.out.size)); have HZ3 := Lib.hid (HZ2.out.below hb3 HZ2.out.lt); have HS3 := Lib.hid (HS2.out.below hb3 HS2.out.lt); clear hb3)
      | (go_at_call 30; refine (hct.out _).mono ?_; rintro e w4 ⟨A4, c4, rfl, hO4, hb4⟩; have HO4 := Lib.hid hO4; have HX4 := Lib.hid (HX3.out.below hb4); have HB4 := Lib.hid (HB3.out.trans (hb4.mono HB3.out.size)); have HZ4 := Lib.hid (HZ3.out.below hb4 HZ3.out.lt); have HS4 := Lib.hid (HS3.out.below hb4 HS3.out.lt); clear hb4 hO4))
    have ho4 := HO4.out
    have hbase3 : w.heap.size + 1 + 1 < w3.heap.size := HZ3.out.lt
    have hst : TxSt W L.length ((L, col), false) := ⟨rfl, a3, a4⟩
    have HSTT := Lib.hid hst
    clear ho4 hst
    go_loopw [2, 14] (fun v2 i wr => ∃ (k : Nat) (Lk : List (List Cl)) (ck : Int) (A' : Option Addr) (c' : Nat), i = .int .i64 k ∧ k ≤ cs.length ∧ v2 = .int .i64 ck ∧ (cs.take k).foldl (tst W row y) ((L, col), false) = ((Lk, ck), false) ∧ Rws W Lk ∧
      RBx wr w.heap.size (w.heap.size + 1 + 1) (fun k => D k ∨ w.heap.size ≤ k) W A' c' Lk r0 c0 sn ∧ Chg (one w.heap.size) w4 wr) (fun _ i _ => cs.length - (intOf i).toNat)
    case atStart => exact ⟨0, L, col, A, c, rfl, by omega, rfl, rfl, HQ.out, HX4.out, Chg.refl _ _⟩
    case round =>
      obtain ⟨k, Lk, ck, A', c', rfl, hk, rfl, hfold, hqk, hx, hch⟩ := hrel
      have hstk := TxSt.fold row y (cs.take k) HSTT.out (fun x hx => HIC.out x (List.mem_of_mem_take hx))
      rw [hfold] at hstk
      have hck0 : 0 ≤ ck := hstk.c0
      have hckW : ck ≤ W := hstk.c1
      have q0 : wr.cell? ⟨w.heap.size, 0, none⟩ = some (.int .i64 W) := hx.box.cell 0
      have hs5 : Blk wr (w.heap.size + 1) 36 y.cells := HS4.out.chg hch (fun e => by have e' : w.heap.size + 1 = w.heap.size := e; omega)
      have hz5 : Blk wr (w.heap.size + 1 + 1) 31 rbZ := HZ4.out.chg hch (fun e => by have e' : w.heap.size + 1 + 1 = w.heap.size := e; omega)
      have hb5 : Below w.heap.size w wr := HB4.out.trans (hch.below HB4.out.size (fun j e => by have e' : j = w.heap.size := e; omega))
      have XX := Lib.hid hx
      have SS := Lib.hid hs5
      have ZZ := Lib.hid hz5
      have BB := Lib.hid hb5
      have CC := Lib.hid hch
      have QK := Lib.hid hqk
      by_cases hlt : k < cs.length
      · have hki : (k : Int) < cs.length := by omega
        have hu : (sv cs)[k]? = some (.string ⟨cs[k].toArray⟩) := sv_get hlt
        obtain ⟨g, rfl, hg3, hcg, _⟩ := HO4.out.cell hu
        have hcr : wr.cell? ⟨g, k, none⟩ = some (.string ⟨cs[k].toArray⟩) := CC.out.cell hcg (fun e => by have e' : g = w.heap.size := e; omega)
        have hsn : cs.take (k + 1) = cs.take k ++ [cs[k]] := List.take_succ_eq_append_getElem hlt
        have hdr : cs = cs.take (k + 1) ++ cs.drop (k + 1) := (List.take_append_drop _ _).symm
        have hf1 : (cs.take (k + 1)).foldl (tst W row y) ((L, col), false) = tst W row y ((Lk, ck), false) cs[k] := by rw [hsn, List.foldl_append, hfold]; rfl
        have h64 := HC64.out _ (List.getElem_mem hlt)
        have hic := HIC.out _ (List.getElem_mem hlt)
        have hfw := (isC_fw hic).1
        have hsplit : cs.foldl (tst W row y) ((L, col), false) = (cs.drop (k + 1)).foldl (tst W row y) (tst W row y ((Lk, ck), false) cs[k]) := by
          conv => lhs; rw [← List.take_append_drop (k + 1) cs]
          rw [List.foldl_append, hf1]
        generalize cs[k] = x at hcr hf1 h64 hfw hsplit
        have hall : (tst W row y ((Lk, ck), false) x).2 = true → (RL, RC) = (tst W row y ((Lk, ck), false) x).1 := fun e => by
          rw [HP.out]
          unfold ftextM
          rw [hsplit, tst_stop _ e]
        have hwd := rwidth_any ⟨x.toArray⟩ (by show x.toArray.size ≤ _; simp; omega) wr
        rw [show (⟨x.toArray⟩ : ByteArray).data.toList = x from rfl] at hwd
        obtain ⟨v, hv⟩ : ∃ v, v = fw (rs x) := ⟨_, rfl⟩
        rw [← hv] at hwd hfw
        have htt : tst W row y ((Lk, ck), false) x = if (W : Int) - ck < v then ((Lk, ck), true) else (((putM W Lk row ck x v y).1, ck + v), false) := by unfold tst; rw [hv]; simp
        rw [htt] at hf1 hall
        obtain ⟨hv1, hv2⟩ := hfw
        have HWD := Lib.hid hwd
        have HF1 := Lib.hid hf1
        have HALL := Lib.hid hall
        clear hfold hqk hx hch hs5 hz5 hb5 hu hcg hsn hdr hic hwd hv htt hf1 hall hstk hsplit
        by_cases hfit : (W : Int) - ck < v
        · have hres := HALL.out
          rw [if_pos hfit] at hres
          have hres2 := hres rfl
          have HRES := Lib.hid hres2
          clear hres hres2
          go_wp2_with (first
            | (go_at_call 32; refine HWD.out.mono ?_; rintro e w5 ⟨rfl, hb5⟩; have HX5 := Lib.hid (XX.out.below hb5); have HZ5 := Lib.hid (ZZ.out.below hb5 ZZ.out.lt); have HB5 := Lib.hid (BB.out.trans (hb5.mono BB.out.size)); have q0 : w5.cell? ⟨w.heap.size, 0, none⟩ = some (.int .i64 W) := HX5.out.box.cell 0; clear hb5)
            | ((with_reducible refine at_dst 62 ?_); refine wpList_load_mid rfl _ _ rfl w.heap.size 0 rfl (rbC W Lk.length A' c' r0 c0 sn) _ (range_all HX5.out.box) Tryz.underlying31 rfl rb_size ?_)
            | ((with_reducible refine at_store 10 ?_); refine wpList_store_blk rfl _ _ _ rfl rfl (w.heap.size + 1 + 1) 0 _ rbZ (rbC W Lk.length A' c' r0 c0 sn) rfl rfl HZ5.out (by simp [rbC, rbZ]) rb_size (rbC_one _ _ _ _ _ _ _) ?_; intro wz hn5 hg5))
          have hn6 : Blk wz (w.heap.size + 1 + 1) 31 (rbC W Lk.length A' c' r0 c0 sn) := hn5
          obtain ⟨o1, o2⟩ := HX5.out.out HB5.out (by omega) hg5
          have hres := HRES.out
          simp only [Prod.mk.injEq] at hres
          obtain ⟨rfl, rfl⟩ := hres
          exact bodyPost_ret (results_ctt rfl rfl rfl rfl (range_all hn6) Tryz.underlying31 rfl rb_size) rfl ⟨_, rfl, o1, o2⟩
        · have hst1 := HF1.out
          rw [if_neg hfit] at hst1
          have HST1 := Lib.hid hst1
          clear hst1
          go_wp2_with (go_at_call 32; refine HWD.out.mono ?_; rintro e w5 ⟨rfl, hb5⟩; have HX5 := Lib.hid (XX.out.below hb5); have HB5 := Lib.hid hb5; have HS5 := Lib.hid (SS.out.below hb5 SS.out.lt); have q0 : w5.cell? ⟨w.heap.size, 0, none⟩ = some (.int .i64 W) := HX5.out.box.cell 0; have hcr5 : w5.cell? ⟨g, k, none⟩ = some (.string ⟨x.toArray⟩) := (hb5.cell (p := ⟨g, k, none⟩) (World.block_lt_of_cell? _ _ hcr)).trans hcr; clear hb5)
          have q1 : w5.cell? ⟨w.heap.size, 1, none⟩ = some (.int .i64 Lk.length) := HX5.out.box.cell 1
          have q2 : w5.cell? ⟨w.heap.size, 2, none⟩ = some (.slice A' Lk.length c') := HX5.out.box.cell 2
          have y0 : w5.cell? ⟨w.heap.size + 1, 0, none⟩ = some (.bool y.b) := HS5.out.cell 0
          have y1 : w5.cell? ⟨w.heap.size + 1, 1, none⟩ = some (.bool y.u) := HS5.out.cell 1
          have y2 : w5.cell? ⟨w.heap.size + 1, 2, none⟩ = some (.bool y.i) := HS5.out.cell 2
          have y3 : w5.cell? ⟨w.heap.size + 1, 3, none⟩ = some (.int .i64 y.f) := HS5.out.cell 3
          have y4 : w5.cell? ⟨w.heap.size + 1, 4, none⟩ = some (.int .i64 y.g) := HS5.out.cell 4
          have hput : ∀ W', Below w5.heap.size w5 W' → Calls Tryz.prog 33 #[.agg #[.int .i64 W, .int .i64 Lk.length, .slice A' Lk.length c'], .int .i64 row, .int .i64 ck, .string ⟨x.toArray⟩, .int .i64 v, .agg #[.bool y.b, .bool y.u, .bool y.i, .int .i64 y.f, .int .i64 y.g]] W' fun e w'' =>
              ∃ A6 c6, e = .returned (.tuple #[.agg #[.int .i64 W, .int .i64 (putM W Lk row ck x v y).1.length, .slice A6 (putM W Lk row ck x v y).1.length c6], .int .i64 (putM W Lk row ck x v y).2]) ∧ RfAt w'' (fun b => ((D b ∨ w.heap.size ≤ b) ∧ b ≠ w.heap.size ∧ b ≠ w.heap.size + 1 + 1) ∨ W'.heap.size ≤ b) A6 c6 (putM W Lk row ck x v y).1 ∧ Below W'.heap.size W' w'' := fun W' hb =>
            (rput_any (HX5.out.below hb).rf QK.out row ck x v y (by omega)).mono fun e w'' ⟨V, he, ⟨A6, c6, hV, hr⟩, hb6⟩ => ⟨A6, c6, by rw [he, hV]; rfl, hr, hb6⟩
          have HPUT := Lib.hid hput
          clear hput
          go_region_law (first
            | (refine step_call rfl 33 _ _ rfl enters_rput4 #[.agg #[.int .i64 W, .int .i64 Lk.length, .slice A' Lk.length c'], .int .i64 row, .int .i64 ck, .string ⟨x.toArray⟩, .int .i64 v, .agg #[.bool y.b, .bool y.u, .bool y.i, .int .i64 y.f, .int .i64 y.g]] (by simp [Act.eval, Act.put]) (HPUT.out _ (Below.refl _ _).drew) ?_; rintro e w6 ⟨A6, c6, rfl, hr6, hb6⟩; refine ⟨_, rfl, ?_⟩; have hb56 : Below w5.heap.size w5 w6 := (Below.refl w5.heap.size w5).drew.trans hb6; have h6 := HX5.out.below hb56; have p0 : w6.cell? ⟨w.heap.size, 0, none⟩ = some (.int .i64 W) := h6.box.cell 0; have p1 : w6.cell? ⟨w.heap.size, 1, none⟩ = some (.int .i64 Lk.length) := h6.box.cell 1; have p2 : w6.cell? ⟨w.heap.size, 2, none⟩ = some (.slice A' Lk.length c') := h6.box.cell 2; have f0 := h6.box.frozen 0; have f1 := h6.box.frozen 1; have f2 := h6.box.frozen 2; have HR6 := Lib.hid hr6; have HB6 := Lib.hid hb56; have HX6 := Lib.hid h6; clear hr6 hb6 hb56 h6))
          all_goals
            clear q0 q1 q2 y0 y1 y2 y3 y4 p0 p1 p2 f0 f1 f2 hcr5 hcr
            obtain ⟨L', hL'⟩ : ∃ L', L' = (putM W Lk row ck x v y).1 := ⟨_, rfl⟩
            have hqn : Rws W L' := by rw [hL']; exact QK.out.put row ck x v y
            have hr6 := HR6.out
            have hst1 := HST1.out
            rw [← hL'] at hr6 hst1 ⊢
            obtain ⟨Z, hZ⟩ : ∃ Z, Z = ((w6.setCell ⟨w.heap.size, 0, none⟩ (.int .i64 W)).setCell ⟨w.heap.size, 1, none⟩ (.int .i64 L'.length)).setCell ⟨w.heap.size, 2, none⟩ (.slice A6 L'.length c6) := ⟨_, rfl⟩
            have hcz : Chg (one w.heap.size) w6 Z := by rw [hZ]; exact (((Chg.refl (one w.heap.size) w6).setCell (p := ⟨w.heap.size, 0, none⟩) (.inl rfl) _).setCell (p := ⟨w.heap.size, 1, none⟩) (.inl rfl) _).setCell (p := ⟨w.heap.size, 2, none⟩) (.inl rfl) _
            have hnz : Blk Z w.heap.size 31 (rbC W L'.length A6 c6 r0 c0 sn) := by rw [hZ]; exact ((HX6.out.box.set_ 0 (.int .i64 W)).set_ 1 (.int .i64 L'.length)).set_ 2 (.slice A6 L'.length c6)
            have hxz : RBx Z w.heap.size (w.heap.size + 1 + 1) (fun k => D k ∨ w.heap.size ≤ k) W A6 c6 L' r0 c0 sn := HX5.out.stored HB6.out (hr6.mono (fun b _ hb => by
              rcases hb with hb | hb
              · exact .inl hb
              · exact .inr (by simpa using hb))) (fun k hk => .inr (by have := BB.out.size; have := HB5.out.size; omega)) hnz hcz
            have hchz : Chg (one w.heap.size) w4 Z := ((CC.out.trans (Chg.of_below (S := noB) HB5.out) (fun _ h => h.elim)).trans (Chg.of_below (S := noB) HB6.out) (fun _ h => h.elim)).trans hcz (fun j hj => .inl hj)
            rw [← hZ]
            have HQN := Lib.hid hqn
            have HXZ := Lib.hid hxz
            have HCZ := Lib.hid hchz
            have HST2 := Lib.hid hst1
            clear hL' hqn hr6 hst1 hZ hcz hnz hxz hchz
            go_wp2
            go_roundw
            case rel => exact ⟨k + 1, L', ck + v, A6, c6, by go_num, by omega, rfl, HST2.out, HQN.out, HXZ.out, HCZ.out⟩
            case measure => simp [intOf]; omega
      · obtain rfl : k = cs.length := by omega
        have hki : ¬ ((cs.length : Nat) : Int) < cs.length := by omega
        have hres : (RL, RC) = (Lk, ck) := by
          rw [HP.out]
          unfold ftextM
          rw [List.take_length] at hfold
          rw [hfold]
        clear hfold hqk hx hch hs5 hz5 hb5 hstk q0
        simp only [Prod.mk.injEq] at hres
        obtain ⟨rfl, rfl⟩ := hres
        go_wp2_with (first
          | ((with_reducible refine at_dst 82 ?_); refine wpList_load_mid rfl _ _ rfl w.heap.size 0 rfl (rbC W RL.length A' c' r0 c0 sn) _ (range_all XX.out.box) Tryz.underlying31 rfl rb_size ?_)
          | ((with_reducible refine at_store 10 ?_); refine wpList_store_blk rfl _ _ _ rfl rfl (w.heap.size + 1 + 1) 0 _ rbZ (rbC W RL.length A' c' r0 c0 sn) rfl rfl ZZ.out (by simp [rbC, rbZ]) rb_size (rbC_one _ _ _ _ _ _ _) ?_; intro wz hn5 hg5))
        have hn6 : Blk wz (w.heap.size + 1 + 1) 31 (rbC W RL.length A' c' r0 c0 sn) := hn5
        obtain ⟨o1, o2⟩ := XX.out.out BB.out (by omega) hg5
        exact bodyPost_ret (results_ctt rfl rfl rfl rfl (range_all hn6) Tryz.underlying31 rfl rb_size) rfl ⟨_, rfl, o1, o2⟩
end Go.Proofs.YtipglbpmpcoidaaGreatDoor
