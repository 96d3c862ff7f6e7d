/-
  Walk: the reference's Style.
-/
import Derived.Test.YtclkclamdnkdgaaDoorEsStyle
import Derived.Test.YtclkclamdnkdgaaDoorEsRef
import Derived.Test.YtclkclamdnkdgaaDoorEsEql
import Derived.Test.YtclkclamdnkdgaaDoorEsObey
import Derived.Deep.RegionHeld3
import Derived.Deep.DeepCutAuto
import Derived.BigRegion
namespace Go.Proofs.YtclkclamdnkdgaaDoor
open Go.RowKit
set_option linter.unusedVariables false
set_option linter.unusedSimpArgs false

def badB (a b : Sty) : Bool := decide (a = b) || !(okB a && okB b)
theorem badB_yes {a b : Sty} (h : badB a b = true) : styleB a b = [] := by
  unfold styleB
  rw [if_pos]
  unfold badB at h
  by_cases hab : a = b
  · exact .inl hab
  · by_cases ha : okS a
    · by_cases hb : okS b
      · rw [(okB_iff a).2 ha, (okB_iff b).2 hb] at h; simp [hab] at h
      · exact .inr (.inr hb)
    · exact .inr (.inl ha)
theorem badB_no {a b : Sty} (h : badB a b = false) : styleB a b = seqB (numsS a b) 109 ∧ okS b := by
  unfold badB at h
  simp at h
  obtain ⟨h1, h2, h3⟩ := h
  have ha := (okB_iff a).1 h2
  have hb := (okB_iff b).1 h3
  exact ⟨by unfold styleB; rw [if_neg (fun h => h.elim h1 fun h => h.elim (fun k => k ha) (fun k => k hb))], hb⟩

theorem sty5 {w : World} {g : Nat} {y : Sty} (h : Blk w g 33 y.cells) : w.cell? ⟨g, 0, none⟩ = some (.bool y.b) ∧ w.cell? ⟨g, 1, none⟩ = some (.bool y.u) ∧ w.cell? ⟨g, 2, none⟩ = some (.bool y.i) ∧ w.cell? ⟨g, 3, none⟩ = some (.int .i64 y.f) ∧ w.cell? ⟨g, 4, none⟩ = some (.int .i64 y.g) :=
  ⟨h.cell 0, h.cell 1, h.cell 2, h.cell 3, h.cell 4⟩
/-- two boxed styles from block B on -/
def Two (B : Nat) (w0 w : World) (a b : Sty) : Prop := Blk w B 33 a.cells ∧ Blk w (B + 1) 33 b.cells ∧ Below B w0 w ∧ B + 2 ≤ w.heap.size
theorem Two.below {B : Nat} {w0 w w' : World} {a b : Sty} (h : Two B w0 w a b) (hb : Below w.heap.size w w') : Two B w0 w' a b := by
  obtain ⟨h1, h2, h3, h4⟩ := h
  exact ⟨h1.below hb h1.lt, h2.below hb h2.lt, h3.trans (hb.mono (by omega)), by have := hb.size; omega⟩

set_option maxRecDepth 100000 in
set_option maxHeartbeats 16000000 in
theorem rstyle_any (a b : Sty) (w : World) :
    Calls Tryd.prog 28 #[a.val, b.val] w fun e w' => e = .returned (.string ⟨(styleB a b).toArray⟩) ∧ Below w.heap.size w w' := by
  have CA := rcheck_sty a
  have CB := rcheck_sty b
  have HB0 := Lib.hid (((Below.refl w.heap.size w).alloc (Nat.le_refl _) (.cells a.cells.toArray 33)).alloc (by simp) (.cells b.cells.toArray 33))
  have HXa := Lib.hid ((Blk.new w 33 a.cells).alloc (.cells b.cells.toArray 33))
  have HYa := Lib.hid (Blk.new (w.alloc (.cells a.cells.toArray 33)) 33 b.cells)
  obtain ⟨W0, hW0⟩ : ∃ W, W = (w.alloc (.cells #[.bool a.b, .bool a.u, .bool a.i, .int .i64 a.f, .int .i64 a.g] 33)).alloc (.cells #[.bool b.b, .bool b.u, .bool b.i, .int .i64 b.f, .int .i64 b.g] 33) := ⟨_, rfl⟩
  have hz0 : W0.heap.size = w.heap.size + 2 := by rw [hW0]; simp
  have hTw : Two w.heap.size w W0 a b := ⟨by rw [hW0]; exact HXa.out, by have := HYa.out; rw [hW0]; simpa [Sty.cells] using this, by rw [hW0]; exact HB0.out, by omega⟩
  have HTw := Lib.hid hTw
  have HW0 := Lib.hid hW0
  obtain ⟨d0, hd0⟩ : ∃ d, d = badB a b := ⟨_, rfl⟩
  have HD0 := Lib.hid hd0
  obtain ⟨R, hR⟩ : ∃ R, R = styleB a b := ⟨_, rfl⟩
  rw [← hR]
  have HR := Lib.hid hR
  have HCA := Lib.hid CA
  have HCB := Lib.hid CB
  clear hW0 hd0 hR CA CB HB0 HXa HYa hTw hz0
  show Calls Tryd.prog 28 #[.agg #[.bool a.b, .bool a.u, .bool a.i, .int .i64 a.f, .int .i64 a.g], .agg #[.bool b.b, .bool b.u, .bool b.i, .int .i64 b.f, .int .i64 b.g]] w _
  go_enter Tryd.func28, Tryd.ntmps28
  go_upto_region 1 with fail
  rw [← HW0.out]
  clear HW0
  go_cut [20] (fun s wx => s = .bool d0 ∧ Two w.heap.size w wx a b)
  case first =>
    obtain ⟨x0, x1, x2, x3, x4⟩ := sty5 HTw.out.1
    obtain ⟨y0, y1, y2, y3, y4⟩ := sty5 HTw.out.2.1
    by_cases hab : a = b
    · have HAB := Lib.hid (show decide (a = b) = true by simpa using hab)
      have HDD := Lib.hid (show d0 = true by rw [HD0.out]; unfold badB; simp [hab])
      clear hab
      go_wp2_with (first
        | ((with_reducible refine at_dst 10 ?_); refine wpList_eql_sty rfl (.tmp 8) (.tmp 9) _ rfl a b rfl rfl true HAB.out ?_)
        )
      go_meet
      exact ⟨by rw [HDD.out], HTw.out⟩
    · have HAB := Lib.hid (show decide (a = b) = false by simpa using hab)
      by_cases ha : okS a
      · have ea := errN_yes ha
        have oa := (okB_iff a).2 ha
        by_cases hb : okS b
        · have eb := errN_yes hb
          have ob := (okB_iff b).2 hb
          have HDD := Lib.hid (show d0 = false by rw [HD0.out]; unfold badB; simp [hab, oa, ob])
          rw [ea] at HCA
          rw [eb] at HCB
          clear hab ha ea oa hb eb ob
          go_wp2_with (first
            | ((with_reducible refine at_dst 10 ?_); refine wpList_eql_sty rfl (.tmp 8) (.tmp 9) _ rfl a b rfl rfl false HAB.out ?_)
            )
          refine (HCA.out _).mono ?_
          rintro e w1 ⟨rfl, hb1⟩
          have HT1 := Lib.hid (HTw.out.below hb1)
          clear hb1 x0 x1 x2 x3 x4 y0 y1 y2 y3 y4
          obtain ⟨y0, y1, y2, y3, y4⟩ := sty5 HT1.out.2.1
          go_wp2_with fail
          refine (HCB.out _).mono ?_
          rintro e w2 ⟨rfl, hb2⟩
          have HT2 := Lib.hid (HT1.out.below hb2)
          clear hb2
          go_wp2_with fail
          go_meet
          exact ⟨by rw [HDD.out], HT2.out⟩
        · have eb := errN_no hb
          have ob : okB b = false := by cases h : okB b with | false => rfl | true => exact absurd ((okB_iff b).1 h) hb
          have HDD := Lib.hid (show d0 = true by rw [HD0.out]; unfold badB; simp [hab, oa, ob])
          rw [ea] at HCA
          rw [eb] at HCB
          clear hab ha ea oa hb eb ob
          go_wp2_with (first
            | ((with_reducible refine at_dst 10 ?_); refine wpList_eql_sty rfl (.tmp 8) (.tmp 9) _ rfl a b rfl rfl false HAB.out ?_)
            )
          refine (HCA.out _).mono ?_
          rintro e w1 ⟨rfl, hb1⟩
          have HT1 := Lib.hid (HTw.out.below hb1)
          clear hb1 x0 x1 x2 x3 x4 y0 y1 y2 y3 y4
          obtain ⟨y0, y1, y2, y3, y4⟩ := sty5 HT1.out.2.1
          go_wp2_with fail
          refine (HCB.out _).mono ?_
          rintro e w2 ⟨rfl, hb2⟩
          have HT2 := Lib.hid (HT1.out.below hb2)
          clear hb2
          go_wp2_with fail
          go_meet
          exact ⟨by rw [HDD.out], HT2.out⟩
      · have ea := errN_no ha
        have oa : okB a = false := by cases h : okB a with | false => rfl | true => exact absurd ((okB_iff a).1 h) ha
        have HDD := Lib.hid (show d0 = true by rw [HD0.out]; unfold badB; simp [hab, oa])
        rw [ea] at HCA
        clear hab ha ea oa HCB
        go_wp2_with (first
          | ((with_reducible refine at_dst 10 ?_); refine wpList_eql_sty rfl (.tmp 8) (.tmp 9) _ rfl a b rfl rfl false HAB.out ?_)
          )
        refine (HCA.out _).mono ?_
        rintro e w1 ⟨rfl, hb1⟩
        have HT1 := Lib.hid (HTw.out.below hb1)
        clear hb1 x0 x1 x2 x3 x4 y0 y1 y2 y3 y4
        obtain ⟨y0, y1, y2, y3, y4⟩ := sty5 HT1.out.2.1
        go_wp2_with fail
        go_meet
        exact ⟨by rw [HDD.out], HT1.out⟩
  case rest =>
  obtain ⟨rfl, hTw⟩ := hcut
  have HTw := Lib.hid hTw
  clear hTw HCA HCB
  cases d0
  case true =>
    have HE := Lib.hid (show R = [] by rw [HR.out]; exact badB_yes HD0.out.symm)
    go_wp2_with fail
    go_ret
    exact ⟨ret_str (by rw [HE.out]), HTw.out.2.2.1⟩
  case false =>
  obtain ⟨hRE, hb8⟩ := badB_no HD0.out.symm
  have HRE := Lib.hid (HR.out.trans hRE)
  have hsm := numsS_small a b hb8
  obtain ⟨c, hc⟩ : ∃ c, c = baseS a b := ⟨_, rfl⟩
  obtain ⟨dl, hdl⟩ : ∃ d, d = losesS a b := ⟨_, rfl⟩
  obtain ⟨L0, hL0⟩ : ∃ L : List Int, L = if dl = true then [0] else [] := ⟨_, rfl⟩
  obtain ⟨L1, hL1⟩ : ∃ L : List Int, L = L0 ++ if (b.b && !c.b) = true then [1] else [] := ⟨_, rfl⟩
  obtain ⟨L2, hL2⟩ : ∃ L : List Int, L = L1 ++ if (b.u && !c.u) = true then [4] else [] := ⟨_, rfl⟩
  obtain ⟨L3, hL3⟩ : ∃ L : List Int, L = L2 ++ if (b.i && !c.i) = true then [7] else [] := ⟨_, rfl⟩
  obtain ⟨L4, hL4⟩ : ∃ L : List Int, L = L3 ++ if b.f ≠ c.f then [colN 30 b.f] else [] := ⟨_, rfl⟩
  obtain ⟨L5, hL5⟩ : ∃ L : List Int, L = L4 ++ if b.g ≠ c.g then [colN 40 b.g] else [] := ⟨_, rfl⟩
  have hn5 : numsS a b = L5 := by
    rw [hL5, hL4, hL3, hL2, hL1, hL0, hc, hdl]
    unfold numsS
    simp only [Bool.and_eq_true, Bool.not_eq_true']
  rw [hn5] at HRE hsm
  have HSM := Lib.hid hsm
  have len0 : L0.length ≤ 1 := by rw [hL0]; split <;> simp
  have len1 : L1.length ≤ 2 := by rw [hL1, List.length_append]; split <;> simp <;> omega
  have len2 : L2.length ≤ 3 := by rw [hL2, List.length_append]; split <;> simp <;> omega
  have len3 : L3.length ≤ 4 := by rw [hL3, List.length_append]; split <;> simp <;> omega
  have len4 : L4.length ≤ 5 := by rw [hL4, List.length_append]; split <;> simp <;> omega
  have len5 : L5.length ≤ 6 := by rw [hL5, List.length_append]; split <;> simp <;> omega
  have HL0 := Lib.hid hL0
  have HL1 := Lib.hid hL1
  have HL2 := Lib.hid hL2
  have HL3 := Lib.hid hL3
  have HL4 := Lib.hid hL4
  have HL5 := Lib.hid hL5
  obtain ⟨q1, q2, q3, q4⟩ := hb8
  have HF : Hid (∀ w, Calls Tryd.prog 46 #[.int .i64 29, .int .i64 b.f] w fun e w' => e = .returned (.int .i64 (colN 30 b.f)) ∧ w = w') := Lib.hid (colour_any 30 b.f (by omega) (by omega) q1 q2)
  have HG : Hid (∀ w, Calls Tryd.prog 46 #[.int .i64 39, .int .i64 b.g] w fun e w' => e = .returned (.int .i64 (colN 40 b.g)) ∧ w = w') := Lib.hid (colour_any 40 b.g (by omega) (by omega) q3 q4)
  have HDL : Hid (dl = ((a.b && !b.b) || (a.u && !b.u) || (a.i && !b.i))) := Lib.hid hdl
  have HCD : Hid (c = if dl = true then Sty.zero else a) := Lib.hid (by rw [hc, hdl]; rfl)
  clear hRE hsm hn5 hc hdl hL0 hL1 hL2 hL3 hL4 hL5 q1 q2 q3 q4 HR HD0
  generalize wc = wq0 at HTw ⊢
  obtain ⟨x0, x1, x2, x3, x4⟩ := sty5 HTw.out.1
  obtain ⟨y0, y1, y2, y3, y4⟩ := sty5 HTw.out.2.1
  go_upto_region 4 with fail
  go_cut [45] (fun s wx => s = .bool dl ∧ wq0 = wx)
  case first =>
    obtain ⟨p1, hp1⟩ : ∃ r, r = a.b := ⟨_, rfl⟩
    obtain ⟨p2, hp2⟩ : ∃ r, r = a.u := ⟨_, rfl⟩
    obtain ⟨p3, hp3⟩ : ∃ r, r = a.i := ⟨_, rfl⟩
    obtain ⟨p4, hp4⟩ : ∃ r, r = b.b := ⟨_, rfl⟩
    obtain ⟨p5, hp5⟩ : ∃ r, r = b.u := ⟨_, rfl⟩
    obtain ⟨p6, hp6⟩ : ∃ r, r = b.i := ⟨_, rfl⟩
    rw [← hp1] at x0 HDL
    rw [← hp2] at x1 HDL
    rw [← hp3] at x2 HDL
    rw [← hp4] at y0 HDL
    rw [← hp5] at y1 HDL
    rw [← hp6] at y2 HDL
    clear hp1 hp2 hp3 hp4 hp5 hp6
    go_wp2_with fail
    all_goals
      go_meet
      exact ⟨by rw [HDL.out]; simp_all, rfl⟩
  case rest =>
  obtain ⟨rfl, rfl⟩ := hcut
  clear HDL x0 x1 x2 x3 x4 y0 y1 y2 y3 y4
  have hz1 : w.heap.size + 2 ≤ wq0.heap.size := HTw.out.2.2.2
  go_upto_if 45 with fail
  go_cut [5] (fun s5 wx => ChS w.heap.size w wx c b L0 s5)
  case first =>
    cases dl
    · have HCA : Hid (c = a) := Lib.hid (by rw [HCD.out]; rfl)
      have HLA : Hid (L0 = []) := Lib.hid (by rw [HL0.out]; rfl)
      go_wp2_with fail
      go_meet
      rw [HCA.out, HLA.out]
      exact ⟨none, 0, 0, rfl, OR.none_ _ _ _, HTw.out.1, HTw.out.2.1, HTw.out.2.2.1, hz1⟩
    · have HCA : Hid (c = Sty.zero) := Lib.hid (by rw [HCD.out]; rfl)
      have HLA : Hid (L0 = [0]) := Lib.hid (by rw [HL0.out]; rfl)
      go_wp2_with (first
        | (at_builtin
           refine wpList_app Tryd.underlying54 i64_info rfl (by omega) _ rfl (.tmp 46) (.tmp 47) rfl (w.heap.size + 2) none 0 0 [] rfl (OR.none_ _ _ _) (some ⟨wq0.heap.size, 0, none⟩) 1 1 [.int .i64 0] (wq0.heap.size + 1) rfl (Sl.new wq0 #[.int .i64 0] 3) rfl (fun h => by cases h) (by intro u hu; simp at hu; subst hu; rfl) 1 rfl (by omega) (by simp; omega) ?_
           intro A2 c2 w2 hO2 hg2 _
           have hb2 : Below (w.heap.size + 2) wq0 w2 := ((Below.refl _ _).alloc hz1 _).grown hg2 (by simp; omega) (fun g hg => by cases hg)
           have HO2 := Lib.hid hO2
           have HX2 := Lib.hid (HTw.out.1.below hb2 (by omega))
           have HY2 := Lib.hid (HTw.out.2.1.below hb2 (by omega))
           have HB3 := Lib.hid (HTw.out.2.2.1.trans (hb2.mono (by omega)))
           have hz2 : w.heap.size + 2 ≤ w2.heap.size := by have := hb2.size; omega
           clear hO2 hg2 hb2)
        | ((with_reducible refine at_store 2 ?_)
           refine wpList_store_blk rfl _ _ _ rfl rfl w.heap.size 0 _ a.cells Sty.zero.cells rfl rfl HX2.out (by simp [Sty.len]) sty_size Sty.zero.one ?_
           intro w3 hn3 hg3
           have hn3' : Blk w3 w.heap.size 33 Sty.zero.cells := hn3
           have HX3 := Lib.hid hn3'
           have HG3 := Lib.hid hg3
           clear hn3 hn3' hg3))
      go_meet
      rw [HCA.out, HLA.out]
      have hsz : w2.heap.size ≤ w3.heap.size := HG3.out.size
      refine ⟨A2, 1, c2, rfl, ?_, HX3.out, ?_, HB3.out.trans ((Below.refl _ _).grown HG3.out (by omega) (fun g hg => by injection hg with hg; omega)), by omega⟩
      · have := HO2.out.kept HG3.out (.inr (fun h => by have := HO2.out.blk_lt _ h; omega))
        simpa [i64v] using this
      · exact (HG3.out.block (w.heap.size + 1) (by omega) (fun h => by injection h with h; omega)).trans HY2.out
  case rest =>
  clear HCD HL0 HTw hz1
  obtain ⟨A0, m0, k0, rfl, hO, hX, hY, hBB, hz0⟩ := hcut
  have HO0 := Lib.hid hO
  have HX0 := Lib.hid hX
  have HY0 := Lib.hid hY
  have HB0 := Lib.hid hBB
  have hm0 : m0 ≤ 6 := by have := hO.len; rw [i64v_length] at this; omega
  clear hO hX hY hBB
  generalize wc = wq1 at HO0 HX0 HY0 HB0 hz0 ⊢
  have x1 := HX0.out.cell 0
  have y1 := HY0.out.cell 0
  simp only [Sty.cells, List.getElem?_cons_zero, List.getElem?_cons_succ] at x1 y1
  obtain ⟨d1, hd1⟩ : ∃ d, d = (b.b && !c.b) := ⟨_, rfl⟩
  have HD1 := Lib.hid hd1
  clear hd1
  go_upto_region 7 with fail
  go_cut [56] (fun s wx => s = .bool d1 ∧ wq1 = wx)
  case first =>
    obtain ⟨p, hp⟩ : ∃ r, r = b.b := ⟨_, rfl⟩
    rw [← hp] at y1 HD1
    clear hp
    obtain ⟨q, hq⟩ : ∃ r, r = c.b := ⟨_, rfl⟩
    rw [← hq] at x1 HD1
    clear hq
    cases p <;> cases q
    all_goals
      go_wp2_with fail
      go_meet
      exact ⟨by rw [HD1.out]; rfl, rfl⟩
  case rest =>
  obtain ⟨rfl, rfl⟩ := hcut
  have HLd1 : Hid (L1 = L0 ++ if d1 = true then [1] else []) := Lib.hid (by rw [HL1.out, HD1.out])
  clear HD1 x1
  go_upto_if 56 with fail
  go_cut [5] (fun s5 wx => ChS w.heap.size w wx c b L1 s5)
  case first =>
    cases d1
    · have HLA : Hid (L1 = L0) := Lib.hid (by rw [HLd1.out]; simp)
      go_wp2_with fail
      go_meet
      rw [HLA.out]
      exact ⟨A0, m0, k0, rfl, HO0.out, HX0.out, HY0.out, HB0.out, hz0⟩
    · have HLA : Hid (L1 = L0 ++ [1]) := Lib.hid (by rw [HLd1.out]; rfl)
      go_wp2_with (first
        | (at_builtin
           refine wpList_app Tryd.underlying54 i64_info rfl (by omega) _ rfl (.tmp 57) (.tmp 58) rfl (w.heap.size + 2) A0 m0 k0 (i64v L0) rfl (HO0.out.alloc _) (some ⟨wq1.heap.size, 0, none⟩) 1 1 [.int .i64 (1)] (wq1.heap.size + 1) rfl (Sl.new wq1 #[.int .i64 (1)] 3) rfl (fun h => by cases h) (by intro u hu; simp at hu; subst hu; rfl) (m0 + 1) rfl (by omega) (by simp; omega) ?_
           intro A2 c2 w2 hO2 hg2 _
           have HM := Lib.hid (ChS.more (b := b) HO0.out HX0.out HY0.out HB0.out hz0 hO2 hg2)
           clear hO2 hg2)
        )
      go_meet
      rw [HLA.out]
      exact HM.out
  case rest =>
  clear HLd1 HO0 HX0 HY0 HB0 hz0 hm0
  obtain ⟨A1, m1, k1, rfl, hO, hX, hY, hBB, hz1⟩ := hcut
  have HO1 := Lib.hid hO
  have HX1 := Lib.hid hX
  have HY1 := Lib.hid hY
  have HB1 := Lib.hid hBB
  have hm1 : m1 ≤ 6 := by have := hO.len; rw [i64v_length] at this; omega
  clear hO hX hY hBB
  generalize wc = wq2 at HO1 HX1 HY1 HB1 hz1 ⊢
  have x2 := HX1.out.cell 1
  have y2 := HY1.out.cell 1
  simp only [Sty.cells, List.getElem?_cons_zero, List.getElem?_cons_succ] at x2 y2
  obtain ⟨d2, hd2⟩ : ∃ d, d = (b.u && !c.u) := ⟨_, rfl⟩
  have HD2 := Lib.hid hd2
  clear hd2
  go_upto_region 9 with fail
  go_cut [66] (fun s wx => s = .bool d2 ∧ wq2 = wx)
  case first =>
    obtain ⟨p, hp⟩ : ∃ r, r = b.u := ⟨_, rfl⟩
    rw [← hp] at y2 HD2
    clear hp
    obtain ⟨q, hq⟩ : ∃ r, r = c.u := ⟨_, rfl⟩
    rw [← hq] at x2 HD2
    clear hq
    cases p <;> cases q
    all_goals
      go_wp2_with fail
      go_meet
      exact ⟨by rw [HD2.out]; rfl, rfl⟩
  case rest =>
  obtain ⟨rfl, rfl⟩ := hcut
  have HLd2 : Hid (L2 = L1 ++ if d2 = true then [4] else []) := Lib.hid (by rw [HL2.out, HD2.out])
  clear HD2 x2
  go_upto_if 66 with fail
  go_cut [5] (fun s5 wx => ChS w.heap.size w wx c b L2 s5)
  case first =>
    cases d2
    · have HLA : Hid (L2 = L1) := Lib.hid (by rw [HLd2.out]; simp)
      go_wp2_with fail
      go_meet
      rw [HLA.out]
      exact ⟨A1, m1, k1, rfl, HO1.out, HX1.out, HY1.out, HB1.out, hz1⟩
    · have HLA : Hid (L2 = L1 ++ [4]) := Lib.hid (by rw [HLd2.out]; rfl)
      go_wp2_with (first
        | (at_builtin
           refine wpList_app Tryd.underlying54 i64_info rfl (by omega) _ rfl (.tmp 67) (.tmp 68) rfl (w.heap.size + 2) A1 m1 k1 (i64v L1) rfl (HO1.out.alloc _) (some ⟨wq2.heap.size, 0, none⟩) 1 1 [.int .i64 (4)] (wq2.heap.size + 1) rfl (Sl.new wq2 #[.int .i64 (4)] 3) rfl (fun h => by cases h) (by intro u hu; simp at hu; subst hu; rfl) (m1 + 1) rfl (by omega) (by simp; omega) ?_
           intro A2 c2 w2 hO2 hg2 _
           have HM := Lib.hid (ChS.more (b := b) HO1.out HX1.out HY1.out HB1.out hz1 hO2 hg2)
           clear hO2 hg2)
        )
      go_meet
      rw [HLA.out]
      exact HM.out
  case rest =>
  clear HLd2 HO1 HX1 HY1 HB1 hz1 hm1
  obtain ⟨A2, m2, k2, rfl, hO, hX, hY, hBB, hz2⟩ := hcut
  have HO2 := Lib.hid hO
  have HX2 := Lib.hid hX
  have HY2 := Lib.hid hY
  have HB2 := Lib.hid hBB
  have hm2 : m2 ≤ 6 := by have := hO.len; rw [i64v_length] at this; omega
  clear hO hX hY hBB
  generalize wc = wq3 at HO2 HX2 HY2 HB2 hz2 ⊢
  have x3 := HX2.out.cell 2
  have y3 := HY2.out.cell 2
  simp only [Sty.cells, List.getElem?_cons_zero, List.getElem?_cons_succ] at x3 y3
  obtain ⟨d3, hd3⟩ : ∃ d, d = (b.i && !c.i) := ⟨_, rfl⟩
  have HD3 := Lib.hid hd3
  clear hd3
  go_upto_region 11 with fail
  go_cut [76] (fun s wx => s = .bool d3 ∧ wq3 = wx)
  case first =>
    obtain ⟨p, hp⟩ : ∃ r, r = b.i := ⟨_, rfl⟩
    rw [← hp] at y3 HD3
    clear hp
    obtain ⟨q, hq⟩ : ∃ r, r = c.i := ⟨_, rfl⟩
    rw [← hq] at x3 HD3
    clear hq
    cases p <;> cases q
    all_goals
      go_wp2_with fail
      go_meet
      exact ⟨by rw [HD3.out]; rfl, rfl⟩
  case rest =>
  obtain ⟨rfl, rfl⟩ := hcut
  have HLd3 : Hid (L3 = L2 ++ if d3 = true then [7] else []) := Lib.hid (by rw [HL3.out, HD3.out])
  clear HD3 x3
  go_upto_if 76 with fail
  go_cut [5] (fun s5 wx => ChS w.heap.size w wx c b L3 s5)
  case first =>
    cases d3
    · have HLA : Hid (L3 = L2) := Lib.hid (by rw [HLd3.out]; simp)
      go_wp2_with fail
      go_meet
      rw [HLA.out]
      exact ⟨A2, m2, k2, rfl, HO2.out, HX2.out, HY2.out, HB2.out, hz2⟩
    · have HLA : Hid (L3 = L2 ++ [7]) := Lib.hid (by rw [HLd3.out]; rfl)
      go_wp2_with (first
        | (at_builtin
           refine wpList_app Tryd.underlying54 i64_info rfl (by omega) _ rfl (.tmp 77) (.tmp 78) rfl (w.heap.size + 2) A2 m2 k2 (i64v L2) rfl (HO2.out.alloc _) (some ⟨wq3.heap.size, 0, none⟩) 1 1 [.int .i64 (7)] (wq3.heap.size + 1) rfl (Sl.new wq3 #[.int .i64 (7)] 3) rfl (fun h => by cases h) (by intro u hu; simp at hu; subst hu; rfl) (m2 + 1) rfl (by omega) (by simp; omega) ?_
           intro A2 c2 w2 hO2 hg2 _
           have HM := Lib.hid (ChS.more (b := b) HO2.out HX2.out HY2.out HB2.out hz2 hO2 hg2)
           clear hO2 hg2)
        )
      go_meet
      rw [HLA.out]
      exact HM.out
  case rest =>
  clear HLd3 HO2 HX2 HY2 HB2 hz2 hm2
  obtain ⟨A3, m3, k3, rfl, hO, hX, hY, hBB, hz3⟩ := hcut
  have HO3 := Lib.hid hO
  have HX3 := Lib.hid hX
  have HY3 := Lib.hid hY
  have HB3 := Lib.hid hBB
  have hm3 : m3 ≤ 6 := by have := hO.len; rw [i64v_length] at this; omega
  clear hO hX hY hBB
  generalize wc = wq4 at HO3 HX3 HY3 HB3 hz3 ⊢
  have x4 := HX3.out.cell 3
  have y4 := HY3.out.cell 3
  simp only [Sty.cells, List.getElem?_cons_zero, List.getElem?_cons_succ] at x4 y4
  obtain ⟨d4, hd4⟩ : ∃ d, d = decide (b.f ≠ c.f) := ⟨_, rfl⟩
  have HD4 := Lib.hid hd4
  clear hd4
  go_upto_region 13 with fail
  go_cut [84] (fun s wx => s = .bool d4 ∧ wq4 = wx)
  case first =>
    obtain ⟨p, hp⟩ : ∃ r, r = b.f := ⟨_, rfl⟩
    rw [← hp] at y4 HD4
    clear hp
    obtain ⟨q, hq⟩ : ∃ r, r = c.f := ⟨_, rfl⟩
    rw [← hq] at x4 HD4
    clear hq
    by_cases hpq : p = q
    · subst hpq
      go_wp2_with fail
      go_meet
      exact ⟨by rw [HD4.out]; simp, rfl⟩
    · have hb1 : (p == q) = false := by simpa using hpq
      have HPQ := Lib.hid hpq
      go_wp2_with fail
      go_meet
      exact ⟨by rw [HD4.out]; simp [HPQ.out], rfl⟩
  case rest =>
  obtain ⟨rfl, rfl⟩ := hcut
  have HLd4 : Hid (L4 = L3 ++ if d4 = true then [colN 30 b.f] else []) := Lib.hid (by rw [HL4.out, HD4.out]; simp)
  clear HD4 x4
  go_upto_if 84 with fail
  go_cut [5] (fun s5 wx => ChS w.heap.size w wx c b L4 s5)
  case first =>
    cases d4
    · have HLA : Hid (L4 = L3) := Lib.hid (by rw [HLd4.out]; simp)
      go_wp2_with fail
      go_meet
      rw [HLA.out]
      exact ⟨A3, m3, k3, rfl, HO3.out, HX3.out, HY3.out, HB3.out, hz3⟩
    · have HLA : Hid (L4 = L3 ++ [colN 30 b.f]) := Lib.hid (by rw [HLd4.out]; rfl)
      go_wp2_with (first
        | (at_builtin
           refine wpList_app Tryd.underlying54 i64_info rfl (by omega) _ rfl (.tmp 85) (.tmp 89) rfl (w.heap.size + 2) A3 m3 k3 (i64v L3) rfl (HO3.out.alloc _) (some ⟨wq4.heap.size, 0, none⟩) 1 1 [.int .i64 (colN 30 b.f)] (wq4.heap.size + 1) rfl (Sl.new wq4 #[.int .i64 (colN 30 b.f)] 3) rfl (fun h => by cases h) (by intro u hu; simp at hu; subst hu; rfl) (m3 + 1) rfl (by omega) (by simp; omega) ?_
           intro A2 c2 w2 hO2 hg2 _
           have HM := Lib.hid (ChS.more (b := b) HO3.out HX3.out HY3.out HB3.out hz3 hO2 hg2)
           clear hO2 hg2)
        | (go_at_call 46; refine (HF.out _).mono ?_; rintro e w' ⟨rfl, rfl⟩)
        )
      go_meet
      rw [HLA.out]
      exact HM.out
  case rest =>
  clear HLd4 HO3 HX3 HY3 HB3 hz3 hm3
  obtain ⟨A4, m4, k4, rfl, hO, hX, hY, hBB, hz4⟩ := hcut
  have HO4 := Lib.hid hO
  have HX4 := Lib.hid hX
  have HY4 := Lib.hid hY
  have HB4 := Lib.hid hBB
  have hm4 : m4 ≤ 6 := by have := hO.len; rw [i64v_length] at this; omega
  clear hO hX hY hBB
  generalize wc = wq5 at HO4 HX4 HY4 HB4 hz4 ⊢
  have x5 := HX4.out.cell 4
  have y5 := HY4.out.cell 4
  simp only [Sty.cells, List.getElem?_cons_zero, List.getElem?_cons_succ] at x5 y5
  obtain ⟨d5, hd5⟩ : ∃ d, d = decide (b.g ≠ c.g) := ⟨_, rfl⟩
  have HD5 := Lib.hid hd5
  clear hd5
  go_upto_region 15 with fail
  go_cut [95] (fun s wx => s = .bool d5 ∧ wq5 = wx)
  case first =>
    obtain ⟨p, hp⟩ : ∃ r, r = b.g := ⟨_, rfl⟩
    rw [← hp] at y5 HD5
    clear hp
    obtain ⟨q, hq⟩ : ∃ r, r = c.g := ⟨_, rfl⟩
    rw [← hq] at x5 HD5
    clear hq
    by_cases hpq : p = q
    · subst hpq
      go_wp2_with fail
      go_meet
      exact ⟨by rw [HD5.out]; simp, rfl⟩
    · have hb1 : (p == q) = false := by simpa using hpq
      have HPQ := Lib.hid hpq
      go_wp2_with fail
      go_meet
      exact ⟨by rw [HD5.out]; simp [HPQ.out], rfl⟩
  case rest =>
  obtain ⟨rfl, rfl⟩ := hcut
  have HLd5 : Hid (L5 = L4 ++ if d5 = true then [colN 40 b.g] else []) := Lib.hid (by rw [HL5.out, HD5.out]; simp)
  clear HD5 x5
  go_upto_if 95 with fail
  go_cut [5] (fun s5 wx => ChS w.heap.size w wx c b L5 s5)
  case first =>
    cases d5
    · have HLA : Hid (L5 = L4) := Lib.hid (by rw [HLd5.out]; simp)
      go_wp2_with fail
      go_meet
      rw [HLA.out]
      exact ⟨A4, m4, k4, rfl, HO4.out, HX4.out, HY4.out, HB4.out, hz4⟩
    · have HLA : Hid (L5 = L4 ++ [colN 40 b.g]) := Lib.hid (by rw [HLd5.out]; rfl)
      go_wp2_with (first
        | (at_builtin
           refine wpList_app Tryd.underlying54 i64_info rfl (by omega) _ rfl (.tmp 96) (.tmp 100) rfl (w.heap.size + 2) A4 m4 k4 (i64v L4) rfl (HO4.out.alloc _) (some ⟨wq5.heap.size, 0, none⟩) 1 1 [.int .i64 (colN 40 b.g)] (wq5.heap.size + 1) rfl (Sl.new wq5 #[.int .i64 (colN 40 b.g)] 3) rfl (fun h => by cases h) (by intro u hu; simp at hu; subst hu; rfl) (m4 + 1) rfl (by omega) (by simp; omega) ?_
           intro A2 c2 w2 hO2 hg2 _
           have HM := Lib.hid (ChS.more (b := b) HO4.out HX4.out HY4.out HB4.out hz4 hO2 hg2)
           clear hO2 hg2)
        | (go_at_call 46; refine (HG.out _).mono ?_; rintro e w' ⟨rfl, rfl⟩)
        )
      go_meet
      rw [HLA.out]
      exact HM.out
  case rest =>
  clear HLd5 HO4 HX4 HY4 HB4 hz4 hm4
  obtain ⟨A5, m5, k5, rfl, hO, hX, hY, hBB, hz5⟩ := hcut
  generalize wc = wq at hO hX hY hBB hz5 ⊢
  have HM5 := Lib.hid hO.len
  have HS5 := Lib.hid hO.sl
  have HB5 := Lib.hid hBB
  have hm5 : m5 = L5.length := by have := hO.len; rw [i64v_length] at this; exact this
  clear hO hX hY hBB HF HG
  subst hm5
  have hjl := joinG_len true L5 (fun n hn => by have := HSM.out n hn; unfold smallN at this; omega)
  go_wp2_with (go_at_call 32; refine (e_any _).mono ?_; rintro e w6 ⟨rfl, hb6⟩; have HB6 := Lib.hid (HB5.out.trans (hb6.mono HB5.out.size)); have HS6 := Lib.hid (HS5.out.below hb6); have HZ6 := Lib.hid hb6.size; clear hb6)
  go_loopw [6, 7] (fun v6 v7 wr => ∃ (k : Nat) (p : List UInt8), k ≤ L5.length ∧ v7 = .int .i64 k ∧ v6 = .string ⟨p.toArray⟩ ∧ p = 27 :: 91 :: joinG true (L5.take k) ∧ Below w6.heap.size w6 wr) (fun _ v7 _ => L5.length - (intOf v7).toNat)
  case atStart => exact ⟨0, [27, 91], by omega, rfl, rfl, rfl, Below.refl _ _⟩
  case round =>
    obtain ⟨k, p, hk, rfl, rfl, hp, hb⟩ := hrel
    have hjk := joinG_len true (L5.take k) (fun n hn => by have := HSM.out n (List.mem_of_mem_take hn); unfold smallN at this; omega)
    have htl : (L5.take k).length ≤ k := List.length_take_le _ _
    have hpl : p.length ≤ 200 := by rw [hp]; simp; omega
    have HP := Lib.hid hp
    have HBR := Lib.hid hb
    clear hp hb hjk htl
    by_cases hlt : k < L5.length
    · have hki : (k : Int) < (L5.length : Int) := by omega
      have HJ := Lib.hid (joinG_take L5 k hlt)
      obtain ⟨bk, off, rfl, hbB, hcell⟩ := HS6.out.open_ (by rw [i64v_length]; omega)
      have hx := hcell k _ (i64v_get hlt)
      have hsm := HSM.out _ (List.getElem_mem hlt)
      obtain ⟨u, hu⟩ : ∃ u : Nat, L5[k] = (u : Int) := ⟨L5[k].toNat, by unfold smallN at hsm; omega⟩
      rw [hu] at hx HJ hsm
      have hxr : wr.cell? ⟨bk, off + k, none⟩ = some (.int .i64 u) := (HBR.out.cell (p := ⟨bk, off + k, none⟩) (by show bk < w6.heap.size; have := HZ6.out; omega)).trans hx
      have hul : u ≤ 10000 := by unfold smallN at hsm; omega
      have HN := Lib.hid (num_any u hul)
      have hil := itoa_pos_len (u : Int) (by omega) (by omega)
      generalize Lib.itoa (u : Int) = d at HJ HN hil
      clear hcell hx hsm hu
      by_cases hk0 : k = 0
      · have hk1 : ¬ 0 < (k : Int) := by omega
        have hk2 : ¬ 0 < k := by omega
        have HPN : Hid (p ++ d = 27 :: 91 :: joinG true (L5.take (k + 1))) := Lib.hid (by rw [HP.out, HJ.out, if_pos hk0]; simp)
        have HK0 := Lib.hid hk0
        clear hk0
        go_wp2_with (go_at_call 33; refine (HN.out _).mono ?_; rintro e w7 ⟨rfl, hb7⟩; have HB7 := Lib.hid (HBR.out.trans (hb7.mono HBR.out.size)); clear hb7)
        go_roundw
        case rel => exact ⟨k + 1, p ++ d, by omega, by go_num, congrArg Value.string (es_add p d), HPN.out, HB7.out⟩
        case measure => simp [intOf]; omega
      · have hk1 : 0 < (k : Int) := by omega
        have HPN : Hid (p ++ [59] ++ d = 27 :: 91 :: joinG true (L5.take (k + 1))) := Lib.hid (by rw [HP.out, HJ.out, if_neg hk0]; simp)
        go_wp2_with (go_at_call 33; refine (HN.out _).mono ?_; rintro e w7 ⟨rfl, hb7⟩; have HB7 := Lib.hid (HBR.out.trans (hb7.mono HBR.out.size)); clear hb7)
        go_roundw
        case rel => exact ⟨k + 1, p ++ [59] ++ d, by omega, by go_num, by rw [← es_add, ← es_add], HPN.out, HB7.out⟩
        case measure => simp [intOf]; omega
    · have hki : ¬ (k : Int) < (L5.length : Int) := by omega
      have HE : Hid (R = p ++ [109]) := Lib.hid (by rw [HRE.out, HP.out, List.take_of_length_le (by omega)]; simp [seqB])
      go_wp2_with fail
      go_ret
      exact ⟨ret_str (by rw [HE.out, ← es_add]), HB6.out.trans (HBR.out.mono HB6.out.size)⟩
end Go.Proofs.YtclkclamdnkdgaaDoor
