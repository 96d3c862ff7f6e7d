/-
  The law EscStyles, walked.
-/
import Derived.Test.YtclkclamdnkdgaaDoorEsLaw1
import Derived.Test.YtclkclamdnkdgaaDoorEsRSty
import Derived.Test.YtclkclamdnkdgaaDoorEsTurned
import Derived.Deep.RegionHeld3
import Derived.Deep.QuietTactic
import Derived.BigQuiet
import Derived.Test.YtclkclamdnkdgaaDoorQuietB
namespace Go.Proofs.YtclkclamdnkdgaaDoor
open Go.RowKit Go.Sort
set_option linter.unusedVariables false
set_option linter.unusedSimpArgs false

theorem styleB_len (a b : Sty) (h : okS b) : (styleB a b).length ≤ 200 := by
  unfold styleB
  split
  · simp
  · have := joinG_len true (numsS a b) (numsS_i64 a b h)
    have := numsS_len a b
    unfold seqB
    simp; omega
theorem styleB_len' (a b : Sty) : (styleB a b).length ≤ 200 := by
  by_cases h : okS b
  · exact styleB_len a b h
  · rw [styleB_not a b (fun e => h e.2)]; simp

set_option maxRecDepth 100000 in
set_option maxHeartbeats 16000000 in
theorem escStyles_walk (a b : Sty) (w : World) (hT : Pow w) :
    Calls Tryd.prog 5 #[a.val, b.val] w fun e w' => e = .returned (.bool true) ∧ Below w.heap.size w w' := by
  have HT := Lib.hid hT
  have HB0 := Lib.hid (((Below.refl w.heap.size w).alloc (Nat.le_refl _) (.cells a.cells.toArray 33)).alloc (by simp) (.cells b.cells.toArray 33))
  have HXa := Lib.hid ((Blk.new w 33 a.cells).alloc (.cells b.cells.toArray 33))
  have HYa := Lib.hid (Blk.new (w.alloc (.cells a.cells.toArray 33)) 33 b.cells)
  obtain ⟨W0, hW0⟩ : ∃ W, W = (w.alloc (.cells #[.bool a.b, .bool a.u, .bool a.i, .int .i64 a.f, .int .i64 a.g] 33)).alloc (.cells #[.bool b.b, .bool b.u, .bool b.i, .int .i64 b.f, .int .i64 b.g] 33) := ⟨_, rfl⟩
  have hz0 : W0.heap.size = w.heap.size + 2 := by rw [hW0]; simp
  have hTw : Two w.heap.size w W0 a b := ⟨by rw [hW0]; exact HXa.out, by have := HYa.out; rw [hW0]; simpa [Sty.cells] using this, by rw [hW0]; exact HB0.out, by omega⟩
  have HTw := Lib.hid hTw
  have HW0 := Lib.hid hW0
  clear hW0 HB0 HXa HYa hTw hz0 hT
  have hlen := styleB_len' a b
  have HST := Lib.hid (styleB_strip a b)
  have CS := Lib.hid (style_any a b)
  have CR := Lib.hid (rstyle_any a b)
  have CP := Lib.hid (strip_any (styleB a b) (by omega))
  have CQ := Lib.hid (style_any b b)
  have CC := Lib.hid (check_sty a)
  have CD := Lib.hid (rcheck_sty a)
  have CE := Lib.hid (rcheck_sty b)
  have CT := Lib.hid (turned_any a (styleB a b) (by omega))
  have HOK := Lib.hid (fun (h : okS a ∧ okS b) => styleB_turn a b h.1 h.2)
  have HNO := Lib.hid (fun (h : ¬ (okS a ∧ okS b)) => styleB_not a b h)
  rw [HST.out] at CP
  rw [styleB_same] at CQ
  generalize styleB a b = R at *
  clear HST
  show Calls Tryd.prog 5 #[.agg #[.bool a.b, .bool a.u, .bool a.i, .int .i64 a.f, .int .i64 a.g], .agg #[.bool b.b, .bool b.u, .bool b.i, .int .i64 b.f, .int .i64 b.g]] w _
  go_enter Tryd.func5, Tryd.ntmps5
  go_upto_region 1 with fail
  rw [← HW0.out]
  clear HW0
  obtain ⟨x0, x1, x2, x3, x4⟩ := sty5 HTw.out.1
  obtain ⟨y0, y1, y2, y3, y4⟩ := sty5 HTw.out.2.1
  go_wp2_with (fail)
  refine (CS.out _ (HT.out.below HTw.out.2.2.1)).mono ?_
  rintro e w1 ⟨rfl, hb1⟩
  have HT1 := Lib.hid (HTw.out.below hb1)
  clear hb1 x0 x1 x2 x3 x4 y0 y1 y2 y3 y4 HTw CS
  have x0 := cell_regrown (sty5 HT1.out.1).1
  have x1 := cell_regrown (sty5 HT1.out.1).2.1
  have x2 := cell_regrown (sty5 HT1.out.1).2.2.1
  have x3 := cell_regrown (sty5 HT1.out.1).2.2.2.1
  have x4 := cell_regrown (sty5 HT1.out.1).2.2.2.2
  have y0 := cell_regrown (sty5 HT1.out.2.1).1
  have y1 := cell_regrown (sty5 HT1.out.2.1).2.1
  have y2 := cell_regrown (sty5 HT1.out.2.1).2.2.1
  have y3 := cell_regrown (sty5 HT1.out.2.1).2.2.2.1
  have y4 := cell_regrown (sty5 HT1.out.2.1).2.2.2.2
  have hpw : ∀ d os, Pow (grow (redrawn w1 d) os) := fun d os => (HT.out.below HT1.out.2.2.1).below (below_regrown w1 d os)
  have Q1 := Lib.hid (fun d os => Calls.regrown_of (CC.out (grow (redrawn w1 d) os)))
  have Q2 := Lib.hid (fun d os => Calls.regrown_of (CD.out (grow (redrawn w1 d) os)))
  have Q3 := Lib.hid (fun d os => Calls.regrown_of (CR.out (grow (redrawn w1 d) os)))
  have Q4 := Lib.hid (fun d os => Calls.regrown_of (CP.out (grow (redrawn w1 d) os)))
  have Q5 := Lib.hid (fun d os => Calls.regrown_of (CQ.out (grow (redrawn w1 d) os) (hpw d os)))
  have Q6 := Lib.hid (fun d os => Calls.regrown_of (es_awake (grow (redrawn w1 d) os) (hpw d os)))
  have HPW := Lib.hid hpw
  clear hpw CR CP CQ
  obtain ⟨na, hna⟩ : ∃ n, n = errN a := ⟨_, rfl⟩
  rw [← hna] at Q1 Q2 CD
  have HNA := Lib.hid hna
  clear hna
  simp only [Sty.val] at Q1 Q2 Q3 Q4 Q5 Q6
  go_wp2_with (fail)
  refine region_below0 (by kernel_rfl) (by kernel_rfl) ?_
  repeat (first
    | go_big_quiet_step (first | with_reducible exact Q1.out _ _ | with_reducible exact Q2.out _ _ | with_reducible exact Q3.out _ _ | with_reducible exact Q4.out _ _ | with_reducible exact Q5.out _ _ | with_reducible exact Q6.out _ _)
    | quiet_step (first | with_reducible exact Q1.out _ _ | with_reducible exact Q2.out _ _ | with_reducible exact Q3.out _ _ | with_reducible exact Q4.out _ _ | with_reducible exact Q5.out _ _ | with_reducible exact Q6.out _ _))
  refine wpQuiet_nil ?_
  intro _ hw'
  obtain ⟨⟨dq, osq⟩, hw''⟩ := hw'
  subst hw''
  have hT2 := HT1.out.below (below_regrown w1 dq osq)
  clear x0 x1 x2 x3 x4 y0 y1 y2 y3 y4 Q1 Q2 Q3 Q4 Q5 Q6 HPW HT1
  generalize grow (redrawn w1 dq) osq = w2 at hT2 ⊢
  have HT2 := Lib.hid hT2
  clear hT2
  obtain ⟨x0, x1, x2, x3, x4⟩ := sty5 HT2.out.1
  obtain ⟨y0, y1, y2, y3, y4⟩ := sty5 HT2.out.2.1
  by_cases ha : okS a
  · have hna : na = 0 := HNA.out.trans (errN_yes ha)
    rw [hna] at CD
    by_cases hb : okS b
    · have heb := errN_yes hb
      rw [heb] at CE
      have HTU := Lib.hid (HOK.out ⟨ha, hb⟩)
      clear hna heb ha hb HNO HOK
      go_wp2_with (fail)
      refine (CD.out _).mono ?_
      rintro e w3 ⟨rfl, hb3⟩
      have HT3 := Lib.hid (HT2.out.below hb3)
      clear hb3 x0 x1 x2 x3 x4 y0 y1 y2 y3 y4
      obtain ⟨y0, y1, y2, y3, y4⟩ := sty5 HT3.out.2.1
      go_wp2_with (fail)
      refine (CE.out _).mono ?_
      rintro e w4 ⟨rfl, hb4⟩
      have HT4 := Lib.hid (HT3.out.below hb4)
      clear hb4 y0 y1 y2 y3 y4
      have x0 := cell_regrown (sty5 HT4.out.1).1
      have x1 := cell_regrown (sty5 HT4.out.1).2.1
      have x2 := cell_regrown (sty5 HT4.out.1).2.2.1
      have x3 := cell_regrown (sty5 HT4.out.1).2.2.2.1
      have x4 := cell_regrown (sty5 HT4.out.1).2.2.2.2
      have y0 := cell_regrown (sty5 HT4.out.2.1).1
      have y1 := cell_regrown (sty5 HT4.out.2.1).2.1
      have y2 := cell_regrown (sty5 HT4.out.2.1).2.2.1
      have y3 := cell_regrown (sty5 HT4.out.2.1).2.2.2.1
      have y4 := cell_regrown (sty5 HT4.out.2.1).2.2.2.2
      have Q1 := Lib.hid (fun d os => Calls.regrown_of (CT.out (grow (redrawn w4 d) os)))
      rw [HTU.out] at Q1
      simp only [Sty.val] at Q1
      go_wp2_with (fail)
      refine region_below0 (by kernel_rfl) (by kernel_rfl) ?_
      repeat (first
        | go_big_quiet_step (with_reducible exact Q1.out _ _)
        | quiet_step (with_reducible exact Q1.out _ _))
      refine wpQuiet_nil ?_
      intro _ hw'
      obtain ⟨⟨dq, osq⟩, hw''⟩ := hw'
      subst hw''
      have hT5 := HT4.out.below (below_regrown w4 dq osq)
      have HT5 := Lib.hid hT5
      clear hT5 x0 x1 x2 x3 x4 y0 y1 y2 y3 y4 Q1
      go_wp2_with (fail)
      go_ret
      exact ⟨rfl, HT5.out.2.2.1⟩
    · have heb := errN_no hb
      rw [heb] at CE
      obtain rfl := HNO.out (fun h => hb h.2)
      clear hna heb ha hb HNO HOK
      go_wp2_with (fail)
      refine (CD.out _).mono ?_
      rintro e w3 ⟨rfl, hb3⟩
      have HT3 := Lib.hid (HT2.out.below hb3)
      clear hb3 x0 x1 x2 x3 x4 y0 y1 y2 y3 y4
      obtain ⟨y0, y1, y2, y3, y4⟩ := sty5 HT3.out.2.1
      go_wp2_with (fail)
      refine (CE.out _).mono ?_
      rintro e w4 ⟨rfl, hb4⟩
      have HT4 := Lib.hid (HT3.out.below hb4)
      clear hb4 y0 y1 y2 y3 y4
      go_wp2_with (fail)
      go_ret
      exact ⟨rfl, HT4.out.2.2.1⟩
  · have hna : na = 60 := HNA.out.trans (errN_no ha)
    rw [hna] at CD
    obtain rfl := HNO.out (fun h => ha h.1)
    clear hna ha HNO HOK
    go_wp2_with (fail)
    refine (CD.out _).mono ?_
    rintro e w3 ⟨rfl, hb3⟩
    have HT3 := Lib.hid (HT2.out.below hb3)
    clear hb3 x0 x1 x2 x3 x4 y0 y1 y2 y3 y4
    go_wp2_with (fail)
    go_ret
    exact ⟨rfl, HT3.out.2.2.1⟩
end Go.Proofs.YtclkclamdnkdgaaDoor
