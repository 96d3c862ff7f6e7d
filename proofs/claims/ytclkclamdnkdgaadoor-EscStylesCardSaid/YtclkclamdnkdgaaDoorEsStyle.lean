/-
  Walk: esc.Style.
-/
import Derived.Test.YtclkclamdnkdgaaDoorEsChg
namespace Go.Proofs.YtclkclamdnkdgaaDoor
open Go.RowKit
set_option linter.unusedVariables false
set_option linter.unusedSimpArgs false

theorem errN_ne {y : Sty} (h : ¬ okS y) : ¬ errN y = 0 := by rw [errN_no h]; decide
theorem numsS_len (a b : Sty) : (numsS a b).length ≤ 6 := by
  unfold numsS
  simp only [List.length_append]
  have h : ∀ (p : Prop) [Decidable p] (n : Int), (if p then [n] else []).length ≤ 1 := by intro p _ n; split <;> simp
  have h1 := h (losesS a b = true) 0
  have h2 := h (b.b = true ∧ (baseS a b).b = false) 1
  have h3 := h (b.u = true ∧ (baseS a b).u = false) 4
  have h4 := h (b.i = true ∧ (baseS a b).i = false) 7
  have h5 := h (b.f ≠ (baseS a b).f) (colN 30 b.f)
  have h6 := h (b.g ≠ (baseS a b).g) (colN 40 b.g)
  omega

theorem numsS_i64 (a b : Sty) (hb : okS b) : i64s (numsS a b) := fun n hn => by
  have := numsS_small a b hb n hn
  unfold smallN at this
  omega
theorem one_box {w w' : World} {t : TypeId} {a0 a1 a2 a3 a4 b0 b1 b2 b3 b4 : Value} (hb : Below ((w.alloc (.cells #[a0, a1, a2, a3, a4] t)).alloc (.cells #[b0, b1, b2, b3, b4] t)).heap.size ((w.alloc (.cells #[a0, a1, a2, a3, a4] t)).alloc (.cells #[b0, b1, b2, b3, b4] t)) w') :
    w'.cell? ⟨w.heap.size, 0, none⟩ = some a0 ∧ w'.cell? ⟨w.heap.size, 1, none⟩ = some a1 ∧ w'.cell? ⟨w.heap.size, 2, none⟩ = some a2 ∧ w'.cell? ⟨w.heap.size, 3, none⟩ = some a3 ∧ w'.cell? ⟨w.heap.size, 4, none⟩ = some a4 := by
  have h : Blk w' w.heap.size t [a0, a1, a2, a3, a4] := ((Blk.new w t [a0, a1, a2, a3, a4]).alloc _).below hb (by simp; omega)
  exact ⟨h.cell 0, h.cell 1, h.cell 2, h.cell 3, h.cell 4⟩
theorem two_box {w w' : World} {t : TypeId} {a0 a1 a2 a3 a4 b0 b1 b2 b3 b4 : Value} (hb : Below ((w.alloc (.cells #[a0, a1, a2, a3, a4] t)).alloc (.cells #[b0, b1, b2, b3, b4] t)).heap.size ((w.alloc (.cells #[a0, a1, a2, a3, a4] t)).alloc (.cells #[b0, b1, b2, b3, b4] t)) w') :
    w'.cell? ⟨w.heap.size + 1, 0, none⟩ = some b0 ∧ w'.cell? ⟨w.heap.size + 1, 1, none⟩ = some b1 ∧ w'.cell? ⟨w.heap.size + 1, 2, none⟩ = some b2 ∧ w'.cell? ⟨w.heap.size + 1, 3, none⟩ = some b3 ∧ w'.cell? ⟨w.heap.size + 1, 4, none⟩ = some b4 := by
  have h0 : Blk ((w.alloc (.cells #[a0, a1, a2, a3, a4] t)).alloc (.cells #[b0, b1, b2, b3, b4] t)) (w.heap.size + 1) t [b0, b1, b2, b3, b4] := by
    have := Blk.new (w.alloc (.cells #[a0, a1, a2, a3, a4] t)) t [b0, b1, b2, b3, b4]
    simpa using this
  have h : Blk w' (w.heap.size + 1) t [b0, b1, b2, b3, b4] := Blk.below h0 hb (by simp)
  exact ⟨h.cell 0, h.cell 1, h.cell 2, h.cell 3, h.cell 4⟩
theorem not_eq {a b : Bool} (h : ¬ a = b) : b = !a := by cases a <;> cases b <;> simp_all

set_option maxRecDepth 100000 in
set_option maxHeartbeats 16000000 in
theorem style_any (a b : Sty) (w : World) (hT : Pow w) :
    Calls Tryd.prog 25 #[a.val, b.val] w fun e w' => e = .returned (.string ⟨(styleB a b).toArray⟩) ∧ Below w.heap.size w w' := by
  have HT := Lib.hid hT
  clear hT
  have HB0 : Hid (∀ a b : Sty, Below w.heap.size w ((w.alloc (.cells a.cells.toArray 33)).alloc (.cells b.cells.toArray 33))) := Lib.hid (fun a b => ((Below.refl w.heap.size w).alloc (Nat.le_refl _) (.cells a.cells.toArray 33)).alloc (by simp) (.cells b.cells.toArray 33))
  by_cases hab : a = b
  · subst hab
    have HE := Lib.hid (styleB_same a)
    have HB1 := Lib.hid (HB0.out a a)
    show Calls Tryd.prog 25 #[.agg #[.bool a.b, .bool a.u, .bool a.i, .int .i64 a.f, .int .i64 a.g], .agg #[.bool a.b, .bool a.u, .bool a.i, .int .i64 a.f, .int .i64 a.g]] w _
    go_enter Tryd.func25, Tryd.ntmps25
    go_wp2_with (fail)
    go_ret
    exact ⟨ret_str (by rw [HE.out]), HB1.out⟩
  · have hBo := HB0.out a b
    clear HB0
    have hc : (errN a = 60 ∧ styleB a b = []) ∨ (errN a = 0 ∧ errN b = 60 ∧ styleB a b = []) ∨ (errN a = 0 ∧ errN b = 0 ∧ styleB a b = seqB (numsS a b) (finB 9) ∧ okS b) := by
      by_cases ha : okS a
      · by_cases hb : okS b
        · exact .inr (.inr ⟨errN_yes ha, errN_yes hb, by unfold styleB; rw [if_neg (fun h => h.elim hab fun h => h.elim (fun k => k ha) (fun k => k hb))]; rfl, hb⟩)
        · exact .inr (.inl ⟨errN_yes ha, errN_no hb, styleB_not a b (fun h => hb h.2)⟩)
      · exact .inl ⟨errN_no ha, styleB_not a b (fun h => ha h.1)⟩
    have CA := check_sty a
    have CB := check_sty b
    have CC : okS b → ∀ w, _ := fun h w => changes_any a b h w
    have CI : okS b → i64s (numsS a b) := numsS_i64 a b
    have CL := numsS_len a b
    obtain ⟨o, ho⟩ : ∃ o : Prop, o = okS b := ⟨_, rfl⟩
    rw [← ho] at CC CI hc
    clear ho
    generalize styleB a b = R at hc ⊢
    generalize numsS a b = N at hc CC CI CL
    generalize errN a = n1 at hc CA
    generalize errN b = n2 at hc CB
    obtain ⟨a1, a2, a3, a4, a5⟩ := a
    obtain ⟨b1, b2, b3, b4, b5⟩ := b
    simp only [Sty.val, Sty.cells] at CA CB CC hBo ⊢
    have HB0 := Lib.hid hBo
    have HC := Lib.hid hc
    have HCA := Lib.hid CA
    have HCB := Lib.hid CB
    have HCC := Lib.hid CC
    have HCI := Lib.hid CI
    clear hBo hc CA CB CC CI
    by_cases e1 : a1 = b1
    case neg =>
      obtain rfl := not_eq e1
      cases a1
      all_goals
        rcases HC.out with ⟨h1, hR⟩ | ⟨h1, h2, hR⟩ | ⟨h1, h2, hR, ho⟩
        · have HR := Lib.hid hR
          subst h1
          clear hR HC HCB HCC HCI
          go_enter Tryd.func25, Tryd.ntmps25
          go_wp2_with (fail)
          refine (HCA.out _).mono ?_
          rintro e w1 ⟨rfl, hb1⟩
          have HB1 := Lib.hid (HB0.out.trans (hb1.mono HB0.out.size))
          clear hb1
          go_wp2_with (fail)
          go_ret
          exact ⟨ret_str (by rw [HR.out]), HB1.out⟩
        · have HR := Lib.hid hR
          subst h1 h2
          clear hR HC HCC HCI
          go_enter Tryd.func25, Tryd.ntmps25
          go_wp2_with (fail)
          refine (HCA.out _).mono ?_
          rintro e w1 ⟨rfl, hb1⟩
          have HB1 := Lib.hid (HB0.out.trans (hb1.mono HB0.out.size))
          obtain ⟨y0, y1, y2, y3, y4⟩ := two_box hb1
          clear hb1
          go_wp2_with (fail)
          refine (HCB.out _).mono ?_
          rintro e w2 ⟨rfl, hb2⟩
          have HB2 := Lib.hid (HB1.out.trans (hb2.mono HB1.out.size))
          clear hb2
          go_wp2_with (fail)
          go_ret
          exact ⟨ret_str (by rw [HR.out]), HB2.out⟩
        · have HR := Lib.hid hR
          have HI := Lib.hid (HCI.out ho)
          have HCH := Lib.hid (HCC.out ho)
          subst h1 h2
          clear hR HC HCC HCI ho
          go_enter Tryd.func25, Tryd.ntmps25
          go_wp2_with (fail)
          refine (HCA.out _).mono ?_
          rintro e w1 ⟨rfl, hb1⟩
          have HB1 := Lib.hid (HB0.out.trans (hb1.mono HB0.out.size))
          obtain ⟨y0, y1, y2, y3, y4⟩ := two_box hb1
          have HBA := Lib.hid hb1
          clear hb1
          go_wp2_with (fail)
          refine (HCB.out _).mono ?_
          rintro e w2 ⟨rfl, hb2⟩
          have HB2 := Lib.hid (HB1.out.trans (hb2.mono HB1.out.size))
          have hb2' := HBA.out.trans (hb2.mono HBA.out.size)
          clear y0 y1 y2 y3 y4
          obtain ⟨y0, y1, y2, y3, y4⟩ := two_box hb2'
          obtain ⟨x0, x1, x2, x3, x4⟩ := one_box hb2'
          clear hb2 hb2'
          go_wp2_with (fail)
          refine (HCH.out _).mono ?_
          rintro e w3 ⟨A, n, k, rfl, hn, hS, hb3⟩
          have HB3 := Lib.hid (HB2.out.trans (hb3.mono HB2.out.size))
          have HQ := Lib.hid (sequence_any 9 (by omega) (by omega) A n k N HI.out hn (by omega) w3 w3.heap.size hS (Nat.le_refl _) (HT.out.below HB3.out))
          clear hb3 hn hS
          go_wp2_with (fail)
          refine HQ.out.mono ?_
          rintro e w4 ⟨rfl, hb4⟩
          go_wp2_with (fail)
          go_ret
          exact ⟨ret_str (by rw [HR.out]), HB3.out.trans (hb4.mono HB3.out.size)⟩
    subst e1
    by_cases e2 : a2 = b2
    case neg =>
      obtain rfl := not_eq e2
      cases a2
      all_goals
        rcases HC.out with ⟨h1, hR⟩ | ⟨h1, h2, hR⟩ | ⟨h1, h2, hR, ho⟩
        · have HR := Lib.hid hR
          subst h1
          clear hR HC HCB HCC HCI
          go_enter Tryd.func25, Tryd.ntmps25
          go_wp2_with (fail)
          refine (HCA.out _).mono ?_
          rintro e w1 ⟨rfl, hb1⟩
          have HB1 := Lib.hid (HB0.out.trans (hb1.mono HB0.out.size))
          clear hb1
          go_wp2_with (fail)
          go_ret
          exact ⟨ret_str (by rw [HR.out]), HB1.out⟩
        · have HR := Lib.hid hR
          subst h1 h2
          clear hR HC HCC HCI
          go_enter Tryd.func25, Tryd.ntmps25
          go_wp2_with (fail)
          refine (HCA.out _).mono ?_
          rintro e w1 ⟨rfl, hb1⟩
          have HB1 := Lib.hid (HB0.out.trans (hb1.mono HB0.out.size))
          obtain ⟨y0, y1, y2, y3, y4⟩ := two_box hb1
          clear hb1
          go_wp2_with (fail)
          refine (HCB.out _).mono ?_
          rintro e w2 ⟨rfl, hb2⟩
          have HB2 := Lib.hid (HB1.out.trans (hb2.mono HB1.out.size))
          clear hb2
          go_wp2_with (fail)
          go_ret
          exact ⟨ret_str (by rw [HR.out]), HB2.out⟩
        · have HR := Lib.hid hR
          have HI := Lib.hid (HCI.out ho)
          have HCH := Lib.hid (HCC.out ho)
          subst h1 h2
          clear hR HC HCC HCI ho
          go_enter Tryd.func25, Tryd.ntmps25
          go_wp2_with (fail)
          refine (HCA.out _).mono ?_
          rintro e w1 ⟨rfl, hb1⟩
          have HB1 := Lib.hid (HB0.out.trans (hb1.mono HB0.out.size))
          obtain ⟨y0, y1, y2, y3, y4⟩ := two_box hb1
          have HBA := Lib.hid hb1
          clear hb1
          go_wp2_with (fail)
          refine (HCB.out _).mono ?_
          rintro e w2 ⟨rfl, hb2⟩
          have HB2 := Lib.hid (HB1.out.trans (hb2.mono HB1.out.size))
          have hb2' := HBA.out.trans (hb2.mono HBA.out.size)
          clear y0 y1 y2 y3 y4
          obtain ⟨y0, y1, y2, y3, y4⟩ := two_box hb2'
          obtain ⟨x0, x1, x2, x3, x4⟩ := one_box hb2'
          clear hb2 hb2'
          go_wp2_with (fail)
          refine (HCH.out _).mono ?_
          rintro e w3 ⟨A, n, k, rfl, hn, hS, hb3⟩
          have HB3 := Lib.hid (HB2.out.trans (hb3.mono HB2.out.size))
          have HQ := Lib.hid (sequence_any 9 (by omega) (by omega) A n k N HI.out hn (by omega) w3 w3.heap.size hS (Nat.le_refl _) (HT.out.below HB3.out))
          clear hb3 hn hS
          go_wp2_with (fail)
          refine HQ.out.mono ?_
          rintro e w4 ⟨rfl, hb4⟩
          go_wp2_with (fail)
          go_ret
          exact ⟨ret_str (by rw [HR.out]), HB3.out.trans (hb4.mono HB3.out.size)⟩
    subst e2
    by_cases e3 : a3 = b3
    case neg =>
      obtain rfl := not_eq e3
      cases a3
      all_goals
        rcases HC.out with ⟨h1, hR⟩ | ⟨h1, h2, hR⟩ | ⟨h1, h2, hR, ho⟩
        · have HR := Lib.hid hR
          subst h1
          clear hR HC HCB HCC HCI
          go_enter Tryd.func25, Tryd.ntmps25
          go_wp2_with (fail)
          refine (HCA.out _).mono ?_
          rintro e w1 ⟨rfl, hb1⟩
          have HB1 := Lib.hid (HB0.out.trans (hb1.mono HB0.out.size))
          clear hb1
          go_wp2_with (fail)
          go_ret
          exact ⟨ret_str (by rw [HR.out]), HB1.out⟩
        · have HR := Lib.hid hR
          subst h1 h2
          clear hR HC HCC HCI
          go_enter Tryd.func25, Tryd.ntmps25
          go_wp2_with (fail)
          refine (HCA.out _).mono ?_
          rintro e w1 ⟨rfl, hb1⟩
          have HB1 := Lib.hid (HB0.out.trans (hb1.mono HB0.out.size))
          obtain ⟨y0, y1, y2, y3, y4⟩ := two_box hb1
          clear hb1
          go_wp2_with (fail)
          refine (HCB.out _).mono ?_
          rintro e w2 ⟨rfl, hb2⟩
          have HB2 := Lib.hid (HB1.out.trans (hb2.mono HB1.out.size))
          clear hb2
          go_wp2_with (fail)
          go_ret
          exact ⟨ret_str (by rw [HR.out]), HB2.out⟩
        · have HR := Lib.hid hR
          have HI := Lib.hid (HCI.out ho)
          have HCH := Lib.hid (HCC.out ho)
          subst h1 h2
          clear hR HC HCC HCI ho
          go_enter Tryd.func25, Tryd.ntmps25
          go_wp2_with (fail)
          refine (HCA.out _).mono ?_
          rintro e w1 ⟨rfl, hb1⟩
          have HB1 := Lib.hid (HB0.out.trans (hb1.mono HB0.out.size))
          obtain ⟨y0, y1, y2, y3, y4⟩ := two_box hb1
          have HBA := Lib.hid hb1
          clear hb1
          go_wp2_with (fail)
          refine (HCB.out _).mono ?_
          rintro e w2 ⟨rfl, hb2⟩
          have HB2 := Lib.hid (HB1.out.trans (hb2.mono HB1.out.size))
          have hb2' := HBA.out.trans (hb2.mono HBA.out.size)
          clear y0 y1 y2 y3 y4
          obtain ⟨y0, y1, y2, y3, y4⟩ := two_box hb2'
          obtain ⟨x0, x1, x2, x3, x4⟩ := one_box hb2'
          clear hb2 hb2'
          go_wp2_with (fail)
          refine (HCH.out _).mono ?_
          rintro e w3 ⟨A, n, k, rfl, hn, hS, hb3⟩
          have HB3 := Lib.hid (HB2.out.trans (hb3.mono HB2.out.size))
          have HQ := Lib.hid (sequence_any 9 (by omega) (by omega) A n k N HI.out hn (by omega) w3 w3.heap.size hS (Nat.le_refl _) (HT.out.below HB3.out))
          clear hb3 hn hS
          go_wp2_with (fail)
          refine HQ.out.mono ?_
          rintro e w4 ⟨rfl, hb4⟩
          go_wp2_with (fail)
          go_ret
          exact ⟨ret_str (by rw [HR.out]), HB3.out.trans (hb4.mono HB3.out.size)⟩
    subst e3
    by_cases e4 : a4 = b4
    case neg =>
      have he : (a4 == b4) = false := by simpa using e4
      rcases HC.out with ⟨h1, hR⟩ | ⟨h1, h2, hR⟩ | ⟨h1, h2, hR, ho⟩
      · have HR := Lib.hid hR
        subst h1
        clear hR HC HCB HCC HCI
        go_enter Tryd.func25, Tryd.ntmps25
        go_wp2_with (fail)
        refine (HCA.out _).mono ?_
        rintro e w1 ⟨rfl, hb1⟩
        have HB1 := Lib.hid (HB0.out.trans (hb1.mono HB0.out.size))
        clear hb1
        go_wp2_with (fail)
        go_ret
        exact ⟨ret_str (by rw [HR.out]), HB1.out⟩
      · have HR := Lib.hid hR
        subst h1 h2
        clear hR HC HCC HCI
        go_enter Tryd.func25, Tryd.ntmps25
        go_wp2_with (fail)
        refine (HCA.out _).mono ?_
        rintro e w1 ⟨rfl, hb1⟩
        have HB1 := Lib.hid (HB0.out.trans (hb1.mono HB0.out.size))
        obtain ⟨y0, y1, y2, y3, y4⟩ := two_box hb1
        clear hb1
        go_wp2_with (fail)
        refine (HCB.out _).mono ?_
        rintro e w2 ⟨rfl, hb2⟩
        have HB2 := Lib.hid (HB1.out.trans (hb2.mono HB1.out.size))
        clear hb2
        go_wp2_with (fail)
        go_ret
        exact ⟨ret_str (by rw [HR.out]), HB2.out⟩
      · have HR := Lib.hid hR
        have HI := Lib.hid (HCI.out ho)
        have HCH := Lib.hid (HCC.out ho)
        subst h1 h2
        clear hR HC HCC HCI ho
        go_enter Tryd.func25, Tryd.ntmps25
        go_wp2_with (fail)
        refine (HCA.out _).mono ?_
        rintro e w1 ⟨rfl, hb1⟩
        have HB1 := Lib.hid (HB0.out.trans (hb1.mono HB0.out.size))
        obtain ⟨y0, y1, y2, y3, y4⟩ := two_box hb1
        have HBA := Lib.hid hb1
        clear hb1
        go_wp2_with (fail)
        refine (HCB.out _).mono ?_
        rintro e w2 ⟨rfl, hb2⟩
        have HB2 := Lib.hid (HB1.out.trans (hb2.mono HB1.out.size))
        have hb2' := HBA.out.trans (hb2.mono HBA.out.size)
        clear y0 y1 y2 y3 y4
        obtain ⟨y0, y1, y2, y3, y4⟩ := two_box hb2'
        obtain ⟨x0, x1, x2, x3, x4⟩ := one_box hb2'
        clear hb2 hb2'
        go_wp2_with (fail)
        refine (HCH.out _).mono ?_
        rintro e w3 ⟨A, n, k, rfl, hn, hS, hb3⟩
        have HB3 := Lib.hid (HB2.out.trans (hb3.mono HB2.out.size))
        have HQ := Lib.hid (sequence_any 9 (by omega) (by omega) A n k N HI.out hn (by omega) w3 w3.heap.size hS (Nat.le_refl _) (HT.out.below HB3.out))
        clear hb3 hn hS
        go_wp2_with (fail)
        refine HQ.out.mono ?_
        rintro e w4 ⟨rfl, hb4⟩
        go_wp2_with (fail)
        go_ret
        exact ⟨ret_str (by rw [HR.out]), HB3.out.trans (hb4.mono HB3.out.size)⟩
    subst e4
    by_cases e5 : a5 = b5
    case neg =>
      have he : (a5 == b5) = false := by simpa using e5
      rcases HC.out with ⟨h1, hR⟩ | ⟨h1, h2, hR⟩ | ⟨h1, h2, hR, ho⟩
      · have HR := Lib.hid hR
        subst h1
        clear hR HC HCB HCC HCI
        go_enter Tryd.func25, Tryd.ntmps25
        go_wp2_with (fail)
        refine (HCA.out _).mono ?_
        rintro e w1 ⟨rfl, hb1⟩
        have HB1 := Lib.hid (HB0.out.trans (hb1.mono HB0.out.size))
        clear hb1
        go_wp2_with (fail)
        go_ret
        exact ⟨ret_str (by rw [HR.out]), HB1.out⟩
      · have HR := Lib.hid hR
        subst h1 h2
        clear hR HC HCC HCI
        go_enter Tryd.func25, Tryd.ntmps25
        go_wp2_with (fail)
        refine (HCA.out _).mono ?_
        rintro e w1 ⟨rfl, hb1⟩
        have HB1 := Lib.hid (HB0.out.trans (hb1.mono HB0.out.size))
        obtain ⟨y0, y1, y2, y3, y4⟩ := two_box hb1
        clear hb1
        go_wp2_with (fail)
        refine (HCB.out _).mono ?_
        rintro e w2 ⟨rfl, hb2⟩
        have HB2 := Lib.hid (HB1.out.trans (hb2.mono HB1.out.size))
        clear hb2
        go_wp2_with (fail)
        go_ret
        exact ⟨ret_str (by rw [HR.out]), HB2.out⟩
      · have HR := Lib.hid hR
        have HI := Lib.hid (HCI.out ho)
        have HCH := Lib.hid (HCC.out ho)
        subst h1 h2
        clear hR HC HCC HCI ho
        go_enter Tryd.func25, Tryd.ntmps25
        go_wp2_with (fail)
        refine (HCA.out _).mono ?_
        rintro e w1 ⟨rfl, hb1⟩
        have HB1 := Lib.hid (HB0.out.trans (hb1.mono HB0.out.size))
        obtain ⟨y0, y1, y2, y3, y4⟩ := two_box hb1
        have HBA := Lib.hid hb1
        clear hb1
        go_wp2_with (fail)
        refine (HCB.out _).mono ?_
        rintro e w2 ⟨rfl, hb2⟩
        have HB2 := Lib.hid (HB1.out.trans (hb2.mono HB1.out.size))
        have hb2' := HBA.out.trans (hb2.mono HBA.out.size)
        clear y0 y1 y2 y3 y4
        obtain ⟨y0, y1, y2, y3, y4⟩ := two_box hb2'
        obtain ⟨x0, x1, x2, x3, x4⟩ := one_box hb2'
        clear hb2 hb2'
        go_wp2_with (fail)
        refine (HCH.out _).mono ?_
        rintro e w3 ⟨A, n, k, rfl, hn, hS, hb3⟩
        have HB3 := Lib.hid (HB2.out.trans (hb3.mono HB2.out.size))
        have HQ := Lib.hid (sequence_any 9 (by omega) (by omega) A n k N HI.out hn (by omega) w3 w3.heap.size hS (Nat.le_refl _) (HT.out.below HB3.out))
        clear hb3 hn hS
        go_wp2_with (fail)
        refine HQ.out.mono ?_
        rintro e w4 ⟨rfl, hb4⟩
        go_wp2_with (fail)
        go_ret
        exact ⟨ret_str (by rw [HR.out]), HB3.out.trans (hb4.mono HB3.out.size)⟩
    subst e5
    exact absurd rfl hab
end Go.Proofs.YtclkclamdnkdgaaDoor
