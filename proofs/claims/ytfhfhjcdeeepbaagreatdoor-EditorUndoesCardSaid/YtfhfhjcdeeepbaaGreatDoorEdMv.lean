/-
  Walks: do of the other moves.
-/
import Derived.Test.YtfhfhjcdeeepbaaGreatDoorEgZ
namespace Go.Proofs.YtfhfhjcdeeepbaaGreatDoor
open Go.RowKit Go.Sort
set_option linter.unusedVariables false
set_option linter.unusedSimpArgs false

set_option maxRecDepth 100000 in
set_option maxHeartbeats 4000000 in
theorem do_right {w : World} {lo b most : Nat} {c : EdC} {m m1 : EdM} {d : Bool} (h : EdAt w lo b c most m) (hT : TL lo w) (hlo : lo ≤ w.heap.size)  :
    Calls Tryz.prog 29 #[.pointer (some ⟨b, 1, none⟩), .int .i64 2] w (EdStep w lo b c most (m.begun.moved (clampN ((m.p.length : Int) + 1) (ln m.p m.s))) (!decide (clampN ((m.p.length : Int) + 1) (ln m.p m.s) = m.p.length))) := by
  have hb0 : Below w.heap.size w ((w.alloc (.cells #[.pointer (some ⟨b, 1, none⟩)] 61)).alloc (.cells #[.int .i64 2] 30)) := ((Below.refl _ w).alloc (Nat.le_refl _) _).alloc (by simp) _
  have y0 := (Boxed.new w 61 (.pointer (some ⟨b, 1, none⟩))).alloc (.cells #[.int .i64 2] 30)
  have y1 := Boxed.new (w.alloc (.cells #[.pointer (some ⟨b, 1, none⟩)] 61)) 30 (.int .i64 2)
  simp only [World.size_alloc] at y1
  have hbg := ebegin_any (h.below hb0)
  have HBG := Lib.hid hbg
  have HB0 := Lib.hid hb0
  have HY0 := Lib.hid y0
  have HY1 := Lib.hid y1
  have HLT := Lib.hid h.st.lt
  have HTT := Lib.hid (hT.below hb0)
  have hlob := h.lo
  have hf4 : m.p.length ≤ 4096 := by have := h.buf.ln_le; have := h.buf.m4; have := ln_eq m.p m.s; simp only [List.length_append] at this; omega
  have hl4 : ln m.p m.s ≤ 4096 := by have := h.buf.ln_le; have := h.buf.m4; omega
  obtain ⟨f, hf⟩ : ∃ f, f = m.p.length := ⟨_, rfl⟩
  have hw1 : IntKind.i64.wrap ((f : Int) + 1) = (f : Int) + 1 := IntWalk.i64_in _ (by omega)
  have hcur := fun (W : World) (hW : EdAt W lo b c most m.begun) => (by rw [hf]; exact gcursor_any hW.buf : Calls Tryz.prog 26 #[.pointer (some ⟨c.g, 0, none⟩)] W fun e w' => e = .returned (.int .i64 f) ∧ Below W.heap.size W w')
  have HC := Lib.hid hcur
  have hwk := fun (W : World) (hW : EdAt W lo b c most m.begun) => ewalk_any hW ((f : Int) + 1)
  have e1 : ln m.begun.p m.begun.s = ln m.p m.s := rfl
  have e2 : m.begun.p.length = f := hf.symm
  rw [e1, e2] at hwk
  rw [← hf]
  generalize hmv : m.begun.moved (clampN ((f : Int) + 1) (ln m.p m.s)) = mv at hwk ⊢
  generalize hdd : (!decide (clampN ((f : Int) + 1) (ln m.p m.s) = f)) = dd at hwk ⊢
  have HWK := Lib.hid hwk
  clear hb0 y0 y1 h hT hbg hcur hwk hf e1 e2 hmv hdd
  go_enter Tryz.func29, Tryz.ntmps29
  go_wp2_with (first
    | (go_at_call 42; refine HBG.out.mono ?_; rintro e w1 ⟨rfl, h1, hc1⟩
       have hn : ∀ k, w.heap.size ≤ k → ¬ one b k := fun k hk e => by have h9 : k = b := e; have := HLT.out; omega
       obtain ⟨hbt, hbk⟩ := trc_new w1 m.kd m.yd m.ki m.fr
       have z0 : Boxed w1 w.heap.size 61 (.pointer (some ⟨b, 1, none⟩)) := hc1.heap HY0.out (hn _ (Nat.le_refl _))
       have z1 : Boxed w1 (w.heap.size + 1) 30 (.int .i64 2) := hc1.heap HY1.out (hn _ (by omega))
       have z0' := box_bel z0 hbt
       have z1' := box_bel z1 hbt
       have k0 := z0'.cell
       have k1 := z1'.cell
       have H1 := Lib.hid (h1.below hbt)
       have kbb := H1.out.cells.1
       have HZ0 := Lib.hid z0'
       have hcw : Chg (one b) w _ := ((Chg.of_below HB0.out).trans hc1 (fun k hk => .inl hk)).trans (Chg.of_below (S := one b) hbt) (fun _ h => .inl h)
       have HCW := Lib.hid hcw
       have HT1 := Lib.hid ((HTT.out.chg hc1 (fun k e => by have h9 : k = b := e; omega)).below hbt)
       have hs1 := hcw.size
       have hws : w1.heap.size ≥ w.heap.size := by have h9 := HB0.out.size; have h8 := hc1.size; omega
       clear hn z0 z1 z0' z1' h1 hc1 hbt hbk hcw))
  go_region_law (first
    | (refine step_call rfl 26 _ _ rfl (enters_of Tryz.func26 (by kernel_rfl) rfl) #[.pointer (some ⟨c.g, 0, none⟩)] (by simp [Act.eval, Act.put]) (HC.out _ (H1.out.below ((Below.refl _ _).drew))) ?_; rintro e w2 ⟨rfl, hb2⟩; refine ⟨_, rfl, ?_⟩
       have hb12 := (Below.drew (Below.refl _ _)).trans hb2
       have H2 := Lib.hid (H1.out.below hb12)
       have kb2 := H2.out.cells.1
       have k02 := (box_bel HZ0.out hb12).cell
       have HB2 := Lib.hid hb12
       clear hb2 hb12)
    | (refine step_call rfl 52 _ _ rfl (enters_of Tryz.func52 (by kernel_rfl) rfl) #[.agg #[.pointer (some ⟨c.g, 0, none⟩)], .int .i64 ((f : Int) + 1)] (by simp [Act.eval, Act.put, hw1]) (HWK.out _ H2.out) ?_; rintro e w3 ⟨rfl, hr⟩; refine ⟨_, rfl, ?_⟩; have HR := Lib.hid (EdR.viac (w := w) (HCW.out.mono (fun k hk => .inl (.inl hk))) (EdR.via HB2.out hr)); clear hr))
  all_goals (go_wp2_with (fail); go_ret; exact ⟨rfl, HR.out⟩)

set_option maxRecDepth 100000 in
set_option maxHeartbeats 4000000 in
theorem do_wleft {w : World} {lo b most : Nat} {c : EdC} {m m1 : EdM} {d : Bool} (h : EdAt w lo b c most m) (hT : TL lo w) (hlo : lo ≤ w.heap.size)  :
    Calls Tryz.prog 29 #[.pointer (some ⟨b, 1, none⟩), .int .i64 3] w (EdStep w lo b c most (m.begun.moved (clampN (((m.p.length - wl m.p : Nat) : Int)) (ln m.p m.s))) (!decide (clampN (((m.p.length - wl m.p : Nat) : Int)) (ln m.p m.s) = m.p.length))) := by
  have hb0 : Below w.heap.size w ((w.alloc (.cells #[.pointer (some ⟨b, 1, none⟩)] 61)).alloc (.cells #[.int .i64 3] 30)) := ((Below.refl _ w).alloc (Nat.le_refl _) _).alloc (by simp) _
  have y0 := (Boxed.new w 61 (.pointer (some ⟨b, 1, none⟩))).alloc (.cells #[.int .i64 3] 30)
  have y1 := Boxed.new (w.alloc (.cells #[.pointer (some ⟨b, 1, none⟩)] 61)) 30 (.int .i64 3)
  simp only [World.size_alloc] at y1
  have hbg := ebegin_any (h.below hb0)
  have HBG := Lib.hid hbg
  have HB0 := Lib.hid hb0
  have HY0 := Lib.hid y0
  have HY1 := Lib.hid y1
  have HLT := Lib.hid h.st.lt
  have HTT := Lib.hid (hT.below hb0)
  have hlob := h.lo
  obtain ⟨x, hx⟩ : ∃ x : Nat, x = m.p.length - wl m.p := ⟨_, rfl⟩
  rw [← hx]
  have hf4 : m.p.length ≤ 4096 := by have := h.buf.ln_le; have := h.buf.m4; have := ln_eq m.p m.s; simp only [List.length_append] at this; omega
  have hl4 : ln m.p m.s ≤ 4096 := by have := h.buf.ln_le; have := h.buf.m4; omega
  obtain ⟨f, hf⟩ : ∃ f, f = m.p.length := ⟨_, rfl⟩
  have hcur := fun (W : World) (hW : EdAt W lo b c most m.begun) => (by rw [hx]; exact lwordl_any hW.buf : Calls Tryz.prog 53 #[.agg #[.pointer (some ⟨c.g, 0, none⟩)]] W fun e w' => e = .returned (.int .i64 (x : Nat)) ∧ Below W.heap.size W w')
  have HC := Lib.hid hcur
  have hwk := fun (W : World) (hW : EdAt W lo b c most m.begun) => ewalk_any hW (((x : Nat) : Int))
  have e1 : ln m.begun.p m.begun.s = ln m.p m.s := rfl
  have e2 : m.begun.p.length = f := hf.symm
  rw [e1, e2] at hwk
  rw [← hf]
  generalize hmv : m.begun.moved (clampN (((x : Nat) : Int)) (ln m.p m.s)) = mv at hwk ⊢
  generalize hdd : (!decide (clampN (((x : Nat) : Int)) (ln m.p m.s) = f)) = dd at hwk ⊢
  have HWK := Lib.hid hwk
  clear hb0 y0 y1 h hT hbg hcur hwk hf e1 e2 hmv hdd hx
  go_enter Tryz.func29, Tryz.ntmps29
  go_wp2_with (first
    | (go_at_call 42; refine HBG.out.mono ?_; rintro e w1 ⟨rfl, h1, hc1⟩
       have hn : ∀ k, w.heap.size ≤ k → ¬ one b k := fun k hk e => by have h9 : k = b := e; have := HLT.out; omega
       obtain ⟨hbt, hbk⟩ := trc_new w1 m.kd m.yd m.ki m.fr
       have z0 : Boxed w1 w.heap.size 61 (.pointer (some ⟨b, 1, none⟩)) := hc1.heap HY0.out (hn _ (Nat.le_refl _))
       have z1 : Boxed w1 (w.heap.size + 1) 30 (.int .i64 3) := hc1.heap HY1.out (hn _ (by omega))
       have z0' := box_bel z0 hbt
       have z1' := box_bel z1 hbt
       have k0 := z0'.cell
       have k1 := z1'.cell
       have H1 := Lib.hid (h1.below hbt)
       have kbb := H1.out.cells.1
       have HZ0 := Lib.hid z0'
       have hcw : Chg (one b) w _ := ((Chg.of_below HB0.out).trans hc1 (fun k hk => .inl hk)).trans (Chg.of_below (S := one b) hbt) (fun _ h => .inl h)
       have HCW := Lib.hid hcw
       have HT1 := Lib.hid ((HTT.out.chg hc1 (fun k e => by have h9 : k = b := e; omega)).below hbt)
       have hs1 := hcw.size
       have hws : w1.heap.size ≥ w.heap.size := by have h9 := HB0.out.size; have h8 := hc1.size; omega
       clear hn z0 z1 z0' z1' h1 hc1 hbt hbk hcw))
  go_region_law (first
    | (refine step_call rfl 53 _ _ rfl (enters_of Tryz.func53 (by kernel_rfl) rfl) #[.agg #[.pointer (some ⟨c.g, 0, none⟩)]] (by simp [Act.eval, Act.put]) (HC.out _ (H1.out.below ((Below.refl _ _).drew))) ?_; rintro e w2 ⟨rfl, hb2⟩; refine ⟨_, rfl, ?_⟩
       have hb12 := (Below.drew (Below.refl _ _)).trans hb2
       have H2 := Lib.hid (H1.out.below hb12)
       have kb2 := H2.out.cells.1
       have k02 := (box_bel HZ0.out hb12).cell
       have HB2 := Lib.hid hb12
       clear hb2 hb12)
    | (refine step_call rfl 52 _ _ rfl (enters_of Tryz.func52 (by kernel_rfl) rfl) #[.agg #[.pointer (some ⟨c.g, 0, none⟩)], .int .i64 (((x : Nat) : Int))] (by simp [Act.eval, Act.put]) (HWK.out _ H2.out) ?_; rintro e w3 ⟨rfl, hr⟩; refine ⟨_, rfl, ?_⟩; have HR := Lib.hid (EdR.viac (w := w) (HCW.out.mono (fun k hk => .inl (.inl hk))) (EdR.via HB2.out hr)); clear hr))
  all_goals (go_wp2_with (fail); go_ret; exact ⟨rfl, HR.out⟩)

set_option maxRecDepth 100000 in
set_option maxHeartbeats 4000000 in
theorem do_wright {w : World} {lo b most : Nat} {c : EdC} {m m1 : EdM} {d : Bool} (h : EdAt w lo b c most m) (hT : TL lo w) (hlo : lo ≤ w.heap.size)  :
    Calls Tryz.prog 29 #[.pointer (some ⟨b, 1, none⟩), .int .i64 4] w (EdStep w lo b c most (m.begun.moved (clampN (((m.p.length + wr m.s : Nat) : Int)) (ln m.p m.s))) (!decide (clampN (((m.p.length + wr m.s : Nat) : Int)) (ln m.p m.s) = m.p.length))) := by
  have hb0 : Below w.heap.size w ((w.alloc (.cells #[.pointer (some ⟨b, 1, none⟩)] 61)).alloc (.cells #[.int .i64 4] 30)) := ((Below.refl _ w).alloc (Nat.le_refl _) _).alloc (by simp) _
  have y0 := (Boxed.new w 61 (.pointer (some ⟨b, 1, none⟩))).alloc (.cells #[.int .i64 4] 30)
  have y1 := Boxed.new (w.alloc (.cells #[.pointer (some ⟨b, 1, none⟩)] 61)) 30 (.int .i64 4)
  simp only [World.size_alloc] at y1
  have hbg := ebegin_any (h.below hb0)
  have HBG := Lib.hid hbg
  have HB0 := Lib.hid hb0
  have HY0 := Lib.hid y0
  have HY1 := Lib.hid y1
  have HLT := Lib.hid h.st.lt
  have HTT := Lib.hid (hT.below hb0)
  have hlob := h.lo
  obtain ⟨x, hx⟩ : ∃ x : Nat, x = m.p.length + wr m.s := ⟨_, rfl⟩
  rw [← hx]
  have hf4 : m.p.length ≤ 4096 := by have := h.buf.ln_le; have := h.buf.m4; have := ln_eq m.p m.s; simp only [List.length_append] at this; omega
  have hl4 : ln m.p m.s ≤ 4096 := by have := h.buf.ln_le; have := h.buf.m4; omega
  obtain ⟨f, hf⟩ : ∃ f, f = m.p.length := ⟨_, rfl⟩
  have hcur := fun (W : World) (hW : EdAt W lo b c most m.begun) => (by rw [hx]; exact lwordr_any hW.buf : Calls Tryz.prog 54 #[.agg #[.pointer (some ⟨c.g, 0, none⟩)]] W fun e w' => e = .returned (.int .i64 (x : Nat)) ∧ Below W.heap.size W w')
  have HC := Lib.hid hcur
  have hwk := fun (W : World) (hW : EdAt W lo b c most m.begun) => ewalk_any hW (((x : Nat) : Int))
  have e1 : ln m.begun.p m.begun.s = ln m.p m.s := rfl
  have e2 : m.begun.p.length = f := hf.symm
  rw [e1, e2] at hwk
  rw [← hf]
  generalize hmv : m.begun.moved (clampN (((x : Nat) : Int)) (ln m.p m.s)) = mv at hwk ⊢
  generalize hdd : (!decide (clampN (((x : Nat) : Int)) (ln m.p m.s) = f)) = dd at hwk ⊢
  have HWK := Lib.hid hwk
  clear hb0 y0 y1 h hT hbg hcur hwk hf e1 e2 hmv hdd hx
  go_enter Tryz.func29, Tryz.ntmps29
  go_wp2_with (first
    | (go_at_call 42; refine HBG.out.mono ?_; rintro e w1 ⟨rfl, h1, hc1⟩
       have hn : ∀ k, w.heap.size ≤ k → ¬ one b k := fun k hk e => by have h9 : k = b := e; have := HLT.out; omega
       obtain ⟨hbt, hbk⟩ := trc_new w1 m.kd m.yd m.ki m.fr
       have z0 : Boxed w1 w.heap.size 61 (.pointer (some ⟨b, 1, none⟩)) := hc1.heap HY0.out (hn _ (Nat.le_refl _))
       have z1 : Boxed w1 (w.heap.size + 1) 30 (.int .i64 4) := hc1.heap HY1.out (hn _ (by omega))
       have z0' := box_bel z0 hbt
       have z1' := box_bel z1 hbt
       have k0 := z0'.cell
       have k1 := z1'.cell
       have H1 := Lib.hid (h1.below hbt)
       have kbb := H1.out.cells.1
       have HZ0 := Lib.hid z0'
       have hcw : Chg (one b) w _ := ((Chg.of_below HB0.out).trans hc1 (fun k hk => .inl hk)).trans (Chg.of_below (S := one b) hbt) (fun _ h => .inl h)
       have HCW := Lib.hid hcw
       have HT1 := Lib.hid ((HTT.out.chg hc1 (fun k e => by have h9 : k = b := e; omega)).below hbt)
       have hs1 := hcw.size
       have hws : w1.heap.size ≥ w.heap.size := by have h9 := HB0.out.size; have h8 := hc1.size; omega
       clear hn z0 z1 z0' z1' h1 hc1 hbt hbk hcw))
  go_region_law (first
    | (refine step_call rfl 54 _ _ rfl (enters_of Tryz.func54 (by kernel_rfl) rfl) #[.agg #[.pointer (some ⟨c.g, 0, none⟩)]] (by simp [Act.eval, Act.put]) (HC.out _ (H1.out.below ((Below.refl _ _).drew))) ?_; rintro e w2 ⟨rfl, hb2⟩; refine ⟨_, rfl, ?_⟩
       have hb12 := (Below.drew (Below.refl _ _)).trans hb2
       have H2 := Lib.hid (H1.out.below hb12)
       have kb2 := H2.out.cells.1
       have k02 := (box_bel HZ0.out hb12).cell
       have HB2 := Lib.hid hb12
       clear hb2 hb12)
    | (refine step_call rfl 52 _ _ rfl (enters_of Tryz.func52 (by kernel_rfl) rfl) #[.agg #[.pointer (some ⟨c.g, 0, none⟩)], .int .i64 (((x : Nat) : Int))] (by simp [Act.eval, Act.put]) (HWK.out _ H2.out) ?_; rintro e w3 ⟨rfl, hr⟩; refine ⟨_, rfl, ?_⟩; have HR := Lib.hid (EdR.viac (w := w) (HCW.out.mono (fun k hk => .inl (.inl hk))) (EdR.via HB2.out hr)); clear hr))
  all_goals (go_wp2_with (fail); go_ret; exact ⟨rfl, HR.out⟩)

set_option maxRecDepth 100000 in
set_option maxHeartbeats 4000000 in
theorem do_home {w : World} {lo b most : Nat} {c : EdC} {m m1 : EdM} {d : Bool} (h : EdAt w lo b c most m) (hT : TL lo w) (hlo : lo ≤ w.heap.size)  :
    Calls Tryz.prog 29 #[.pointer (some ⟨b, 1, none⟩), .int .i64 5] w (EdStep w lo b c most (m.begun.moved (clampN (0) (ln m.p m.s))) (!decide (clampN (0) (ln m.p m.s) = m.p.length))) := by
  have hb0 : Below w.heap.size w ((w.alloc (.cells #[.pointer (some ⟨b, 1, none⟩)] 61)).alloc (.cells #[.int .i64 5] 30)) := ((Below.refl _ w).alloc (Nat.le_refl _) _).alloc (by simp) _
  have y0 := (Boxed.new w 61 (.pointer (some ⟨b, 1, none⟩))).alloc (.cells #[.int .i64 5] 30)
  have y1 := Boxed.new (w.alloc (.cells #[.pointer (some ⟨b, 1, none⟩)] 61)) 30 (.int .i64 5)
  simp only [World.size_alloc] at y1
  have hbg := ebegin_any (h.below hb0)
  have HBG := Lib.hid hbg
  have HB0 := Lib.hid hb0
  have HY0 := Lib.hid y0
  have HY1 := Lib.hid y1
  have HLT := Lib.hid h.st.lt
  have HTT := Lib.hid (hT.below hb0)
  have hlob := h.lo
  have hf4 : m.p.length ≤ 4096 := by have := h.buf.ln_le; have := h.buf.m4; have := ln_eq m.p m.s; simp only [List.length_append] at this; omega
  have hl4 : ln m.p m.s ≤ 4096 := by have := h.buf.ln_le; have := h.buf.m4; omega
  obtain ⟨f, hf⟩ : ∃ f, f = m.p.length := ⟨_, rfl⟩
  have hwk := fun (W : World) (hW : EdAt W lo b c most m.begun) => ewalk_any hW (0)
  have e1 : ln m.begun.p m.begun.s = ln m.p m.s := rfl
  have e2 : m.begun.p.length = f := hf.symm
  rw [e1, e2] at hwk
  rw [← hf]
  generalize hmv : m.begun.moved (clampN (0) (ln m.p m.s)) = mv at hwk ⊢
  generalize hdd : (!decide (clampN (0) (ln m.p m.s) = f)) = dd at hwk ⊢
  have HWK := Lib.hid hwk
  clear hb0 y0 y1 h hT hbg hwk hf e1 e2 hmv hdd
  go_enter Tryz.func29, Tryz.ntmps29
  go_wp2_with (first
    | (go_at_call 42; refine HBG.out.mono ?_; rintro e w1 ⟨rfl, h1, hc1⟩
       have hn : ∀ k, w.heap.size ≤ k → ¬ one b k := fun k hk e => by have h9 : k = b := e; have := HLT.out; omega
       obtain ⟨hbt, hbk⟩ := trc_new w1 m.kd m.yd m.ki m.fr
       have z0 : Boxed w1 w.heap.size 61 (.pointer (some ⟨b, 1, none⟩)) := hc1.heap HY0.out (hn _ (Nat.le_refl _))
       have z1 : Boxed w1 (w.heap.size + 1) 30 (.int .i64 5) := hc1.heap HY1.out (hn _ (by omega))
       have z0' := box_bel z0 hbt
       have z1' := box_bel z1 hbt
       have k0 := z0'.cell
       have k1 := z1'.cell
       have H1 := Lib.hid (h1.below hbt)
       have kbb := H1.out.cells.1
       have HZ0 := Lib.hid z0'
       have hcw : Chg (one b) w _ := ((Chg.of_below HB0.out).trans hc1 (fun k hk => .inl hk)).trans (Chg.of_below (S := one b) hbt) (fun _ h => .inl h)
       have HCW := Lib.hid hcw
       have HT1 := Lib.hid ((HTT.out.chg hc1 (fun k e => by have h9 : k = b := e; omega)).below hbt)
       have hs1 := hcw.size
       have hws : w1.heap.size ≥ w.heap.size := by have h9 := HB0.out.size; have h8 := hc1.size; omega
       clear hn z0 z1 z0' z1' h1 hc1 hbt hbk hcw)
    | (go_at_call 52; refine (HWK.out _ H1.out).mono ?_; rintro e w3 ⟨rfl, hr⟩; have HR := Lib.hid (EdR.viac (w := w) (HCW.out.mono (fun k hk => .inl (.inl hk))) hr); clear hr))
  go_ret
  exact ⟨rfl, HR.out⟩

set_option maxRecDepth 100000 in
set_option maxHeartbeats 4000000 in
theorem do_end {w : World} {lo b most : Nat} {c : EdC} {m m1 : EdM} {d : Bool} (h : EdAt w lo b c most m) (hT : TL lo w) (hlo : lo ≤ w.heap.size)  :
    Calls Tryz.prog 29 #[.pointer (some ⟨b, 1, none⟩), .int .i64 6] w (EdStep w lo b c most (m.begun.moved (clampN (((ln m.p m.s : Nat) : Int)) (ln m.p m.s))) (!decide (clampN (((ln m.p m.s : Nat) : Int)) (ln m.p m.s) = m.p.length))) := by
  have hb0 : Below w.heap.size w ((w.alloc (.cells #[.pointer (some ⟨b, 1, none⟩)] 61)).alloc (.cells #[.int .i64 6] 30)) := ((Below.refl _ w).alloc (Nat.le_refl _) _).alloc (by simp) _
  have y0 := (Boxed.new w 61 (.pointer (some ⟨b, 1, none⟩))).alloc (.cells #[.int .i64 6] 30)
  have y1 := Boxed.new (w.alloc (.cells #[.pointer (some ⟨b, 1, none⟩)] 61)) 30 (.int .i64 6)
  simp only [World.size_alloc] at y1
  have hbg := ebegin_any (h.below hb0)
  have HBG := Lib.hid hbg
  have HB0 := Lib.hid hb0
  have HY0 := Lib.hid y0
  have HY1 := Lib.hid y1
  have HLT := Lib.hid h.st.lt
  have HTT := Lib.hid (hT.below hb0)
  have hlob := h.lo
  obtain ⟨x, hx⟩ : ∃ x : Nat, x = ln m.p m.s := ⟨_, rfl⟩
  rw [show ((ln m.p m.s : Nat) : Int) = ((x : Nat) : Int) by rw [hx]]
  have hf4 : m.p.length ≤ 4096 := by have := h.buf.ln_le; have := h.buf.m4; have := ln_eq m.p m.s; simp only [List.length_append] at this; omega
  have hl4 : ln m.p m.s ≤ 4096 := by have := h.buf.ln_le; have := h.buf.m4; omega
  obtain ⟨f, hf⟩ : ∃ f, f = m.p.length := ⟨_, rfl⟩
  have hcur := fun (W : World) (hW : EdAt W lo b c most m.begun) => (by rw [hx]; exact glen_any hW.buf : Calls Tryz.prog 32 #[.pointer (some ⟨c.g, 0, none⟩)] W fun e w' => e = .returned (.int .i64 (x : Nat)) ∧ Below W.heap.size W w')
  have HC := Lib.hid hcur
  have hwk := fun (W : World) (hW : EdAt W lo b c most m.begun) => ewalk_any hW (((x : Nat) : Int))
  have e1 : ln m.begun.p m.begun.s = ln m.p m.s := rfl
  have e2 : m.begun.p.length = f := hf.symm
  rw [e1, e2] at hwk
  rw [← hf]
  generalize hmv : m.begun.moved (clampN (((x : Nat) : Int)) (ln m.p m.s)) = mv at hwk ⊢
  generalize hdd : (!decide (clampN (((x : Nat) : Int)) (ln m.p m.s) = f)) = dd at hwk ⊢
  have HWK := Lib.hid hwk
  clear hb0 y0 y1 h hT hbg hcur hwk hf e1 e2 hmv hdd hx
  go_enter Tryz.func29, Tryz.ntmps29
  go_wp2_with (first
    | (go_at_call 42; refine HBG.out.mono ?_; rintro e w1 ⟨rfl, h1, hc1⟩
       have hn : ∀ k, w.heap.size ≤ k → ¬ one b k := fun k hk e => by have h9 : k = b := e; have := HLT.out; omega
       obtain ⟨hbt, hbk⟩ := trc_new w1 m.kd m.yd m.ki m.fr
       have z0 : Boxed w1 w.heap.size 61 (.pointer (some ⟨b, 1, none⟩)) := hc1.heap HY0.out (hn _ (Nat.le_refl _))
       have z1 : Boxed w1 (w.heap.size + 1) 30 (.int .i64 6) := hc1.heap HY1.out (hn _ (by omega))
       have z0' := box_bel z0 hbt
       have z1' := box_bel z1 hbt
       have k0 := z0'.cell
       have k1 := z1'.cell
       have H1 := Lib.hid (h1.below hbt)
       have kbb := H1.out.cells.1
       have HZ0 := Lib.hid z0'
       have hcw : Chg (one b) w _ := ((Chg.of_below HB0.out).trans hc1 (fun k hk => .inl hk)).trans (Chg.of_below (S := one b) hbt) (fun _ h => .inl h)
       have HCW := Lib.hid hcw
       have HT1 := Lib.hid ((HTT.out.chg hc1 (fun k e => by have h9 : k = b := e; omega)).below hbt)
       have hs1 := hcw.size
       have hws : w1.heap.size ≥ w.heap.size := by have h9 := HB0.out.size; have h8 := hc1.size; omega
       clear hn z0 z1 z0' z1' h1 hc1 hbt hbk hcw))
  go_region_law (first
    | (refine step_call rfl 32 _ _ rfl (enters_of Tryz.func32 (by kernel_rfl) rfl) #[.pointer (some ⟨c.g, 0, none⟩)] (by simp [Act.eval, Act.put]) (HC.out _ (H1.out.below ((Below.refl _ _).drew))) ?_; rintro e w2 ⟨rfl, hb2⟩; refine ⟨_, rfl, ?_⟩
       have hb12 := (Below.drew (Below.refl _ _)).trans hb2
       have H2 := Lib.hid (H1.out.below hb12)
       have kb2 := H2.out.cells.1
       have k02 := (box_bel HZ0.out hb12).cell
       have HB2 := Lib.hid hb12
       clear hb2 hb12)
    | (refine step_call rfl 52 _ _ rfl (enters_of Tryz.func52 (by kernel_rfl) rfl) #[.agg #[.pointer (some ⟨c.g, 0, none⟩)], .int .i64 (((x : Nat) : Int))] (by simp [Act.eval, Act.put]) (HWK.out _ H2.out) ?_; rintro e w3 ⟨rfl, hr⟩; refine ⟨_, rfl, ?_⟩; have HR := Lib.hid (EdR.viac (w := w) (HCW.out.mono (fun k hk => .inl (.inl hk))) (EdR.via HB2.out hr)); clear hr))
  all_goals (go_wp2_with (fail); go_ret; exact ⟨rfl, HR.out⟩)
end Go.Proofs.YtfhfhjcdeeepbaaGreatDoor
