/-
  Walks: what an editor that nobody made does: Insert, Do; what it tells.
-/
import Derived.Test.YtfhfhjcdeeepbaaGreatDoorEdNob4
namespace Go.Proofs.YtfhfhjcdeeepbaaGreatDoor
open Go.RowKit Go.Shelf Go.Sort
set_option linter.unusedVariables false
set_option linter.unusedSimpArgs false
set_option maxRecDepth 100000

theorem begin_none {w : World} {b : Nat} (h : StN w b) :
    Calls Tryz.prog 42 #[.pointer (some ⟨b, 0, none⟩)] w fun e w' => e = .returned (.agg #[.bool false, .bool false, .int .i64 0, .int .i64 0]) ∧ StN w' b ∧ Chg (one b) w w' :=
  begin_any w b 0 50 [] (.pointer none) (.slice none 0 0) (.slice none 0 0) false false 0 0 rfl h
theorem stN_new (w : World) : StN (w.alloc (.cells (stc false false 0 0).toArray 50)) w.heap.size := by
  have := Blk.new w 50 (stc false false 0 0)
  simpa using this
/-- what a call on a state leaves -/
def FalC (b : Nat) (w : World) (e : Ending) (w' : World) : Prop := e = .returned (.bool false) ∧ Chg (one b) w w'
theorem FalC.bel {w w' : World} {e : Ending} (h : FalC w.heap.size (w.alloc (.cells (stc false false 0 0).toArray 50)) e w') : e = .returned (.bool false) ∧ Below w.heap.size w w' :=
  ⟨h.1, ((Below.refl _ w).alloc (Nat.le_refl _) (.cells (stc false false 0 0).toArray 50)).trans (h.2.below (by simp) (fun k hk => Nat.le_of_eq (show k = w.heap.size from hk).symm))⟩

set_option maxHeartbeats 2000000 in
theorem inscN {W : World} {b : Nat} (h : StN W b) (hT : Tabs W) (x : ByteArray) (hx : x.size ≤ 4000000) (hfl : (flatB x.data.toList).length ≤ 4000000) (h1 h2 : Nat) (hb1 : Boxed W h1 61 (.pointer (some ⟨b, 0, none⟩))) (hb2 : Boxed W h2 9 (.string x)) :
    Calls Tryz.prog 44 #[.pointer (some ⟨h1, 0, none⟩), .pointer (some ⟨h2, 0, none⟩)] W fun e w' => e = .returned (.bool false) ∧ Below W.heap.size W w' := by
  have k1 := hb1.cell
  have k2 := hb2.cell
  have kb := h.c0
  have hq := enter_none (w := W.drew) (hT.below ((Below.refl _ W).drew)) x hx hfl
  have HQ := Lib.hid hq
  clear hb1 hb2 h hT hx hfl hq
  go_enter Tryz.func44, Tryz.ntmps44
  go_wp2_with (fail)
  go_region_law (refine step_call rfl 45 _ _ rfl (enters_of Tryz.func45 (by kernel_rfl) rfl) #[.agg #[.pointer none], .string x] (by simp [Act.eval, Act.put]) HQ.out ?_; rintro e w2 ⟨rfl, hr⟩; refine ⟨_, rfl, ?_⟩; have HR := Lib.hid (((Below.refl _ W).drew).trans hr); clear hr)
  all_goals (go_wp2_with (fail); go_ret; exact ⟨rfl, HR.out⟩)

set_option maxHeartbeats 2000000 in
theorem stinsN {w : World} {b : Nat} (h : StN w b) (hT : TL b w) (x : ByteArray) (hx : x.size ≤ 4000000) (hfl : (flatB x.data.toList).length ≤ 4000000) :
    Calls Tryz.prog 27 #[.pointer (some ⟨b, 0, none⟩), .string x] w (FalC b w) := by
  have hb0 : Below w.heap.size w ((w.alloc (.cells #[.pointer (some ⟨b, 0, none⟩)] 61)).alloc (.cells #[.string x] 9)) := ((Below.refl _ w).alloc (Nat.le_refl _) _).alloc (by simp) _
  have y0 := (Boxed.new w 61 (.pointer (some ⟨b, 0, none⟩))).alloc (.cells #[.string x] 9)
  have y1 := Boxed.new (w.alloc (.cells #[.pointer (some ⟨b, 0, none⟩)] 61)) 9 (.string x)
  simp only [World.size_alloc] at y1
  have hq := begin_none (h.bel hb0)
  have HQ := Lib.hid hq
  have HB0 := Lib.hid hb0
  have HY0 := Lib.hid y0
  have HY1 := Lib.hid y1
  have HLT := Lib.hid h.lt
  have HT0 := Lib.hid (hT.below hb0)
  clear hb0 y0 y1 h hT hq
  go_enter Tryz.func27, Tryz.ntmps27
  go_wp2_with (first
    | (go_at_call 42; refine HQ.out.mono ?_; rintro e w1 ⟨rfl, h1, hc1⟩
       have hn : ∀ k, w.heap.size ≤ k → ¬ one b k := fun k hk e => by have h9 : k = b := e; have := HLT.out; omega
       have z0 : Boxed w1 w.heap.size 61 (.pointer (some ⟨b, 0, none⟩)) := hc1.heap HY0.out (hn _ (Nat.le_refl _))
       have z1 : Boxed w1 (w.heap.size + 1) 9 (.string x) := hc1.heap HY1.out (hn _ (by omega))
       have k0 := z0.cell
       have kk := z1.cell
       have kb1 := h1.c0
       have HZ0 := Lib.hid z0
       have HZ1 := Lib.hid z1
       have H1 := Lib.hid h1
       have HC1 := Lib.hid ((Chg.of_below HB0.out).trans hc1 (S' := one b) (fun k hk => .inl hk))
       have HT1 := Lib.hid (HT0.out.chg hc1 (fun k e => Nat.le_of_eq (show k = b from e).symm))
       clear hn z0 z1 h1 hc1)
    | (go_at_call 43; refine (edit_none H1.out 44 #[.pointer (some ⟨w.heap.size, 0, none⟩), .pointer (some ⟨w.heap.size + 1, 0, none⟩)] (enters_of Tryz.func44 (by kernel_rfl) rfl)
          (fun V hV => inscN (H1.out.bel hV) (HT1.out.tb.below hV) x hx hfl w.heap.size (w.heap.size + 1) (box_bel HZ0.out hV) (box_bel HZ1.out hV))).mono ?_
       rintro e w2 ⟨rfl, hr⟩
       have HR := Lib.hid (HC1.out.trans (Chg.of_below (S := one b) hr) (fun _ h => .inl h))
       clear hr))
  go_ret
  exact ⟨rfl, HR.out⟩

set_option maxHeartbeats 2000000 in
theorem docN {W : World} {b : Nat} (h : StN W b) (a : Int) (h1 h2 h3 : Nat) (hb1 : Boxed W h1 61 (.pointer (some ⟨b, 0, none⟩))) (hb2 : Boxed W h2 30 (.int .i64 a)) (hb3 : Blk W h3 48 (trc false false 0 0)) :
    Calls Tryz.prog 56 #[.pointer (some ⟨h1, 0, none⟩), .pointer (some ⟨h2, 0, none⟩), .pointer (some ⟨h3, 0, none⟩)] W fun e w' => e = .returned (.bool false) ∧ Below W.heap.size W w' := by
  have k1 := hb1.cell
  have k2 := hb2.cell
  have z0 : W.cell? ⟨h3, 0, none⟩ = some (.bool false) := hb3.cell 0
  have z1 : W.cell? ⟨h3, 1, none⟩ = some (.bool false) := hb3.cell 1
  have z2 : W.cell? ⟨h3, 2, none⟩ = some (.int .i64 0) := hb3.cell 2
  have z3 : W.cell? ⟨h3, 3, none⟩ = some (.int .i64 0) := hb3.cell 3
  have HQ := Lib.hid (change_none h a)
  clear hb1 hb2 hb3 h
  go_enter Tryz.func56, Tryz.ntmps56
  go_wp2_with (go_at_call 57; refine HQ.out.mono ?_; rintro e w2 ⟨rfl, hr⟩; have HR := Lib.hid hr; clear hr)
  go_ret
  exact ⟨rfl, HR.out⟩

set_option maxHeartbeats 4000000 in
theorem doN_1 {w : World} {b : Nat} (h : StN w b)  :
    Calls Tryz.prog 29 #[.pointer (some ⟨b, 0, none⟩), .int .i64 1] w (FalC b w) := by
  have hb0 : Below w.heap.size w ((w.alloc (.cells #[.pointer (some ⟨b, 0, none⟩)] 61)).alloc (.cells #[.int .i64 1] 30)) := ((Below.refl _ w).alloc (Nat.le_refl _) _).alloc (by simp) _
  have y0 := (Boxed.new w 61 (.pointer (some ⟨b, 0, none⟩))).alloc (.cells #[.int .i64 1] 30)
  have y1 := Boxed.new (w.alloc (.cells #[.pointer (some ⟨b, 0, none⟩)] 61)) 30 (.int .i64 1)
  simp only [World.size_alloc] at y1
  have hq := begin_none (h.bel hb0)
  have HQ := Lib.hid hq
  have HB0 := Lib.hid hb0
  have HY0 := Lib.hid y0
  have HY1 := Lib.hid y1
  have HLT := Lib.hid h.lt
  clear hb0 y0 y1 h hq
  go_enter Tryz.func29, Tryz.ntmps29
  go_wp2_with (first
    | (go_at_call 42; refine HQ.out.mono ?_; rintro e w1 ⟨rfl, h1, hc1⟩
       have hn : ∀ k, w.heap.size ≤ k → ¬ one b k := fun k hk e => by have h9 : k = b := e; have := HLT.out; omega
       have z0 : Boxed w1 w.heap.size 61 (.pointer (some ⟨b, 0, none⟩)) := hc1.heap HY0.out (hn _ (Nat.le_refl _))
       have z1 : Boxed w1 (w.heap.size + 1) 30 (.int .i64 1) := hc1.heap HY1.out (hn _ (by omega))
       obtain ⟨hbt, hbk⟩ := trc_new w1 false false 0 0
       have q0 := (box_bel z0 hbt).cell
       have q1 := (box_bel z1 hbt).cell
       have qs := h1.bel hbt
       have qb := qs.c0
       have HQS := Lib.hid qs
       have HBT := Lib.hid hbt
       have HBK := Lib.hid hbk
       have HZ0t := Lib.hid (box_bel z0 hbt)
       have HZ1t := Lib.hid (box_bel z1 hbt)
       have k0 := z0.cell
       have kk := z1.cell
       have kb1 := h1.c0
       have HZ0 := Lib.hid z0
       have HZ1 := Lib.hid z1
       have H1 := Lib.hid h1
       have HC1 := Lib.hid ((Chg.of_below HB0.out).trans hc1 (S' := one b) (fun k hk => .inl hk))
       clear hn z0 z1 h1 hc1 hbt hbk qs))
  go_region_law (first
    | (refine step_call rfl 26 _ _ rfl (enters_of Tryz.func26 (by kernel_rfl) rfl) #[.pointer none] (by simp [Act.eval, Act.put]) (gcursN _) ?_; rintro e w2 ⟨rfl, hb2⟩; refine ⟨_, rfl, ?_⟩
       have hb12 := (Below.drew (Below.refl _ _)).trans hb2
       have qb2 := (HQS.out.bel hb12).c0
       have q02 := (box_bel HZ0t.out hb12).cell
       have HB2 := Lib.hid hb12
       clear hb2 hb12)
    | (refine step_call rfl 52 _ _ rfl (enters_of Tryz.func52 (by kernel_rfl) rfl) #[.agg #[.pointer none], .int .i64 (-1)] (by simp [Act.eval, Act.put]; exact IntWalk.i64_in _ (by omega)) (lwalk_none _ _) ?_; rintro e w3 ⟨rfl, hr⟩; refine ⟨_, rfl, ?_⟩; have HR := Lib.hid (HB2.out.trans (hr.mono HB2.out.size)); clear hr))
  all_goals
    go_wp2_with (fail)
    go_ret
    exact ⟨rfl, (HC1.out.trans (Chg.of_below (S := one b) HBT.out) (fun _ h => .inl h)).trans (Chg.of_below (S := one b) HR.out) (fun _ h => .inl h)⟩

set_option maxHeartbeats 4000000 in
theorem doN_2 {w : World} {b : Nat} (h : StN w b)  :
    Calls Tryz.prog 29 #[.pointer (some ⟨b, 0, none⟩), .int .i64 2] w (FalC b w) := by
  have hb0 : Below w.heap.size w ((w.alloc (.cells #[.pointer (some ⟨b, 0, none⟩)] 61)).alloc (.cells #[.int .i64 2] 30)) := ((Below.refl _ w).alloc (Nat.le_refl _) _).alloc (by simp) _
  have y0 := (Boxed.new w 61 (.pointer (some ⟨b, 0, none⟩))).alloc (.cells #[.int .i64 2] 30)
  have y1 := Boxed.new (w.alloc (.cells #[.pointer (some ⟨b, 0, none⟩)] 61)) 30 (.int .i64 2)
  simp only [World.size_alloc] at y1
  have hq := begin_none (h.bel hb0)
  have HQ := Lib.hid hq
  have HB0 := Lib.hid hb0
  have HY0 := Lib.hid y0
  have HY1 := Lib.hid y1
  have HLT := Lib.hid h.lt
  clear hb0 y0 y1 h hq
  go_enter Tryz.func29, Tryz.ntmps29
  go_wp2_with (first
    | (go_at_call 42; refine HQ.out.mono ?_; rintro e w1 ⟨rfl, h1, hc1⟩
       have hn : ∀ k, w.heap.size ≤ k → ¬ one b k := fun k hk e => by have h9 : k = b := e; have := HLT.out; omega
       have z0 : Boxed w1 w.heap.size 61 (.pointer (some ⟨b, 0, none⟩)) := hc1.heap HY0.out (hn _ (Nat.le_refl _))
       have z1 : Boxed w1 (w.heap.size + 1) 30 (.int .i64 2) := hc1.heap HY1.out (hn _ (by omega))
       obtain ⟨hbt, hbk⟩ := trc_new w1 false false 0 0
       have q0 := (box_bel z0 hbt).cell
       have q1 := (box_bel z1 hbt).cell
       have qs := h1.bel hbt
       have qb := qs.c0
       have HQS := Lib.hid qs
       have HBT := Lib.hid hbt
       have HBK := Lib.hid hbk
       have HZ0t := Lib.hid (box_bel z0 hbt)
       have HZ1t := Lib.hid (box_bel z1 hbt)
       have k0 := z0.cell
       have kk := z1.cell
       have kb1 := h1.c0
       have HZ0 := Lib.hid z0
       have HZ1 := Lib.hid z1
       have H1 := Lib.hid h1
       have HC1 := Lib.hid ((Chg.of_below HB0.out).trans hc1 (S' := one b) (fun k hk => .inl hk))
       clear hn z0 z1 h1 hc1 hbt hbk qs))
  go_region_law (first
    | (refine step_call rfl 26 _ _ rfl (enters_of Tryz.func26 (by kernel_rfl) rfl) #[.pointer none] (by simp [Act.eval, Act.put]) (gcursN _) ?_; rintro e w2 ⟨rfl, hb2⟩; refine ⟨_, rfl, ?_⟩
       have hb12 := (Below.drew (Below.refl _ _)).trans hb2
       have qb2 := (HQS.out.bel hb12).c0
       have q02 := (box_bel HZ0t.out hb12).cell
       have HB2 := Lib.hid hb12
       clear hb2 hb12)
    | (refine step_call rfl 52 _ _ rfl (enters_of Tryz.func52 (by kernel_rfl) rfl) #[.agg #[.pointer none], .int .i64 1] (by simp [Act.eval, Act.put]; exact IntWalk.i64_in _ (by omega)) (lwalk_none _ _) ?_; rintro e w3 ⟨rfl, hr⟩; refine ⟨_, rfl, ?_⟩; have HR := Lib.hid (HB2.out.trans (hr.mono HB2.out.size)); clear hr))
  all_goals
    go_wp2_with (fail)
    go_ret
    exact ⟨rfl, (HC1.out.trans (Chg.of_below (S := one b) HBT.out) (fun _ h => .inl h)).trans (Chg.of_below (S := one b) HR.out) (fun _ h => .inl h)⟩

set_option maxHeartbeats 4000000 in
theorem doN_3 {w : World} {b : Nat} (h : StN w b)  :
    Calls Tryz.prog 29 #[.pointer (some ⟨b, 0, none⟩), .int .i64 3] w (FalC b w) := by
  have hb0 : Below w.heap.size w ((w.alloc (.cells #[.pointer (some ⟨b, 0, none⟩)] 61)).alloc (.cells #[.int .i64 3] 30)) := ((Below.refl _ w).alloc (Nat.le_refl _) _).alloc (by simp) _
  have y0 := (Boxed.new w 61 (.pointer (some ⟨b, 0, none⟩))).alloc (.cells #[.int .i64 3] 30)
  have y1 := Boxed.new (w.alloc (.cells #[.pointer (some ⟨b, 0, none⟩)] 61)) 30 (.int .i64 3)
  simp only [World.size_alloc] at y1
  have hq := begin_none (h.bel hb0)
  have HQ := Lib.hid hq
  have HB0 := Lib.hid hb0
  have HY0 := Lib.hid y0
  have HY1 := Lib.hid y1
  have HLT := Lib.hid h.lt
  clear hb0 y0 y1 h hq
  go_enter Tryz.func29, Tryz.ntmps29
  go_wp2_with (first
    | (go_at_call 42; refine HQ.out.mono ?_; rintro e w1 ⟨rfl, h1, hc1⟩
       have hn : ∀ k, w.heap.size ≤ k → ¬ one b k := fun k hk e => by have h9 : k = b := e; have := HLT.out; omega
       have z0 : Boxed w1 w.heap.size 61 (.pointer (some ⟨b, 0, none⟩)) := hc1.heap HY0.out (hn _ (Nat.le_refl _))
       have z1 : Boxed w1 (w.heap.size + 1) 30 (.int .i64 3) := hc1.heap HY1.out (hn _ (by omega))
       obtain ⟨hbt, hbk⟩ := trc_new w1 false false 0 0
       have q0 := (box_bel z0 hbt).cell
       have q1 := (box_bel z1 hbt).cell
       have qs := h1.bel hbt
       have qb := qs.c0
       have HQS := Lib.hid qs
       have HBT := Lib.hid hbt
       have HBK := Lib.hid hbk
       have HZ0t := Lib.hid (box_bel z0 hbt)
       have HZ1t := Lib.hid (box_bel z1 hbt)
       have k0 := z0.cell
       have kk := z1.cell
       have kb1 := h1.c0
       have HZ0 := Lib.hid z0
       have HZ1 := Lib.hid z1
       have H1 := Lib.hid h1
       have HC1 := Lib.hid ((Chg.of_below HB0.out).trans hc1 (S' := one b) (fun k hk => .inl hk))
       clear hn z0 z1 h1 hc1 hbt hbk qs))
  go_region_law (first
    | (refine step_call rfl 53 _ _ rfl (enters_of Tryz.func53 (by kernel_rfl) rfl) #[.agg #[.pointer none]] (by simp [Act.eval, Act.put]) (lwordl_none _) ?_; rintro e w2 ⟨rfl, hb2⟩; refine ⟨_, rfl, ?_⟩
       have hb12 := (Below.drew (Below.refl _ _)).trans hb2
       have qb2 := (HQS.out.bel hb12).c0
       have q02 := (box_bel HZ0t.out hb12).cell
       have HB2 := Lib.hid hb12
       clear hb2 hb12)
    | (refine step_call rfl 52 _ _ rfl (enters_of Tryz.func52 (by kernel_rfl) rfl) #[.agg #[.pointer none], .int .i64 0] (by simp [Act.eval, Act.put]) (lwalk_none _ _) ?_; rintro e w3 ⟨rfl, hr⟩; refine ⟨_, rfl, ?_⟩; have HR := Lib.hid (HB2.out.trans (hr.mono HB2.out.size)); clear hr))
  all_goals
    go_wp2_with (fail)
    go_ret
    exact ⟨rfl, (HC1.out.trans (Chg.of_below (S := one b) HBT.out) (fun _ h => .inl h)).trans (Chg.of_below (S := one b) HR.out) (fun _ h => .inl h)⟩

set_option maxHeartbeats 4000000 in
theorem doN_4 {w : World} {b : Nat} (h : StN w b)  :
    Calls Tryz.prog 29 #[.pointer (some ⟨b, 0, none⟩), .int .i64 4] w (FalC b w) := by
  have hb0 : Below w.heap.size w ((w.alloc (.cells #[.pointer (some ⟨b, 0, none⟩)] 61)).alloc (.cells #[.int .i64 4] 30)) := ((Below.refl _ w).alloc (Nat.le_refl _) _).alloc (by simp) _
  have y0 := (Boxed.new w 61 (.pointer (some ⟨b, 0, none⟩))).alloc (.cells #[.int .i64 4] 30)
  have y1 := Boxed.new (w.alloc (.cells #[.pointer (some ⟨b, 0, none⟩)] 61)) 30 (.int .i64 4)
  simp only [World.size_alloc] at y1
  have hq := begin_none (h.bel hb0)
  have HQ := Lib.hid hq
  have HB0 := Lib.hid hb0
  have HY0 := Lib.hid y0
  have HY1 := Lib.hid y1
  have HLT := Lib.hid h.lt
  clear hb0 y0 y1 h hq
  go_enter Tryz.func29, Tryz.ntmps29
  go_wp2_with (first
    | (go_at_call 42; refine HQ.out.mono ?_; rintro e w1 ⟨rfl, h1, hc1⟩
       have hn : ∀ k, w.heap.size ≤ k → ¬ one b k := fun k hk e => by have h9 : k = b := e; have := HLT.out; omega
       have z0 : Boxed w1 w.heap.size 61 (.pointer (some ⟨b, 0, none⟩)) := hc1.heap HY0.out (hn _ (Nat.le_refl _))
       have z1 : Boxed w1 (w.heap.size + 1) 30 (.int .i64 4) := hc1.heap HY1.out (hn _ (by omega))
       obtain ⟨hbt, hbk⟩ := trc_new w1 false false 0 0
       have q0 := (box_bel z0 hbt).cell
       have q1 := (box_bel z1 hbt).cell
       have qs := h1.bel hbt
       have qb := qs.c0
       have HQS := Lib.hid qs
       have HBT := Lib.hid hbt
       have HBK := Lib.hid hbk
       have HZ0t := Lib.hid (box_bel z0 hbt)
       have HZ1t := Lib.hid (box_bel z1 hbt)
       have k0 := z0.cell
       have kk := z1.cell
       have kb1 := h1.c0
       have HZ0 := Lib.hid z0
       have HZ1 := Lib.hid z1
       have H1 := Lib.hid h1
       have HC1 := Lib.hid ((Chg.of_below HB0.out).trans hc1 (S' := one b) (fun k hk => .inl hk))
       clear hn z0 z1 h1 hc1 hbt hbk qs))
  go_region_law (first
    | (refine step_call rfl 54 _ _ rfl (enters_of Tryz.func54 (by kernel_rfl) rfl) #[.agg #[.pointer none]] (by simp [Act.eval, Act.put]) (lwordr_none _) ?_; rintro e w2 ⟨rfl, hb2⟩; refine ⟨_, rfl, ?_⟩
       have hb12 := (Below.drew (Below.refl _ _)).trans hb2
       have qb2 := (HQS.out.bel hb12).c0
       have q02 := (box_bel HZ0t.out hb12).cell
       have HB2 := Lib.hid hb12
       clear hb2 hb12)
    | (refine step_call rfl 52 _ _ rfl (enters_of Tryz.func52 (by kernel_rfl) rfl) #[.agg #[.pointer none], .int .i64 0] (by simp [Act.eval, Act.put]) (lwalk_none _ _) ?_; rintro e w3 ⟨rfl, hr⟩; refine ⟨_, rfl, ?_⟩; have HR := Lib.hid (HB2.out.trans (hr.mono HB2.out.size)); clear hr))
  all_goals
    go_wp2_with (fail)
    go_ret
    exact ⟨rfl, (HC1.out.trans (Chg.of_below (S := one b) HBT.out) (fun _ h => .inl h)).trans (Chg.of_below (S := one b) HR.out) (fun _ h => .inl h)⟩

set_option maxHeartbeats 4000000 in
theorem doN_5 {w : World} {b : Nat} (h : StN w b)  :
    Calls Tryz.prog 29 #[.pointer (some ⟨b, 0, none⟩), .int .i64 5] w (FalC b w) := by
  have hb0 : Below w.heap.size w ((w.alloc (.cells #[.pointer (some ⟨b, 0, none⟩)] 61)).alloc (.cells #[.int .i64 5] 30)) := ((Below.refl _ w).alloc (Nat.le_refl _) _).alloc (by simp) _
  have y0 := (Boxed.new w 61 (.pointer (some ⟨b, 0, none⟩))).alloc (.cells #[.int .i64 5] 30)
  have y1 := Boxed.new (w.alloc (.cells #[.pointer (some ⟨b, 0, none⟩)] 61)) 30 (.int .i64 5)
  simp only [World.size_alloc] at y1
  have hq := begin_none (h.bel hb0)
  have HQ := Lib.hid hq
  have HB0 := Lib.hid hb0
  have HY0 := Lib.hid y0
  have HY1 := Lib.hid y1
  have HLT := Lib.hid h.lt
  clear hb0 y0 y1 h hq
  go_enter Tryz.func29, Tryz.ntmps29
  go_wp2_with (first
    | (go_at_call 42; refine HQ.out.mono ?_; rintro e w1 ⟨rfl, h1, hc1⟩
       have hn : ∀ k, w.heap.size ≤ k → ¬ one b k := fun k hk e => by have h9 : k = b := e; have := HLT.out; omega
       have z0 : Boxed w1 w.heap.size 61 (.pointer (some ⟨b, 0, none⟩)) := hc1.heap HY0.out (hn _ (Nat.le_refl _))
       have z1 : Boxed w1 (w.heap.size + 1) 30 (.int .i64 5) := hc1.heap HY1.out (hn _ (by omega))
       obtain ⟨hbt, hbk⟩ := trc_new w1 false false 0 0
       have q0 := (box_bel z0 hbt).cell
       have q1 := (box_bel z1 hbt).cell
       have qs := h1.bel hbt
       have qb := qs.c0
       have HQS := Lib.hid qs
       have HBT := Lib.hid hbt
       have HBK := Lib.hid hbk
       have HZ0t := Lib.hid (box_bel z0 hbt)
       have HZ1t := Lib.hid (box_bel z1 hbt)
       have k0 := z0.cell
       have kk := z1.cell
       have kb1 := h1.c0
       have HZ0 := Lib.hid z0
       have HZ1 := Lib.hid z1
       have H1 := Lib.hid h1
       have HC1 := Lib.hid ((Chg.of_below HB0.out).trans hc1 (S' := one b) (fun k hk => .inl hk))
       clear hn z0 z1 h1 hc1 hbt hbk qs)
    | (go_at_call 52; refine (lwalk_none _ _).mono ?_; rintro e w3 ⟨rfl, hr⟩; have HR := Lib.hid hr; clear hr))
  go_ret
  exact ⟨rfl, (HC1.out.trans (Chg.of_below (S := one b) HBT.out) (fun _ h => .inl h)).trans (Chg.of_below (S := one b) HR.out) (fun _ h => .inl h)⟩

set_option maxHeartbeats 4000000 in
theorem doN_6 {w : World} {b : Nat} (h : StN w b)  :
    Calls Tryz.prog 29 #[.pointer (some ⟨b, 0, none⟩), .int .i64 6] w (FalC b w) := by
  have hb0 : Below w.heap.size w ((w.alloc (.cells #[.pointer (some ⟨b, 0, none⟩)] 61)).alloc (.cells #[.int .i64 6] 30)) := ((Below.refl _ w).alloc (Nat.le_refl _) _).alloc (by simp) _
  have y0 := (Boxed.new w 61 (.pointer (some ⟨b, 0, none⟩))).alloc (.cells #[.int .i64 6] 30)
  have y1 := Boxed.new (w.alloc (.cells #[.pointer (some ⟨b, 0, none⟩)] 61)) 30 (.int .i64 6)
  simp only [World.size_alloc] at y1
  have hq := begin_none (h.bel hb0)
  have HQ := Lib.hid hq
  have HB0 := Lib.hid hb0
  have HY0 := Lib.hid y0
  have HY1 := Lib.hid y1
  have HLT := Lib.hid h.lt
  clear hb0 y0 y1 h hq
  go_enter Tryz.func29, Tryz.ntmps29
  go_wp2_with (first
    | (go_at_call 42; refine HQ.out.mono ?_; rintro e w1 ⟨rfl, h1, hc1⟩
       have hn : ∀ k, w.heap.size ≤ k → ¬ one b k := fun k hk e => by have h9 : k = b := e; have := HLT.out; omega
       have z0 : Boxed w1 w.heap.size 61 (.pointer (some ⟨b, 0, none⟩)) := hc1.heap HY0.out (hn _ (Nat.le_refl _))
       have z1 : Boxed w1 (w.heap.size + 1) 30 (.int .i64 6) := hc1.heap HY1.out (hn _ (by omega))
       obtain ⟨hbt, hbk⟩ := trc_new w1 false false 0 0
       have q0 := (box_bel z0 hbt).cell
       have q1 := (box_bel z1 hbt).cell
       have qs := h1.bel hbt
       have qb := qs.c0
       have HQS := Lib.hid qs
       have HBT := Lib.hid hbt
       have HBK := Lib.hid hbk
       have HZ0t := Lib.hid (box_bel z0 hbt)
       have HZ1t := Lib.hid (box_bel z1 hbt)
       have k0 := z0.cell
       have kk := z1.cell
       have kb1 := h1.c0
       have HZ0 := Lib.hid z0
       have HZ1 := Lib.hid z1
       have H1 := Lib.hid h1
       have HC1 := Lib.hid ((Chg.of_below HB0.out).trans hc1 (S' := one b) (fun k hk => .inl hk))
       clear hn z0 z1 h1 hc1 hbt hbk qs))
  go_region_law (first
    | (refine step_call rfl 32 _ _ rfl (enters_of Tryz.func32 (by kernel_rfl) rfl) #[.pointer none] (by simp [Act.eval, Act.put]) (glenN _) ?_; rintro e w2 ⟨rfl, hb2⟩; refine ⟨_, rfl, ?_⟩
       have hb12 := (Below.drew (Below.refl _ _)).trans hb2
       have qb2 := (HQS.out.bel hb12).c0
       have q02 := (box_bel HZ0t.out hb12).cell
       have HB2 := Lib.hid hb12
       clear hb2 hb12)
    | (refine step_call rfl 52 _ _ rfl (enters_of Tryz.func52 (by kernel_rfl) rfl) #[.agg #[.pointer none], .int .i64 0] (by simp [Act.eval, Act.put]) (lwalk_none _ _) ?_; rintro e w3 ⟨rfl, hr⟩; refine ⟨_, rfl, ?_⟩; have HR := Lib.hid (HB2.out.trans (hr.mono HB2.out.size)); clear hr))
  all_goals
    go_wp2_with (fail)
    go_ret
    exact ⟨rfl, (HC1.out.trans (Chg.of_below (S := one b) HBT.out) (fun _ h => .inl h)).trans (Chg.of_below (S := one b) HR.out) (fun _ h => .inl h)⟩

set_option maxHeartbeats 4000000 in
theorem doN_15 {w : World} {b : Nat} (h : StN w b)  :
    Calls Tryz.prog 29 #[.pointer (some ⟨b, 0, none⟩), .int .i64 15] w (FalC b w) := by
  have hb0 : Below w.heap.size w ((w.alloc (.cells #[.pointer (some ⟨b, 0, none⟩)] 61)).alloc (.cells #[.int .i64 15] 30)) := ((Below.refl _ w).alloc (Nat.le_refl _) _).alloc (by simp) _
  have y0 := (Boxed.new w 61 (.pointer (some ⟨b, 0, none⟩))).alloc (.cells #[.int .i64 15] 30)
  have y1 := Boxed.new (w.alloc (.cells #[.pointer (some ⟨b, 0, none⟩)] 61)) 30 (.int .i64 15)
  simp only [World.size_alloc] at y1
  have hq := begin_none (h.bel hb0)
  have HQ := Lib.hid hq
  have HB0 := Lib.hid hb0
  have HY0 := Lib.hid y0
  have HY1 := Lib.hid y1
  have HLT := Lib.hid h.lt
  clear hb0 y0 y1 h hq
  go_enter Tryz.func29, Tryz.ntmps29
  go_wp2_with (first
    | (go_at_call 42; refine HQ.out.mono ?_; rintro e w1 ⟨rfl, h1, hc1⟩
       have hn : ∀ k, w.heap.size ≤ k → ¬ one b k := fun k hk e => by have h9 : k = b := e; have := HLT.out; omega
       have z0 : Boxed w1 w.heap.size 61 (.pointer (some ⟨b, 0, none⟩)) := hc1.heap HY0.out (hn _ (Nat.le_refl _))
       have z1 : Boxed w1 (w.heap.size + 1) 30 (.int .i64 15) := hc1.heap HY1.out (hn _ (by omega))
       obtain ⟨hbt, hbk⟩ := trc_new w1 false false 0 0
       have q0 := (box_bel z0 hbt).cell
       have q1 := (box_bel z1 hbt).cell
       have qs := h1.bel hbt
       have qb := qs.c0
       have HQS := Lib.hid qs
       have HBT := Lib.hid hbt
       have HBK := Lib.hid hbk
       have HZ0t := Lib.hid (box_bel z0 hbt)
       have HZ1t := Lib.hid (box_bel z1 hbt)
       have k0 := z0.cell
       have kk := z1.cell
       have kb1 := h1.c0
       have HZ0 := Lib.hid z0
       have HZ1 := Lib.hid z1
       have H1 := Lib.hid h1
       have HC1 := Lib.hid ((Chg.of_below HB0.out).trans hc1 (S' := one b) (fun k hk => .inl hk))
       clear hn z0 z1 h1 hc1 hbt hbk qs)
    | (go_at_call 55; refine (undo_none HQS.out).mono ?_; rintro e w3 ⟨rfl, hr⟩; have HR := Lib.hid hr; clear hr))
  go_ret
  exact ⟨rfl, (HC1.out.trans (Chg.of_below (S := one b) HBT.out) (fun _ h => .inl h)).trans (Chg.of_below (S := one b) HR.out) (fun _ h => .inl h)⟩

set_option maxHeartbeats 4000000 in
theorem doN_any {w : World} {b : Nat} (h : StN w b) (a : Int) (a1 : a ≠ 1) (a2 : a ≠ 2) (a3 : a ≠ 3) (a4 : a ≠ 4) (a5 : a ≠ 5) (a6 : a ≠ 6) (a15 : a ≠ 15) :
    Calls Tryz.prog 29 #[.pointer (some ⟨b, 0, none⟩), .int .i64 a] w (FalC b w) := by
  have hb0 : Below w.heap.size w ((w.alloc (.cells #[.pointer (some ⟨b, 0, none⟩)] 61)).alloc (.cells #[.int .i64 a] 30)) := ((Below.refl _ w).alloc (Nat.le_refl _) _).alloc (by simp) _
  have y0 := (Boxed.new w 61 (.pointer (some ⟨b, 0, none⟩))).alloc (.cells #[.int .i64 a] 30)
  have y1 := Boxed.new (w.alloc (.cells #[.pointer (some ⟨b, 0, none⟩)] 61)) 30 (.int .i64 a)
  simp only [World.size_alloc] at y1
  have hq := begin_none (h.bel hb0)
  have HQ := Lib.hid hq
  have HB0 := Lib.hid hb0
  have HY0 := Lib.hid y0
  have HY1 := Lib.hid y1
  have HLT := Lib.hid h.lt
  clear hb0 y0 y1 h hq
  go_enter Tryz.func29, Tryz.ntmps29
  go_wp2_with (first
    | (go_at_call 42; refine HQ.out.mono ?_; rintro e w1 ⟨rfl, h1, hc1⟩
       have hn : ∀ k, w.heap.size ≤ k → ¬ one b k := fun k hk e => by have h9 : k = b := e; have := HLT.out; omega
       have z0 : Boxed w1 w.heap.size 61 (.pointer (some ⟨b, 0, none⟩)) := hc1.heap HY0.out (hn _ (Nat.le_refl _))
       have z1 : Boxed w1 (w.heap.size + 1) 30 (.int .i64 a) := hc1.heap HY1.out (hn _ (by omega))
       obtain ⟨hbt, hbk⟩ := trc_new w1 false false 0 0
       have q0 := (box_bel z0 hbt).cell
       have q1 := (box_bel z1 hbt).cell
       have qs := h1.bel hbt
       have qb := qs.c0
       have HQS := Lib.hid qs
       have HBT := Lib.hid hbt
       have HBK := Lib.hid hbk
       have HZ0t := Lib.hid (box_bel z0 hbt)
       have HZ1t := Lib.hid (box_bel z1 hbt)
       have k0 := z0.cell
       have kk := z1.cell
       have kb1 := h1.c0
       have HZ0 := Lib.hid z0
       have HZ1 := Lib.hid z1
       have H1 := Lib.hid h1
       have HC1 := Lib.hid ((Chg.of_below HB0.out).trans hc1 (S' := one b) (fun k hk => .inl hk))
       clear hn z0 z1 h1 hc1 hbt hbk qs)
    | (go_at_call 43; refine (edit_none HQS.out 56 #[.pointer (some ⟨w.heap.size, 0, none⟩), .pointer (some ⟨w.heap.size + 1, 0, none⟩), .pointer (some ⟨w1.heap.size, 0, none⟩)] (enters_of Tryz.func56 (by kernel_rfl) rfl)
          (fun V hV => docN (HQS.out.bel hV) a _ _ _ (box_bel HZ0t.out hV) (box_bel HZ1t.out hV) (blk_bel HBK.out hV))).mono ?_
       rintro e w2 ⟨rfl, hr⟩
       have HR := Lib.hid hr
       clear hr))
  go_ret
  exact ⟨rfl, (HC1.out.trans (Chg.of_below (S := one b) HBT.out) (fun _ h => .inl h)).trans (Chg.of_below (S := one b) HR.out) (fun _ h => .inl h)⟩

theorem doN {w : World} {b : Nat} (h : StN w b) (a : Int) :
    Calls Tryz.prog 29 #[.pointer (some ⟨b, 0, none⟩), .int .i64 a] w (FalC b w) := by
  by_cases h1 : a = 1
  · subst h1; exact doN_1 h
  by_cases h2 : a = 2
  · subst h2; exact doN_2 h
  by_cases h3 : a = 3
  · subst h3; exact doN_3 h
  by_cases h4 : a = 4
  · subst h4; exact doN_4 h
  by_cases h5 : a = 5
  · subst h5; exact doN_5 h
  by_cases h6 : a = 6
  · subst h6; exact doN_6 h
  by_cases h15 : a = 15
  · subst h15; exact doN_15 h
  exact doN_any h a h1 h2 h3 h4 h5 h6 h15
end Go.Proofs.YtfhfhjcdeeepbaaGreatDoor
