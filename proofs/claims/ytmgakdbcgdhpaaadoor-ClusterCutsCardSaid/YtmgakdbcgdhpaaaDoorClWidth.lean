/-
  Walks: cluster.Width, cluster.Columns.
-/
import Derived.Test.YtmgakdbcgdhpaaaDoorClCount
import Derived.Deep.QuietTactic
import Derived.BigQuiet
import Derived.IntWalk
import Derived.Test.YtmgakdbcgdhpaaaDoorWdSumM
namespace Go.Proofs.YtmgakdbcgdhpaaaDoor
open Go.RowKit Go.Shelf
attribute [local go_sem] Oper.semAt_some
set_option linter.unusedVariables false

/-- no rune that came has columns -/
def Low (pre : List (Nat × Int)) : Prop := ∀ x ∈ pre, ¬ 0 < ofI x.2
/-- The tables abide what turns no cells that lay. -/
theorem Tabs.own {w w' : World} (h : Tabs w) {row : Option Nat} (hg : w.grownBy w' row) (hr : ∀ r, row = some r → ∃ o : Obj, w.heap[r]? = some o ∧ o.isCells = false) : Tabs w' :=
  ⟨fun k x hx => ⟨cell_kept (h.mt k x hx).1 hg hr, cell_kept (h.mt k x hx).2 hg hr⟩, fun k x hx => ⟨cell_kept (h.wt k x hx).1 hg hr, cell_kept (h.wt k x hx).2 hg hr⟩, Nat.lt_of_lt_of_le h.mg hg.size, Nat.lt_of_lt_of_le h.wg hg.size⟩

set_option maxRecDepth 100000 in
set_option maxHeartbeats 2000000 in
theorem cwidth_any (s : ByteArray) (hs : s.size ≤ 1000000) (w : World) (hT : Tabs w) :
    Calls Tryd.prog 37 #[.string s] w fun e w' => e = .returned (.int .i64 (fw (rs s.data.toList))) ∧ Below w.heap.size w w' := by
  have HT := Lib.hid hT
  clear hT
  generalize hv0 : fw (rs s.data.toList) = v0
  have HV0 := Lib.hid hv0
  clear hv0
  refine (callsIn_wide (n := 5)).1 ?_
  refine callsIn_of_wp_marks Tryd.func37 rfl trivial ?_ rfl
  simp only [Tryd.ntmps37, List.size_toArray, List.length_cons, List.length_nil, Nat.reduceAdd, Nat.reduceSub, Array.replicate_succ, Array.replicate_zero, List.push_toArray, List.append_toArray, List.nil_append, List.cons_append]
  refine wpIn_wide.2 ?_
  go_wp2_with (go_at_call 60; refine (all_any _ _).mono ?_; rintro e w' ⟨rfl, rfl⟩)
  refine (wpIn_wide (n := 5)).1 ?_
  have hB := (Boxed.new w 3 (.int .i64 0)).alloc (.cells #[.string s] 9)
  have hS := Boxed.new (w.alloc (.cells #[.int .i64 0] 3)) 9 (.string s)
  rw [World.size_alloc] at hS
  have hb0 : Below w.heap.size w ((w.alloc (.cells #[.int .i64 0] 3)).alloc (.cells #[.string s] 9)) := ((Below.refl _ w).alloc (Nat.le_refl _) _).alloc (by simp) _
  refine wpIn_rangeFunc_ownG rfl (by omega) (gf := 70) (lb := #[.pointer (some ⟨w.heap.size + 1, 0, none⟩)]) rfl trivial (enters_of Tryd.func70 (by kernel_rfl) rfl)
    (all_stops 4 (by omega) (w.heap.size + 1) w.heap.size s hs _ hS.cell) KpS.t (KpS.b (by simp; omega)) (Below.refl _ _) (fun _ => rfl)
    (fun pre W => ((W.cell? ⟨w.heap.size, 0, none⟩ = some (.int .i64 0) ∧ W.frozen? ⟨w.heap.size, 0, none⟩ = false) ∧ Low pre) ∧ Below w.heap.size w W)
    (fun c pre W => (c = .ret ∧ ∃ v, (pre <+: rnsOf s.data.toList → v = fw (rs s.data.toList)) ∧ W.cell? ⟨w.heap.size, 0, none⟩ = some (.int .i64 v)) ∧ Below w.heap.size w W)
    (OwnFrom.and (Own.from (fun s A B row hs hg hr => ⟨⟨cell_kept hs.1.1 hg hr, (frozen_kept hs.1.1 hg hr).trans hs.1.2⟩, hs.2⟩) _) (ownFrom_below (Nat.le_refl _) (by simp; omega)))
    (fun c => OwnFrom.and (Own.from (fun s A B row hs hg hr => ⟨hs.1, hs.2.elim fun v h => ⟨v, h.1, cell_kept h.2 hg hr⟩⟩) _) (ownFrom_below (Nat.le_refl _) (by simp; omega)))
    ⟨⟨⟨hB.cell, hB.frozen⟩, fun x hx => by cases hx⟩, hb0⟩
    (fun x => { tmps := #[.string s, undef, .pointer (some ⟨w.heap.size, 0, none⟩), undef, .int .i32 x.2, undef, .string s, .func (.func 70) #[] #[.pointer (some ⟨w.heap.size + 1, 0, none⟩)], .int .i64 x.1, .int .i32 x.2, undef, undef, undef, undef, undef], defers := [] }) ?assign ?body ?done ?stop
  case assign =>
    intro l x W K hK
    simp only [encR]
    rw [put_two]
    gi_wp2
    exact hK
  case body =>
    rintro l pre x W ⟨⟨⟨hc, hf⟩, hp⟩, hbW⟩ hlen
    have HP := Lib.hid hp
    have hTW := HT.out.below hbW
    clear hp
    obtain ⟨v, hv⟩ : ∃ v, v = ofI x.2 := ⟨_, rfl⟩
    have HV := Lib.hid hv
    clear hv
    by_cases hx : 0 < v
    · gi_wp2_with (refine ⟨trivial, ?_⟩; gi_at_call 11; refine (CallsIn.inRound l (callsIn_wide.2 (of_any _ _ hTW))).mono ?_; rintro e w1 ⟨rfl, hb1⟩; rw [← HV.out]; have hc1 := (cell_kept hc (grown_of_below hb1) (fun r e => by cases e)); have hf1 := (frozen_kept hc (grown_of_below hb1) (fun r e => by cases e)).trans hf)
      refine ⟨((keeps_of_below hb1).trans (KeepsOthers.setCell _ _ _)).from _, ⟨rfl, v, fun h => ?_, ?_⟩, (hbW.trans (hb1.mono hbW.size)).setCell (p := ⟨w.heap.size, 0, none⟩) (Nat.le_refl _) _⟩
      · obtain ⟨t, ht⟩ := h
        unfold rs
        rw [← ht, List.append_assoc, List.map_append, fw_append _ _ (fun r hr => by obtain ⟨y, hy, rfl⟩ := List.mem_map.1 hr; exact HP.out y hy)]
        simp only [List.cons_append, List.map_cons, fw]
        rw [if_pos (by rw [← HV.out]; exact hx)]
        exact HV.out
      · exact World.cell?_setCell_same' _ _ _ (by rw [hc1]; rfl)
    · have hx' : v ≤ 0 := by omega
      gi_wp2_with (refine ⟨trivial, ?_⟩; gi_at_call 11; refine (CallsIn.inRound l (callsIn_wide.2 (of_any _ _ hTW))).mono ?_; rintro e w1 ⟨rfl, hb1⟩; rw [← HV.out]; have hc1 := (cell_kept hc (grown_of_below hb1) (fun r e => by cases e)); have hf1 := (frozen_kept hc (grown_of_below hb1) (fun r e => by cases e)).trans hf)
      refine ⟨(keeps_of_below hb1).from _, ⟨hb1.mono hbW.size, fun e => (cell_kept e (grown_of_below hb1) (fun r e => by cases e))⟩, ⟨⟨hc1, hf1⟩, fun y hy => ?_⟩, hbW.trans (hb1.mono hbW.size)⟩
      rcases List.mem_append.1 hy with h | h
      · exact HP.out y h
      · simp at h; subst h; rw [← HV.out]; omega
  case done =>
    rintro D ys W hD rfl ⟨⟨⟨hc, hf⟩, hp⟩, hbW⟩ hK
    have h0 : (0 : Int) = v0 := by
      rw [← HV0.out]
      exact (fw_none _ (fun r hr => by obtain ⟨y, hy, rfl⟩ := List.mem_map.1 hr; exact hp y hy)).symm
    subst h0
    clear hp
    go_wp2
    have hK' := (KeepsOthers.setCell W ⟨w.heap.size, 0, none⟩ (.int .i64 0)).same D _ hK rfl
    refine ⟨by simp, .inl ⟨_, _, rfl, run_takeDeferred hK', ?_⟩⟩
    have hc5 := cell_kept (World.cell?_setCell_same' W ⟨w.heap.size, 0, none⟩ (.int .i64 0) (by rw [hc]; rfl)) (grownBy_putObj' _ D (.deferred none)) (fun r e => by cases e; exact ⟨_, hK', rfl⟩)
    refine ⟨.int .i64 0, ?_, rfl, (hbW.setCell (p := ⟨w.heap.size, 0, none⟩) (Nat.le_refl _) _).trans (belowK_b (w := w) (Nat.le_refl _) _ D _ _ (by simp at hD; omega) hK' rfl rfl)⟩
    simp [results, Tryd.f37, go_sem, hc5]
  case stop =>
    rintro D c pre W hD hpre ⟨⟨rfl, v, hv, hc⟩, hbW⟩ hK
    obtain rfl : v = v0 := (hv hpre).trans HV0.out
    clear hv hpre
    gi_wp2
    refine ⟨by simp, .inl ⟨_, _, rfl, run_takeDeferred hK, ?_⟩⟩
    have hc5 := cell_kept hc (grownBy_putObj' _ D (.deferred none)) (fun r e => by cases e; exact ⟨_, hK, rfl⟩)
    refine ⟨.int .i64 v, ?_, rfl, hbW.trans (belowK_b (w := w) (Nat.le_refl _) W D _ _ (by simp at hD; omega) hK rfl rfl)⟩
    simp [results, Tryd.f37, go_sem, hc5]

/-- The five operations of 'columns += width.Of(r)', as far as they have come up. -/
structure RSum (h : Nat) (W : World) (s : ByteArray) (a x : Int) (b0 b1 b2 b3 b4 : Bool) (u10 u11 u12 u13 : Value) (w : World) : Prop where
  s0 : b0 = true → u10 = .int .i64 a
  s1 : b1 = true → u11 = .int .i32 x
  s2 : b2 = true → u12 = .int .i64 (ofI x)
  s3 : b3 = true → u13 = .int .i64 (a + ofI x)
  q2 : b2 = true → b1 = true
  q3 : b3 = true → b0 = true ∧ b2 = true
  q4 : b4 = true → b3 = true
  bel : Below h W w
  kp : KeepsOthers W w
  bs : Boxed w (h + 1) 9 (.string s)
  tb : Tabs w
  ht : 1 < h ∧ 0 < h
  box : ∃ p, Boxed w h 3 (.int .i64 p) ∧ (b4 = false → p = a) ∧ (b4 = true → p = a + ofI x)

set_option maxRecDepth 100000 in
set_option maxHeartbeats 2000000 in
theorem ccols_any (s : ByteArray) (hs : s.size ≤ 1000000) (w : World) (hT : Tabs w) :
    Calls Tryd.prog 39 #[.string s] w fun e w' => e = .returned (.int .i64 (sumC (cls (rs s.data.toList)))) ∧ Below w.heap.size w w' := by
  have HT := Lib.hid hT
  clear hT
  refine (callsIn_wide (n := 5)).1 ?_
  refine callsIn_of_wp_marks Tryd.func39 rfl trivial ?_ rfl
  simp only [Tryd.ntmps39, List.size_toArray, List.length_cons, List.length_nil, Nat.reduceAdd, Nat.reduceSub, Array.replicate_succ, Array.replicate_zero, List.push_toArray, List.append_toArray, List.nil_append, List.cons_append]
  refine wpIn_wide.2 ?_
  go_wp2_with (go_at_call 60; refine (all_any _ _).mono ?_; rintro e w' ⟨rfl, rfl⟩)
  refine (wpIn_wide (n := 5)).1 ?_
  have hB := (Boxed.new w 3 (.int .i64 0)).alloc (.cells #[.string s] 9)
  have hS := Boxed.new (w.alloc (.cells #[.int .i64 0] 3)) 9 (.string s)
  rw [World.size_alloc] at hS
  have hb0 : Below w.heap.size w ((w.alloc (.cells #[.int .i64 0] 3)).alloc (.cells #[.string s] 9)) := ((Below.refl _ w).alloc (Nat.le_refl _) _).alloc (by simp) _
  have hg := HT.out.mg
  have hg' := HT.out.wg
  refine wpIn_rangeFunc_ownG rfl (by omega) (gf := 70) (lb := #[.pointer (some ⟨w.heap.size + 1, 0, none⟩)]) rfl trivial (enters_of Tryd.func70 (by kernel_rfl) rfl)
    (all_stops 4 (by omega) (w.heap.size + 1) w.heap.size s hs _ hS.cell) KpS.t (KpS.b (by simp; omega)) (Below.refl _ _) (fun _ => rfl)
    (fun pre W => (Boxed W w.heap.size 3 (.int .i64 ((rr pre).map ofI).sum) ∧ Boxed W (w.heap.size + 1) 9 (.string s)) ∧ Below w.heap.size w W)
    (fun _ _ _ => False)
    (OwnFrom.and (OwnFrom.and (Own.from (boxed_own w.heap.size 3 (fun (pre : List (Nat × Int)) => .int .i64 ((rr pre).map ofI).sum)) _) (Own.from (boxed_own (w.heap.size + 1) 9 (fun _ => .string s)) _)) (ownFrom_below (Nat.le_refl _) (by simp; omega)))
    (fun _ _ _ _ _ hs _ _ => hs)
    ⟨⟨hB, hS⟩, hb0⟩
    (fun x => { tmps := #[.string s, undef, .int .i64 0, .pointer (some ⟨w.heap.size, 0, none⟩), undef, .int .i32 x.2, .string s, .func (.func 70) #[] #[.pointer (some ⟨w.heap.size + 1, 0, none⟩)], .int .i64 x.1, .int .i32 x.2, undef, undef, undef, undef, undef], defers := [] }) ?assign ?body ?done ?stop
  case assign =>
    intro l x W K hK
    simp only [encR]
    rw [put_two]
    gi_wp2
    exact hK
  case body =>
    rintro lo pre x W ⟨⟨hb, hbs⟩, hbW⟩ hlen
    have hTW := HT.out.below hbW
    have hst : ((rr (pre ++ [x])).map ofI).sum = ((rr pre).map ofI).sum + ofI x.2 := by simp [rr]
    have hbd := sumW_bd (rr pre)
    have hrl : (rr pre).length = pre.length := by simp [rr]
    unfold sumW at hbd
    generalize ((rr pre).map ofI).sum = a at hb hst hbd
    have hox := ofI_01 x.2
    have HST := Lib.hid hst
    clear hst
    obtain ⟨h, hh⟩ : ∃ h, h = w.heap.size := ⟨_, rfl⟩
    rw [← hh] at hb hbs hbW hg hg' ⊢
    have HH := Lib.hid hh
    have hsz : h ≤ W.heap.size := by have := hb.lt; omega
    have hb0' : KeepsOthers W W := KeepsOthers.refl W
    clear hh hb0 hB hS
    gi_wp2
    have hmx : Tryd.prog.follows .mixedOrders = true := by kernel_rfl
    refine wpIn_region_any hmx ?_
    change wpAnyIn _ _ _ _ _ _ _ _ _ W.drew
    refine wpAnyIn_inv (fun listed a' w2 => ∃ b0 b1 b2 b3 b4 u10 u11 u12 u13, listed = #[b0, b1, b2, b3, b4] ∧
      a' = { tmps := #[.string s, undef, .int .i64 0, .pointer (some ⟨h, 0, none⟩), undef, .int .i32 x.2, .string s, .func (.func 70) #[] #[.pointer (some ⟨h + 1, 0, none⟩)], .int .i64 x.1, .int .i32 x.2, u10, u11, u12, u13, undef], defers := [] } ∧
      RSum h W s a x.2 b0 b1 b2 b3 b4 u10 u11 u12 u13 w2) ?_ ?_ _ _ _ _ (by decide) ?_
    · rintro listed a' w2 hr ⟨b0, b1, b2, b3, b4, u10, u11, u12, u13, rfl, rfl, hI⟩
      obtain rfl : b0 = true := listed_of hr (j := 0) rfl (by simp)
      obtain rfl : b1 = true := listed_of hr (j := 1) rfl (by simp)
      obtain rfl : b2 = true := listed_of hr (j := 2) rfl (by simp [Region.binds])
      obtain rfl : b3 = true := listed_of hr (j := 3) rfl (by simp [Region.binds])
      obtain rfl : b4 = true := listed_of hr (j := 4) rfl (by simp [Region.binds])
      obtain ⟨p, hbx, _, hy⟩ := hI.box
      obtain rfl := hy rfl
      refine ⟨hI.kp.from _, ⟨hI.bel, fun _ => hI.bs.cell⟩, ⟨?_, hI.bs⟩, hbW.trans hI.bel⟩
      rw [HST.out]
      exact hbx
    · rintro i listed a' w2 ⟨b0, b1, b2, b3, b4, u10, u11, u12, u13, rfl, rfl, hI⟩ hi
      obtain ⟨hf, o, ho, hdep⟩ := mem_ready.1 hi
      have hi5 : i < 5 := (Array.getElem?_eq_some_iff.1 ho).1
      have hic : i = 0 ∨ i = 1 ∨ i = 2 ∨ i = 3 ∨ i = 4 := by omega
      rcases hic with rfl | rfl | rfl | rfl | rfl
      all_goals
        simp at ho
        subst ho
        simp [Region.binds] at hdep
        simp at hf
      all_goals try subst hf
      all_goals try simp only [forall_const] at hdep
      · -- 0: the sum so far
        have e3 := nb (fun e => (hI.q3 e).1) rfl
        have e4' := nb hI.q4 e3
        obtain ⟨p, hbx, hn, hy⟩ := hI.box
        obtain rfl := hn e4'
        have hcl := hbx.cell
        have HI := Lib.hid hI
        have E3 := Lib.hid e3
        clear hI e3 e4' hbx hn hy
        refine wpOpIn_step rfl (fun K' hK => ?_)
        go_simp
        refine hK _ _ ?_
        exact ⟨true, b1, b2, b3, b4, _, u11, u12, u13, rfl, rfl, ⟨fun _ => rfl, HI.out.s1, HI.out.s2, HI.out.s3, HI.out.q2, (fun e => absurd (e.symm.trans E3.out) (by decide)), HI.out.q4, HI.out.bel, HI.out.kp, HI.out.bs, HI.out.tb, HI.out.ht, HI.out.box⟩⟩
      · -- 1: the rune
        have e2 := nb hI.q2 rfl
        have HI := Lib.hid hI
        have E2 := Lib.hid e2
        clear hI e2
        refine wpOpIn_step rfl (fun K' hK => ?_)
        go_simp
        refine hK _ _ ?_
        exact ⟨b0, true, b2, b3, b4, u10, _, u12, u13, rfl, rfl, ⟨HI.out.s0, fun _ => rfl, HI.out.s2, HI.out.s3, fun _ => rfl, HI.out.q3, HI.out.q4, HI.out.bel, HI.out.kp, HI.out.bs, HI.out.tb, HI.out.ht, HI.out.box⟩⟩
      · -- 2: its columns
        obtain rfl := hdep
        have e3 := nb (fun e => (hI.q3 e).2) rfl
        obtain rfl := hI.s1 rfl
        have HI := Lib.hid hI
        have E3 := Lib.hid e3
        clear hI e3
        refine wpOpIn_step rfl (fun K' hK => ?_)
        go_simp
        refine ⟨trivial, (CallsIn.inRound lo (callsIn_wide.2 (of_any _ _ HI.out.tb))).mono ?_⟩
        rintro e w4 ⟨rfl, hb4⟩
        refine hK _ _ ?_
        have hz : h ≤ w2.heap.size := by have := HI.out.bel.size; omega
        exact ⟨b0, true, true, b3, b4, u10, _, _, u13, rfl, rfl, ⟨HI.out.s0, fun _ => rfl, fun _ => rfl, HI.out.s3, fun _ => rfl, (fun e => absurd (e.symm.trans E3.out) (by decide)), HI.out.q4, HI.out.bel.trans (hb4.mono hz), HI.out.kp.trans (keeps_of_below hb4), HI.out.bs.kept (grown_of_below hb4) (by simp), HI.out.tb.below hb4, HI.out.ht, HI.out.box.elim fun p hp => ⟨p, hp.1.kept (grown_of_below hb4) (by simp), hp.2⟩⟩⟩
      · -- 3: the sum
        obtain ⟨rfl, rfl⟩ := hdep
        have e4' := nb hI.q4 rfl
        obtain rfl := hI.s0 rfl
        obtain rfl := hI.s2 rfl
        have HI := Lib.hid hI
        have E4 := Lib.hid e4'
        clear hI e4'
        have hws : IntKind.i64.wrap (a + ofI x.2) = a + ofI x.2 := IntWalk.i64_in _ (by omega)
        refine wpOpIn_step rfl (fun K' hK => ?_)
        go_simp
        refine hK _ _ ?_
        exact ⟨true, b1, true, true, b4, _, u11, _, _, rfl, rfl, ⟨fun _ => rfl, HI.out.s1, fun _ => rfl, (fun _ => by first | rfl | rw [hws]), HI.out.q2, (fun _ => ⟨rfl, rfl⟩), (fun e => absurd (e.symm.trans E4.out) (by decide)), HI.out.bel, HI.out.kp, HI.out.bs, HI.out.tb, HI.out.ht, HI.out.box⟩⟩
      · -- 4: the store
        have hb3 : b3 = true := by simp_all
        subst hb3
        obtain rfl := hI.s3 rfl
        obtain ⟨p, hbx, hn, hy⟩ := hI.box
        have hcl := hbx.cell
        have hfl := hbx.frozen
        have HI := Lib.hid hI
        have HBX := Lib.hid hbx
        clear hI hbx hn hy hdep
        refine wpOpIn_step rfl (fun K' hK => ?_)
        go_simp
        refine hK _ _ ?_
        exact ⟨b0, b1, b2, true, true, u10, u11, u12, _, rfl, rfl, ⟨HI.out.s0, HI.out.s1, HI.out.s2, fun _ => rfl, HI.out.q2, HI.out.q3, fun _ => rfl, HI.out.bel.setCell (p := ⟨h, 0, none⟩) (Nat.le_refl _) _, HI.out.kp.trans (KeepsOthers.setCell _ _ _), HI.out.bs.other (by omega) _, HI.out.tb.same (Below.heap_setCell _ _ _ _ (by have := HI.out.ht; show _ ≠ h; omega)) (Below.heap_setCell _ _ _ _ (by have := HI.out.ht; show _ ≠ h; omega)) (grownBy_setCell' w2 h _).size, HI.out.ht, ⟨_, HBX.out.set _, (fun e => by cases e), (fun _ => rfl)⟩⟩⟩
    · exact ⟨false, false, false, false, false, _, _, _, _, rfl, rfl, ⟨(fun e => by cases e), (fun e => by cases e), (fun e => by cases e), (fun e => by cases e), (fun e => by cases e), (fun e => by cases e), (fun e => by cases e), (Below.refl _ _).drew, KeepsOthers.drew _, hbs, hTW.below ((Below.refl _ _).drew), ⟨hg, hg'⟩, ⟨a, hb, (fun _ => rfl), (fun e => by cases e)⟩⟩⟩
  case done =>
    rintro D ys W hD rfl ⟨⟨hb, hbs⟩, hbW⟩ hK
    have hcl : ((rr (rnsOf s.data.toList)).map ofI).sum = sumC (cls (rs s.data.toList)) := (cols_all _).symm
    rw [hcl] at hb
    have hc := hb.cell
    clear hcl
    go_wp2
    refine ⟨by simp, .inl ⟨_, _, rfl, run_takeDeferred hK, ?_⟩⟩
    exact ⟨_, results_tmp rfl _ _ _, rfl, hbW.trans (belowK_b (w := w) (Nat.le_refl _) W D _ _ (by simp at hD; omega) hK rfl rfl)⟩
  case stop =>
    rintro D c pre W _ _ h _
    exact h.elim
end Go.Proofs.YtmgakdbcgdhpaaaDoor
