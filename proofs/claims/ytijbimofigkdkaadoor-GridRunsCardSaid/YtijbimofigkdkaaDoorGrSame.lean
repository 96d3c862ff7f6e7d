/-
  Walk: Same.
-/
import Derived.Test.YtijbimofigkdkaaDoorGrIter
import Derived.Test.YtijbimofigkdkaaDoorGrEq
namespace Go.Proofs.YtijbimofigkdkaaDoor
open Go.RowKit Go.Shelf
attribute [local go_sem] Oper.semAt_some
set_option linter.unusedVariables false
set_option linter.unusedSimpArgs false

theorem quiet_made (g : Nat) (w : World) (hp : w.cell? ⟨g, 0, none⟩ = some (.pointer (some ⟨g, 0, none⟩))) :
    Calls Tryd.prog 33 #[.pointer (some ⟨g, 0, none⟩)] w fun e w' => e = .returned (.bool true) ∧ w' = w := (made_yes g w hp).mono fun e w' ⟨a, b⟩ => ⟨a, b.symm⟩

set_option maxRecDepth 100000 in
set_option maxHeartbeats 2000000 in
theorem gsame_any {w : World} {lo lo2 g g2 rb rb2 W W2 : Nat} {bs bs2 : List Nat} {L L2 : List (List Cl)} (h : GrAt w lo g rb bs W L) (h2 : GrAt w lo2 g2 rb2 bs2 W2 L2) :
    Calls Tryd.prog 12 #[.pointer (some ⟨g, 0, none⟩), .pointer (some ⟨g2, 0, none⟩)] w fun e w' => e = .returned (.bool (decide (L = L2))) ∧ Below w.heap.size w w' := by
  have hh5 := h.h5
  have hh52 := h2.h5
  have hw5 := h.w5
  have hw52 := h2.w5
  obtain ⟨W0, hW0⟩ : ∃ W0, W0 = (w.alloc (.cells #[.pointer (some ⟨g2, 0, none⟩)] 23)).alloc (.cells #[.bool false] 4) := ⟨_, rfl⟩
  have hb0 : Below w.heap.size w W0 := by rw [hW0]; exact ((Below.refl _ w).alloc (Nat.le_refl _) _).alloc (by simp) _
  have hx1 : Boxed W0 w.heap.size 23 (.pointer (some ⟨g2, 0, none⟩)) := by rw [hW0]; exact (Boxed.new w _ _).alloc _
  have hx2 : Boxed W0 (w.heap.size + 1) 4 (.bool false) := by
    have := Boxed.new (w.alloc (.cells #[.pointer (some ⟨g2, 0, none⟩)] 23)) 4 (.bool false)
    rw [hW0]; simpa using this
  have hs0 : W0.heap.size = w.heap.size + 2 := by rw [hW0]; simp
  have H := Lib.hid (h.below hb0)
  have H2 := Lib.hid (h2.below hb0)
  have HX1 := Lib.hid hx1
  have HX2 := Lib.hid hx2
  have HB0 := Lib.hid hb0
  have HS0 := Lib.hid hs0
  have HG := Lib.hid h
  have HG2 := Lib.hid h2
  clear h h2 hb0 hs0 hx1 hx2
  refine (callsIn_wide (n := 9)).1 ?_
  refine callsIn_of_wp_marks Tryd.func12 rfl trivial ?_ rfl
  simp only [Tryd.ntmps12, List.size_toArray, List.length_cons, List.length_nil, Nat.reduceAdd, Nat.reduceSub, Array.replicate_succ, Array.replicate_zero, List.push_toArray, List.append_toArray, List.nil_append, List.cons_append]
  refine wpIn_wide.2 ?_
  go_wp2_with (fail)
  rw [← hW0]
  clear hW0
  have p1 := H.out.ptr
  have p2 := H.out.rws
  have p3 := H2.out.ptr
  have p4 := H2.out.rws
  have p5 := HX1.out.cell
  have p6 := HX2.out.cell
  have p7 := HX2.out.frozen
  by_cases hl : L.length = L2.length
  · have hli : ((L.length : Int) != (L2.length : Int)) = false := by simp; omega
    have HL := Lib.hid hl
    clear hl
    have q1 := fun n => quiet_made g (W0.drewN n) p1
    have q2 := fun n => quiet_made g2 (W0.drewN n) p3
    have Q1 := Lib.hid q1
    have Q2 := Lib.hid q2
    clear q1 q2
    go_quiet ((go_at_call 33; (first | ((with_reducible refine Calls.quiet_of_same (Q1.out _))) | ((with_reducible refine Calls.quiet_of_same (Q2.out _))))))
    go_wp2_with (go_at_call 32; refine (lines_any _ _).mono ?_; rintro e w' ⟨rfl, rfl⟩)
    refine (wpIn_wide (n := 9)).1 ?_
    have hwb : Below w.heap.size w ((W0.drewN nq).alloc (.cells #[.pointer (some ⟨g, 0, none⟩)] 23)) := (below_dN HB0.out nq).alloc (by have := HS0.out; simp; omega) _
    have hbx : Boxed ((W0.drewN nq).alloc (.cells #[.pointer (some ⟨g, 0, none⟩)] 23)) W0.heap.size 23 (.pointer (some ⟨g, 0, none⟩)) := Boxed.new (W0.drewN nq) _ _
    have h1' : Boxed ((W0.drewN nq).alloc (.cells #[.pointer (some ⟨g, 0, none⟩)] 23)) w.heap.size 23 (.pointer (some ⟨g2, 0, none⟩)) := Boxed.alloc (W := W0.drewN nq) HX1.out _
    have h2' : Boxed ((W0.drewN nq).alloc (.cells #[.pointer (some ⟨g, 0, none⟩)] 23)) (w.heap.size + 1) 4 (.bool false) := Boxed.alloc (W := W0.drewN nq) HX2.out _
    have hgl := HG.out.own_lt g (.inl rfl)
    have hrl := HG.out.own_lt rb (.inr (.inl rfl))
    have HGB := HG.out.below hwb
    have hszw : ((W0.drewN nq).alloc (.cells #[.pointer (some ⟨g, 0, none⟩)] 23)).heap.size = w.heap.size + 3 := by have := HS0.out; simp; omega
    have HSZ := Lib.hid hszw
    have hf0lt : ∀ k, (k < w.heap.size ∨ k = W0.heap.size) → k < ((W0.drewN nq).alloc (.cells #[.pointer (some ⟨g, 0, none⟩)] 23)).heap.size := fun k hk => by
      have h1 := HS0.out
      have h2 := HSZ.out
      rcases hk with h | h <;> omega
    clear hszw
    refine range_priv rfl (by omega) (gf := 51) (lb := #[.pointer (some ⟨W0.heap.size, 0, none⟩)]) rfl trivial (enters_of Tryd.func51 (by kernel_rfl) rfl)
      (lines_stops W0.heap.size g rb W bs (by rw [HG.out.len]; exact hh5) (fun k => k < w.heap.size ∨ k = W0.heap.size) _ hbx.cell HGB.ptr (by rw [HG.out.len]; exact HGB.rws) (fun k b hb => by rw [HGB.rows.cell, List.getElem?_map, hb]; rfl) (.inr rfl) (.inl hgl) (.inl hrl))
      (Nat.le_refl _) (fun k hk => ⟨hf0lt k hk, rfl⟩) (fun _ => rfl)
      (fun pre f X => (Boxed X w.heap.size 23 (.pointer (some ⟨g2, 0, none⟩)) ∧ Boxed X (w.heap.size + 1) 4 (.bool false)) ∧ (∀ x ∈ pre, L[x.1]? = L2[x.1]?) ∧ Below w.heap.size w X)
      (fun c pre f X => (c = .ret ∧ X.cell? ⟨w.heap.size + 1, 0, none⟩ = some (.bool false) ∧ ∃ i : Nat, L[i]? ≠ L2[i]?) ∧ Below w.heap.size w X)
      (AbP.and (AbP.and (AbP.boxed (fun _ => .pointer (some ⟨g2, 0, none⟩)) (by rw [HSZ.out]; omega)) (AbP.boxed (fun _ => .bool false) (by rw [HSZ.out]; omega))) (AbP.and (AbP.pure _) (AbP.below (by rw [HSZ.out]; omega) (Nat.le_refl _))))
      (fun _ => AbP.and (fun pre f f' A B hp ht _ => ⟨hp.1, by
        obtain ⟨o, ho, hoc⟩ := cells_of_cell hp.2.1
        exact (World.cell?_of_block (w := A) (a := ⟨w.heap.size + 1, 0, none⟩) ((ht.block _ o ho (.inl (by rw [HSZ.out]; show w.heap.size + 1 < _; omega))).trans ho.symm)).trans hp.2.1, hp.2.2⟩) (AbP.below (by rw [HSZ.out]; omega) (Nat.le_refl _)))
      ⟨⟨h1', h2'⟩, (fun x hx => by simp at hx), hwb⟩
      (fun x => { tmps := #[.pointer (some ⟨g, 0, none⟩), .pointer (some ⟨g2, 0, none⟩), undef, .pointer (some ⟨w.heap.size, 0, none⟩), .pointer (some ⟨w.heap.size + 1, 0, none⟩), .int .i64 x.1, .slice (some ⟨x.2, 0, none⟩) W W,
        .pointer (some ⟨g, 0, none⟩), .bool true, .bool false, .bool false, .pointer (some ⟨g2, 0, none⟩), .bool true, .bool false, .bool false, .bool false, .pointer (some ⟨g, 0, none⟩), .pointer (some ⟨g, 0, none⟩), .pointer (some ⟨g, 1, none⟩),
        .slice (some ⟨rb, 0, none⟩) L.length L.length, .int .i64 L.length, .pointer (some ⟨g2, 0, none⟩), .pointer (some ⟨g2, 0, none⟩), .pointer (some ⟨g2, 1, none⟩), .slice (some ⟨rb2, 0, none⟩) L2.length L2.length, .int .i64 L2.length, .bool false, .bool false, .pointer (some ⟨g, 0, none⟩),
        .func (.func 51) #[] #[.pointer (some ⟨W0.heap.size, 0, none⟩)], .int .i64 x.1, .slice (some ⟨x.2, 0, none⟩) W W, undef, undef, undef, undef, undef, undef, undef, undef, undef, undef], defers := [] }) ?assign ?body ?done ?stop
    case assign =>
      intro l x X K hK
      simp only [encL, rowV]
      gi_wp2
      exact hK
    case body =>
      rintro l pre x f X hf hz ⟨⟨hb1, hb2⟩, hp, hbW⟩ hlen hel
      have hxl : x.1 < L.length := by have := (List.getElem?_eq_some_iff.1 hel).1; have := HG.out.len; omega
      have HX := HG.out.below hbW
      have HY := HG2.out.below hbW
      obtain ⟨b, l1, hbi, hl1, hrv, hlen1, _, hbl⟩ := HX.at_ hxl
      obtain rfl : b = x.2 := by rw [hel] at hbi; injection hbi with hbi; exact hbi.symm
      obtain ⟨b2, l2, hbi2, hl2, hrv2, hlen2, _, hbl2⟩ := HY.at_ (i := x.1) (by rw [← HL.out]; exact hxl)
      have hs2 := HY.rws
      unfold rowV at hrv2
      have hx2 : x.1 < L2.length := by rw [← HL.out]; exact hxl
      have hx2i : (x.1 : Int) < L2.length := by omega
      have hc := hb2.cell
      have hfr := hb2.frozen
      have hc1 := hb1.cell
      have hflt : ∀ k, f k → k < X.heap.size := fun k hk => by
        have h1 := HS0.out
        have h2 := HSZ.out
        have h3 := hbW.size
        rcases hf k hk with h | h
        · rcases h with h | h <;> omega
        · omega
      have hnf : ¬ f (w.heap.size + 1) := fun hk => by
        have h1 := HS0.out
        have h2 := HSZ.out
        rcases hf _ hk with h | h
        · rcases h with h | h <;> omega
        · omega
      have heq := equal_any l1 l2 W W2 (some ⟨x.2, 0, none⟩) (some ⟨b2, 0, none⟩) W W2 X hlen1.symm hlen2.symm (by omega) (by omega) X.heap.size X.heap.size hbl.sl hbl2.sl (Nat.le_refl _) (Nat.le_refl _)
      have HP := Lib.hid hp
      have HB1 := Lib.hid hb1
      have HB2 := Lib.hid hb2
      have HBW := Lib.hid hbW
      have HF := Lib.hid hflt
      have HNF := Lib.hid hnf
      have HL1 := Lib.hid hl1
      have HL2 := Lib.hid hl2
      clear hp hb1 hb2 hbW hflt hnf hf hel hbi hbi2 hlen1 hlen2 hbl hbl2 hl1 hl2 HX HY hrv hlen
      by_cases hd : l1 = l2
      · have hdd : decide (l1 = l2) = true := by simp [hd]
        rw [hdd] at heq
        have HE := Lib.hid heq
        have HD := Lib.hid hd
        clear hdd heq hd
        gi_wp2_with (refine ⟨trivial, ?_⟩; gi_at_call 34; refine (CallsIn.inRound l (callsIn_wide.2 HE.out)).mono ?_; rintro e X3 ⟨rfl, hb3⟩)
        refine ⟨Rk.of_below hb3 HF.out, ⟨(hb3.block _ HB1.out.lt).trans HB1.out, (hb3.block _ HB2.out.lt).trans HB2.out⟩, ?_, HBW.out.trans (hb3.mono HBW.out.size)⟩
        intro y hy
        rcases List.mem_append.1 hy with hy | hy
        · exact HP.out y hy
        · simp at hy
          subst hy
          rw [HL1.out, HL2.out, HD.out]
      · have hdd : decide (l1 = l2) = false := by simp [hd]
        rw [hdd] at heq
        have HE := Lib.hid heq
        have HD := Lib.hid hd
        clear hdd heq hd
        gi_wp2_with (refine ⟨trivial, ?_⟩; gi_at_call 34; refine (CallsIn.inRound l (callsIn_wide.2 HE.out)).mono ?_; rintro e X3 ⟨rfl, hb3⟩; have hc3 := (hb3.cell (p := ⟨w.heap.size + 1, 0, none⟩) HB2.out.lt).trans hc; have hfr3 := (hb3.frozen (p := ⟨w.heap.size + 1, 0, none⟩) HB2.out.lt).trans hfr)
        refine ⟨(Rk.of_below (base := ((W0.drewN nq).alloc (.cells #[.pointer (some ⟨g, 0, none⟩)] 23)).heap.size) hb3 HF.out).keeps.trans ((KeepsOthers.setCell _ _ _).from _), ⟨rfl, World.cell?_setCell_same' _ _ _ (by rw [hc3]; rfl), x.1, ?_⟩, (HBW.out.trans (hb3.mono HBW.out.size)).setCell (p := ⟨w.heap.size + 1, 0, none⟩) (by simp) _⟩
        rw [HL1.out, HL2.out]
        intro e
        exact HD.out (Option.some.inj e)
    case done =>
      rintro D ys f X hD rfl ⟨⟨hb1, hb2⟩, hp, hbW⟩ hK
      have hLL : L = L2 := by
        apply List.ext_getElem?
        intro i
        by_cases hi : i < bs.length
        · exact hp _ (List.mem_of_getElem? (lns_get hi))
        · have e1 := HG.out.len
          have e2 := HL.out
          rw [List.getElem?_eq_none (by omega), List.getElem?_eq_none (by omega)]
      have hc := hb2.cell
      have hfr := hb2.frozen
      clear hp
      go_wp2
      have hK' := (KeepsOthers.setCell X ⟨w.heap.size + 1, 0, none⟩ (.bool true)).same D _ hK rfl
      refine ⟨by simp, .inl ⟨_, _, rfl, run_takeDeferred hK', ?_⟩⟩
      have hc5 := cell_kept (World.cell?_setCell_same' X ⟨w.heap.size + 1, 0, none⟩ (.bool true) (by rw [hc]; rfl)) (grownBy_putObj' _ D (.deferred none)) (fun r e => by cases e; exact ⟨_, hK', rfl⟩)
      have hDs : w.heap.size ≤ D := by have := HSZ.out; omega
      refine ⟨.bool true, ?_, by rw [decide_eq_true hLL], (hbW.setCell (p := ⟨w.heap.size + 1, 0, none⟩) (by simp) _).trans (belowK_b (w := w) (Nat.le_refl _) _ D _ _ hDs hK' rfl rfl)⟩
      simp [results, Tryd.f12, go_sem, hc5]
    case stop =>
      rintro D c pre f X hD hpre ⟨⟨rfl, hc, i, hi⟩, hbW⟩ hK
      have hLL : decide (L = L2) = false := by
        rw [decide_eq_false_iff_not]
        intro e
        exact hi (by rw [e])
      clear hi hpre
      gi_wp2
      refine ⟨by simp, .inl ⟨_, _, rfl, run_takeDeferred hK, ?_⟩⟩
      have hc5 := cell_kept hc (grownBy_putObj' _ D (.deferred none)) (fun r e => by cases e; exact ⟨_, hK, rfl⟩)
      have hDs : w.heap.size ≤ D := by have := HSZ.out; omega
      refine ⟨.bool false, ?_, by rw [hLL], hbW.trans (belowK_b (w := w) (Nat.le_refl _) X D _ _ hDs hK rfl rfl)⟩
      simp [results, Tryd.f12, go_sem, hc5]
  · have hli : ((L.length : Int) != (L2.length : Int)) = true := by simp; omega
    have hLL : decide (L = L2) = false := by
      rw [decide_eq_false_iff_not]
      intro e
      exact hl (by rw [e])
    have HLL := Lib.hid hLL
    clear hl hLL
    have q1 := fun n => quiet_made g (W0.drewN n) p1
    have q2 := fun n => quiet_made g2 (W0.drewN n) p3
    have Q1 := Lib.hid q1
    have Q2 := Lib.hid q2
    clear q1 q2
    go_quiet ((go_at_call 33; (first | ((with_reducible refine Calls.quiet_of_same (Q1.out _))) | ((with_reducible refine Calls.quiet_of_same (Q2.out _))))))
    go_wp2
    have hc5 : ((W0.drewN nq).setCell ⟨w.heap.size + 1, 0, none⟩ (.bool false)).cell? ⟨w.heap.size + 1, 0, none⟩ = some (.bool false) := World.cell?_setCell_same' _ _ _ (by rw [World.cell?_drewN, p6]; rfl)
    refine ⟨.bool false, ?_, by rw [HLL.out], (below_dN HB0.out nq).setCell (p := ⟨w.heap.size + 1, 0, none⟩) (by simp) _⟩
    simp [results, Tryd.f12, go_sem, hc5]
end Go.Proofs.YtijbimofigkdkaaDoor
