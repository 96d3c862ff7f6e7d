/-
  The law GridYields, walked.
-/
import Derived.Test.YtkkaoajdcgmabaaDoorGrRowsI
import Derived.Test.YtkkaoajdcgmabaaDoorGrPutsM
import Derived.Test.YtkkaoajdcgmabaaDoorGrAwake
namespace Go.Proofs.YtkkaoajdcgmabaaDoor
open Go.RowKit Go.Shelf
attribute [local go_sem] Oper.semAt_some
set_option linter.unusedVariables false
set_option linter.unusedSimpArgs false

theorem nums_snoc (p : List (Nat × Option Addr × Nat)) (x : Nat × Option Addr × Nat) : decide ((p ++ [x]).map (·.1) = List.range (p ++ [x]).length) = (decide (p.map (·.1) = List.range p.length) && decide (x.1 = p.length)) := by
  rw [Bool.eq_iff_iff]
  simp only [decide_eq_true_eq, Bool.and_eq_true]
  rw [List.map_append, List.length_append, List.length_singleton, List.range_succ]
  constructor
  · intro h
    obtain ⟨h1, h2⟩ := List.append_inj h (by simp)
    exact ⟨h1, by simpa using h2⟩
  · rintro ⟨h1, h2⟩
    rw [h1]
    simp [h2]

set_option maxRecDepth 100000 in
set_option maxHeartbeats 8000000 in
theorem gridYields_walk (l : List OpV) (hok : ∀ o ∈ l, o.ok) (n c : Nat) (A : Option Addr) (hn : n = l.length) (hm : n ≤ maxLen) (k : Int) (k0 : 0 ≤ k) (k1 : k ≤ 255) (w : World) (hS : Sl w w.heap.size A (oc l)) (hT : BlankT w) :
    Calls Tryd.prog 5 #[.slice A n c, .int .u8 k] w fun e w' => e = .returned (.bool true) ∧ Below w.heap.size w w' := by
  have hb0 : Below w.heap.size w (w.alloc (.cells #[.int .u8 k] 5)) := (Below.refl _ _).alloc (Nat.le_refl _) _
  have HB0 := Lib.hid hb0
  have HX0 := Lib.hid (Boxed.new w 5 (.int .u8 k))
  have HS := Lib.hid hS
  have HT := Lib.hid hT
  have HOK := Lib.hid hok
  have HN := Lib.hid hn
  have HM := Lib.hid hm
  have hlo := hT.2
  clear hb0 hS hT hok hn hm
  refine (callsIn_wide (n := 9)).1 ?_
  refine callsIn_of_wp_marks Tryd.func5 rfl trivial ?_ rfl
  simp only [Tryd.ntmps5, List.size_toArray, List.length_cons, List.length_nil, Nat.reduceAdd, Nat.reduceSub, Array.replicate_succ, Array.replicate_zero, List.push_toArray, List.append_toArray, List.nil_append, List.cons_append]
  refine wpIn_wide.2 ?_
  go_wp2_with (fail)
  refine (filled_any l HOK.out n c A HN.out HM.out _ ((HS.out.alloc (Nat.le_refl _) _).more (by simp)) (HT.out.bel HB0.out)).mono ?_
  rintro e w1 ⟨g, rb, bs, rfl, hg1, hb1⟩
  have HX1 := Lib.hid ((HX0.out.kept (grown_of_below hb1) (by simp)).alloc (.cells #[.pointer (some ⟨g, 0, none⟩)] 23))
  have HB1 := Lib.hid (HB0.out.trans (hb1.mono HB0.out.size))
  have HB1a := Lib.hid (HB1.out.alloc HB1.out.size (.cells #[.pointer (some ⟨g, 0, none⟩)] 23))
  have HG1 := Lib.hid (hg1.below ((Below.refl _ w1).alloc (Nat.le_refl _) (.cells #[.pointer (some ⟨g, 0, none⟩)] 23)))
  have HY1 := Lib.hid (Boxed.new w1 23 (.pointer (some ⟨g, 0, none⟩)))
  have hpn := ptr_eqn g
  have hnf : ∀ (v : Value) w, Sem.run Tryd.prog (binOp .eql 56 (.func (.func 46) #[] #[v]) .nilFunc) w = .ok (.bool false) w := fun _ _ => by kernel_rfl
  clear hg1 hb1
  go_wp2_with (fail)
  refine (awake_any _ (HT.out.below HB1a.out hlo)).mono ?_
  rintro e w2 ⟨rfl, hb2⟩
  have HX2 := Lib.hid (HX1.out.kept (grown_of_below hb2) (by simp))
  have HY2 := Lib.hid (HY1.out.kept (grown_of_below hb2) (by simp))
  have HG2 := Lib.hid (HG1.out.below hb2)
  have HB2 := Lib.hid (HB1a.out.trans (hb2.mono HB1a.out.size))
  have c5 := HY2.out.cell
  clear hb2
  go_wp2_with (fail)
  refine (rows_any HG2.out (HT.out.below HB2.out hlo)).mono ?_
  rintro e w3 ⟨B, g2, rb2, bs2, rfl, hbx, hg3, hb3, hBl⟩
  have HX3 := Lib.hid (HX2.out.kept (grown_of_below hb3) (by simp))
  have HY3 := Lib.hid (HY2.out.kept (grown_of_below hb3) (by simp))
  have HG3 := Lib.hid (HG2.out.below hb3)
  have HB3 := Lib.hid (HB2.out.trans (hb3.mono HB2.out.size))
  have HBX := Lib.hid hbx
  have HF3 := Lib.hid hg3
  clear hb3 hbx hg3 c5 hBl
  go_wp2_with (fail)
  refine (wpIn_wide (n := 9)).1 ?_
  have hbv : Below w3.heap.size w3 ((w3.alloc (.cells #[.int .i64 0] 3)).alloc (.cells #[.bool true] 4)) := ((Below.refl _ w3).alloc (Nat.le_refl _) _).alloc (by simp) _
  have hxn : Boxed ((w3.alloc (.cells #[.int .i64 0] 3)).alloc (.cells #[.bool true] 4)) w3.heap.size 3 (.int .i64 ((0 : Nat) : Int)) := (Boxed.new w3 _ _).alloc _
  have hxo : Boxed ((w3.alloc (.cells #[.int .i64 0] 3)).alloc (.cells #[.bool true] 4)) (w3.heap.size + 1) 4 (.bool true) := by
    have := Boxed.new (w3.alloc (.cells #[.int .i64 0] 3)) 4 (.bool true)
    simpa using this
  have hszv : ((w3.alloc (.cells #[.int .i64 0] 3)).alloc (.cells #[.bool true] 4)).heap.size = w3.heap.size + 2 := by simp
  obtain ⟨W0, hW0⟩ : ∃ W0, W0 = ((w3.alloc (.cells #[.int .i64 0] 3)).alloc (.cells #[.bool true] 4)) := ⟨_, rfl⟩
  rw [← hW0] at hbv hxn hxo hszv ⊢
  have hlt0 : ∀ j, RwOwn B g2 rb2 bs2 j → j < w3.heap.size := fun j hj => by
    rcases hj with rfl | hj
    · exact HBX.out.lt
    · exact HF3.out.own_lt j hj
  have hl4 := fillS_length l
  have HL4 := Lib.hid hl4
  have HLT := Lib.hid hlt0
  have HSZ := Lib.hid hszv
  have hx3l := HX3.out.lt
  have hy3l := HY3.out.lt
  have hgb : Boxed W0 B 23 (.pointer (some ⟨g2, 0, none⟩)) := HBX.out.kept (grown_of_below hbv) (by simp)
  have hgf := HF3.out.below hbv
  have HGB := Lib.hid hgb
  have HGF := Lib.hid hgf
  have h0B : Below w.heap.size w W0 := HB3.out.trans (hbv.mono HB3.out.size)
  have HWB := Lib.hid HB3.out.size
  clear hlt0 hW0 hl4 hgb hgf
  refine range_w rfl (by omega) (gf := 46) (lb := #[.pointer (some ⟨B, 0, none⟩)]) rfl trivial (enters_of Tryd.func46 (by kernel_rfl) rfl)
    (rows_stops W0 HGB.out HGF.out) (Nat.le_refl _) (fun j hj => ⟨by have := HLT.out j hj; omega, rfl⟩) (fun _ => rfl)
    (fun x X j o o' hj ho hc hel => by
      obtain ⟨l1, h1, h2⟩ := hel
      refine ⟨l1, h1, ?_⟩
      rcases h2 with h2 | ⟨b, off, e, hb, h2⟩
      · exact .inl h2
      · refine .inr ⟨b, off, e, by simpa using hb, fun i v hv => ?_⟩
        have hv' := h2 i v hv
        have hne : b ≠ j := fun e => by subst e; simp [World.cell?, ho] at hv'; cases o <;> simp_all [Obj.isCells]
        exact (World.cell?_of_block (w := X) (a := ⟨b, off + i, none⟩) (World.putObj_heap_other hne)).trans hv')
    (fun pre f X => (Boxed X w3.heap.size 3 (.int .i64 ((pre.length : Nat) : Int)) ∧ Boxed X (w3.heap.size + 1) 4 (.bool (decide (pre.map (·.1) = List.range pre.length)))) ∧ (pre.length : Int) ≤ k ∧ Below w3.heap.size w3 X)
    (fun c q f X => (∃ p y, c = .exit 0 ∧ q = p ++ [y] ∧ (p.length : Int) = k ∧ Boxed X w3.heap.size 3 (.int .i64 ((p.length : Nat) : Int)) ∧ Boxed X (w3.heap.size + 1) 4 (.bool (decide (p.map (·.1) = List.range p.length)))) ∧ Below w3.heap.size w3 X)
    (AbP.and (AbP.and (AbP.boxed (fun (pre : List (Nat × Option Addr × Nat)) => .int .i64 ((pre.length : Nat) : Int)) (by rw [HSZ.out]; omega)) (AbP.boxed (fun (pre : List (Nat × Option Addr × Nat)) => .bool (decide (pre.map (·.1) = List.range pre.length))) (by rw [HSZ.out]; omega))) (AbP.and (AbP.pure _) (AbP.below (by rw [HSZ.out]; omega) (Nat.le_refl _))))
    (fun _ => AbP.and (fun q f f' X Y hp ht _ => by
      obtain ⟨p, y, h1, h2, h3, h4, h5⟩ := hp
      exact ⟨p, y, h1, h2, h3, ht.block _ _ h4 (.inl (by rw [HSZ.out]; omega)), ht.block _ _ h5 (.inl (by rw [HSZ.out]; omega))⟩) (AbP.below (by rw [HSZ.out]; omega) (Nat.le_refl _)))
    ⟨⟨hxn, hxo⟩, k0, hbv⟩
    (fun x => { tmps := #[.slice A n c, .int .u8 k, undef, .pointer (some ⟨w.heap.size, 0, none⟩), .bool false, .pointer (some ⟨w1.heap.size, 0, none⟩), .func (.func 46) #[] #[.pointer (some ⟨B, 0, none⟩)], .pointer (some ⟨w3.heap.size, 0, none⟩), .pointer (some ⟨w3.heap.size + 1, 0, none⟩), .int .i64 (x.1 : Int), .slice x.2.1 12 x.2.2,
      .slice A n c, .pointer (some ⟨g, 0, none⟩), .pointer (some ⟨g, 0, none⟩), .bool false, .bool false, .bool true, .bool false, .bool false, .pointer (some ⟨g, 0, none⟩),
      .func (.func 46) #[] #[.pointer (some ⟨B, 0, none⟩)], .func (.func 46) #[] #[.pointer (some ⟨B, 0, none⟩)], .bool false, .func (.func 46) #[] #[.pointer (some ⟨B, 0, none⟩)], .int .i64 (x.1 : Int), .slice x.2.1 12 x.2.2,
      undef, undef, undef, undef, undef, undef, undef, undef, undef, undef, undef, undef, undef, undef, undef, undef, undef, undef, undef, undef, undef, undef, undef, undef, undef, undef, undef], defers := [] }) ?assign ?body ?done ?stop
  case assign =>
    intro l x X K hK
    simp only [encW]
    gi_wp2
    exact hK
  case body =>
    rintro lo pre ⟨i, A2, c2⟩ f X hf hz ⟨⟨hbn, hbo⟩, hpk, hbW⟩ hlen ⟨l1, hl1, hsx⟩
    simp only at hl1 hsx
    have hlen4 : pre.length < 4 := by have := HL4.out; omega
    have hGx := HG3.out.below hbW
    have hXx : Boxed X w.heap.size 5 (.int .u8 k) := (hbW.block _ hx3l).trans HX3.out
    have hYx : Boxed X w1.heap.size 23 (.pointer (some ⟨g, 0, none⟩)) := (hbW.block _ hy3l).trans HY3.out
    have hl12 : l1.length = 12 := (hGx.some_at hl1).1
    have hnl := hbn.lt
    have hol := hbo.lt
    have hXs : w3.heap.size + 2 ≤ X.heap.size := by have := HSZ.out; omega
    have hnf : ¬ f w3.heap.size ∧ ¬ f (w3.heap.size + 1) := by
      have h1 := HSZ.out
      refine ⟨fun hk => ?_, fun hk => ?_⟩
      all_goals
        rcases hf _ hk with h | h
        · have := HLT.out _ h; omega
        · omega
    have hflt : ∀ j, f j → j < X.heap.size := fun j hj => by
      have h1 := HSZ.out
      rcases hf j hj with h | h
      · have := HLT.out _ h; omega
      · omega
    have hc5 := hYx.cell
    have hc3 := hXx.cell
    have hcn := hbn.cell
    have hco := hbo.cell
    have hfo := hbo.frozen
    have hfn := hbn.frozen
    by_cases hlt : (pre.length : Int) < k
    · have fin : ∀ (X3 : World) (v : Bool), Below X.heap.size X X3 → v = (decide (pre.map (fun y : Nat × Option Addr × Nat => y.1) = List.range pre.length) && decide (i = pre.length)) →
          postP W0.heap.size (fun (pre : List (Nat × Option Addr × Nat)) f X => (Boxed X w3.heap.size 3 (.int .i64 ((pre.length : Nat) : Int)) ∧ Boxed X (w3.heap.size + 1) 4 (.bool (decide (pre.map (·.1) = List.range pre.length)))) ∧ (pre.length : Int) ≤ k ∧ Below w3.heap.size w3 X)
            (fun c (q : List (Nat × Option Addr × Nat)) f X => (∃ p y, c = .exit 0 ∧ q = p ++ [y] ∧ (p.length : Int) = k ∧ Boxed X w3.heap.size 3 (.int .i64 ((p.length : Nat) : Int)) ∧ Boxed X (w3.heap.size + 1) 4 (.bool (decide (p.map (·.1) = List.range p.length)))) ∧ Below w3.heap.size w3 X)
            f (pre ++ [(i, A2, c2)]) X .normal { tmps := #[], defers := [] } ((X3.setCell ⟨w3.heap.size + 1, 0, none⟩ (.bool v)).setCell ⟨w3.heap.size, 0, none⟩ (.int .i64 ((pre.length : Int) + 1))) := fun X3 v hb3 hv => by
        have hn3 : Boxed X3 w3.heap.size 3 (.int .i64 ((pre.length : Nat) : Int)) := (hb3.block _ hnl).trans hbn
        have ho3 := (hb3.block _ hol).trans hbo
        have ho3' : Boxed X3 (w3.heap.size + 1) 4 _ := ho3
        have e1 : (((pre ++ [(i, A2, c2)]).length : Nat) : Int) = (pre.length : Int) + 1 := by simp
        refine ⟨((Rk.of_below hb3 hflt).setCell hnf.2 _).setCell hnf.1 _, ⟨?_, ?_⟩, by rw [e1]; omega, ?_⟩
        · rw [e1]
          exact (hn3.other (by omega) _).set _
        · rw [nums_snoc, ← hv]
          exact (ho3'.set _).other (by omega) _
        · exact ((hbW.trans (hb3.mono hbW.size)).setCell (p := ⟨w3.heap.size + 1, 0, none⟩) (by show w3.heap.size ≤ w3.heap.size + 1; omega) _).setCell (p := ⟨w3.heap.size, 0, none⟩) (Nat.le_refl _) _
      have FIN := Lib.hid fin
      have HGx := Lib.hid hGx
      have HSX := Lib.hid hsx
      have HL1 := Lib.hid hl1
      have HL12 := Lib.hid hl12
      have HNL := Lib.hid hnl
      have HOL := Lib.hid hol
      have hpn0 : 0 ≤ (pre.length : Int) := by omega
      have hp4 : (pre.length : Int) < 4 := by omega
      have hge : ¬ k ≤ (pre.length : Int) := by omega
      clear fin hGx hsx hl1 hl12 hf hflt hnf hbW hbn hbo hXx hYx hnl hol hpk hlen
      by_cases ha : pre.map (fun y : Nat × Option Addr × Nat => y.1) = List.range pre.length
      · have had : decide (pre.map (fun y : Nat × Option Addr × Nat => y.1) = List.range pre.length) = true := by simp [ha]
        rw [had] at hco
        have HAD := Lib.hid had
        clear ha had
        by_cases hi : i = pre.length
        · subst hi
          gi_wp2
          refine ⟨trivial, ?_⟩
          refine (CallsIn.inRound lo (callsIn_wide.2 (row_yes HGx.out pre.length l1 HL1.out))).mono ?_
          rintro e X2 ⟨A3, c3, rfl, hs3, hb3⟩
          have HS3 := Lib.hid hs3
          have HB3' := Lib.hid hb3
          clear hs3 hb3
          gi_wp2
          refine ⟨trivial, ?_⟩
          refine (CallsIn.inRound lo (callsIn_wide.2 (same_any l1 l1 12 12 A2 A3 c2 c3 X2 HL12.out.symm HL12.out.symm (by omega) (by omega) X.heap.size X2.heap.size (HSX.out.below HB3'.out) HS3.out HB3'.out.size (Nat.le_refl _)))).mono ?_
          rintro e X4 ⟨rfl, hb4⟩
          rw [show decide (l1 = l1) = true by simp]
          have hb5 : Below X.heap.size X X4 := HB3'.out.trans (hb4.mono HB3'.out.size)
          have hcn4 := (hb5.cell (p := ⟨w3.heap.size, 0, none⟩) HNL.out).trans hcn
          have hfn4 := (hb5.frozen (p := ⟨w3.heap.size, 0, none⟩) HNL.out).trans hfn
          have hco4 := (hb5.cell (p := ⟨w3.heap.size + 1, 0, none⟩) HOL.out).trans hco
          have hfo4 := (hb5.frozen (p := ⟨w3.heap.size + 1, 0, none⟩) HOL.out).trans hfo
          have HB5 := Lib.hid hb5
          clear hb4 hb5
          gi_wp2
          exact FIN.out _ true HB5.out (by rw [HAD.out]; simp)
        · have HI := Lib.hid hi
          have hii : ((i : Int) == (pre.length : Int)) = false := by simp; omega
          clear hi
          gi_wp2
          refine ⟨trivial, ?_⟩
          gi_wp2
          refine ⟨trivial, ?_⟩
          gi_wp2
          exact FIN.out _ false (Below.refl _ _) (by simp [HI.out])
      · have had : decide (pre.map (fun y : Nat × Option Addr × Nat => y.1) = List.range pre.length) = false := by simp [ha]
        rw [had] at hco
        have HAD := Lib.hid had
        clear ha had
        gi_wp2
        refine ⟨trivial, ?_⟩
        gi_wp2
        refine ⟨trivial, ?_⟩
        gi_wp2
        exact FIN.out _ false (Below.refl _ _) (by rw [HAD.out]; rfl)
    · have hke : (pre.length : Int) = k := by omega
      have hge : k ≤ (pre.length : Int) := by omega
      have HBN := Lib.hid hbn
      have HBO := Lib.hid hbo
      have HBW := Lib.hid hbW
      have HKE := Lib.hid hke
      clear hbn hbo hbW hf hflt hpk hlt hsx hGx hXx hYx hz hke hc5
      gi_wp2
      exact ⟨KeepsFrom.refl _ _, ⟨pre, _, rfl, rfl, HKE.out, HBN.out, HBO.out⟩, HBW.out⟩
  case done =>
    rintro D ys f X hD hS ⟨⟨hbn, hbo⟩, hpk, hbW⟩ hK
    have e4 : ys.length = 4 := by have := congrArg List.length hS; simp at this; rw [this]; exact HL4.out
    have ed : decide (ys.map (·.1) = List.range ys.length) = true := by rw [hS, e4, HL4.out]; rfl
    rw [ed] at hbo
    rw [e4] at hbn hpk
    have hx3x : Boxed X w.heap.size 5 (.int .u8 k) := (hbW.block _ hx3l).trans HX3.out
    have hc3 := hx3x.cell
    clear hx3x
    have hcn := hbn.cell
    have hco := hbo.cell
    have h4k : (4 : Int) ≤ k := by omega
    have hfin := (HB3.out.trans (hbW.mono HWB.out)).trans (belowK_b (w := w) (Nat.le_refl _) X D _ (.deferred none) (by have := HSZ.out; have := HWB.out; omega) hK rfl rfl)
    have HFN := Lib.hid hfin
    clear hS ed hbn hbo hbW hfin hpk
    go_wp2
    refine ⟨by simp, .inl ⟨_, _, rfl, run_takeDeferred hK, ?_⟩⟩
    exact ⟨.bool ((4 : Int) == min 4 k), by simp [results, Tryd.f5, go_sem], by rw [show ((4 : Int) == min 4 k) = true by rw [Int.min_eq_left h4k]; rfl], HFN.out⟩
  case stop =>
    rintro D c q f X hD hpre ⟨⟨p, y, rfl, rfl, hpk, hbn, hbo⟩, hbW⟩ hK
    have e2 : p.map (·.1) = List.range p.length := by
      rw [List.map_append] at hpre
      have h1 : p.map (·.1) <+: List.range (fillS l).length := (List.prefix_append _ _).trans hpre
      have h2 := List.prefix_iff_eq_take.1 h1
      rw [List.length_map] at h2
      have h3 := hpre.length_le
      rw [h2, List.take_range, Nat.min_eq_left]
      simp at h3
      omega
    have e3 : p.length < 4 := by
      have h3 := hpre.length_le
      have := HL4.out
      simp at h3
      omega
    rw [decide_eq_true e2] at hbo
    have hx3x : Boxed X w.heap.size 5 (.int .u8 k) := (hbW.block _ hx3l).trans HX3.out
    have hc3 := hx3x.cell
    clear hx3x
    have hcn := hbn.cell
    have hco := hbo.cell
    rw [hpk] at hcn
    have h4k : k < 4 := by omega
    have h4k' : ¬ (4 : Int) ≤ k := by omega
    have hfin := (HB3.out.trans (hbW.mono HWB.out)).trans (belowK_b (w := w) (Nat.le_refl _) X D _ (.deferred none) (by have := HSZ.out; have := HWB.out; omega) hK rfl rfl)
    have HFN := Lib.hid hfin
    clear hpre e2 hbn hbo hbW hfin hpk e3
    gi_wp2
    go_wp2
    refine ⟨by simp, .inl ⟨_, _, rfl, run_takeDeferred hK, ?_⟩⟩
    exact ⟨.bool (k == min 4 k), by simp [results, Tryd.f5, go_sem], by rw [show (k == min 4 k) = true by rw [Int.min_eq_right (by omega)]; simp], HFN.out⟩
end Go.Proofs.YtkkaoajdcgmabaaDoor
