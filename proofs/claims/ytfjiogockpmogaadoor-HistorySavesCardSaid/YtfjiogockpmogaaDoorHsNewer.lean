/-
  Walk: Newer of a history in a walk.
-/
import Derived.Test.YtfjiogockpmogaaDoorHsNew
namespace Go.Proofs.YtfjiogockpmogaaDoor
open Go.RowKit Go.Shelf Go.Sort
attribute [local go_sem] Oper.semAt_some
set_option linter.unusedVariables false
set_option linter.unusedSimpArgs false

theorem hsback_any (X : Option Addr) (n c : Nat) (w : World) : Calls Tryd.prog 45 #[.slice X n c] w fun e w' =>
    e = .returned (.func (.func 59) #[] #[.pointer (some ⟨w.heap.size, 0, none⟩)]) ∧ w' = w.alloc (.cells #[.slice X n c] 27) := by
  go_enter Tryd.func45, Tryd.ntmps45
  go_wp2
  go_ret
  exact ⟨rfl, rfl⟩
theorem hstrs_elem : Tryd.prog.underlying 27 = some (.slice (Tryd.prog.elem 27)) := by kernel_rfl
theorem hstrs_esize (w : World) : (sizeOf (Tryd.prog.elem 27)).run Tryd.prog w = .ok 1 w := by kernel_rfl
/-- slicing from the start -/
theorem hsl_h (A : Option Addr) (n C hi : Nat) (h2 : hi ≤ C) (w : World) :
    (Instr.slice 27 (.slice A n C) none (some (.int .i64 hi)) none).run Tryd.prog w = .ok (.slice A hi C) w := by
  rw [run_slice_h w 27 A n C hstrs_elem .i64 hi (by omega) (by omega), hstrs_esize]
  cases A <;> simp [Result.andThen, sliced, Addr.add]

/-- the line of a walk before a place -/
def prevW (d b : List UInt8) (L : List (List UInt8)) (i : Nat) : Option (Nat × List UInt8) := (hats (L.take i)).reverse.find? (fun x => hasW d b x.2)
/-- What Newer comes to. -/
def NewP (w : World) (lo h : Nat) (A : Option Addr) (c most : Nat) (L : List (List UInt8)) (k : HW) (e : Ending) (w' : World) : Prop :=
  (prevW k.d k.b L k.i = none ∧ e = .returned (.tuple #[.string ⟨k.d.toArray⟩, .bool true]) ∧ HsAt w' lo h A c most L none ∧ Chg (one h) w w') ∨
  (∃ i l, prevW k.d k.b L k.i = some (i, l) ∧ e = .returned (.tuple #[.string ⟨l.toArray⟩, .bool true]) ∧ HsAt w' lo h A c most L (some ⟨k.d, k.b, i, k.xd, k.xb⟩) ∧ Chg (one h) w w')

/-- the three stores of a round -/
def newW (w W : World) (h : Nat) (l : List UInt8) (i : Nat) : World :=
  ((W.setCell ⟨h, 5, none⟩ (.int .i64 i)).setCell ⟨w.heap.size + 1, 0, none⟩ (.string ⟨l.toArray⟩)).setCell ⟨w.heap.size + 1 + 1, 0, none⟩ (.bool true)
theorem new_fin {w W : World} {lo h : Nat} {A : Option Addr} {c most : Nat} {L : List (List UInt8)} {k : HW} (q : HsAt W lo h A c most L (some k)) (hO : ∀ j, HsAt.Own h A (some k) j → j < w.heap.size) (z2 : Boxed W (w.heap.size + 1) 9 (.string ⟨#[]⟩)) (z3 : Boxed W (w.heap.size + 1 + 1) 4 (.bool false)) (hb : Below w.heap.size w W) (i : Nat) (hi : i < L.length) (l : List UInt8) :
    HsAt (newW w W h l i) lo h A c most L (some ⟨k.d, k.b, i, k.xd, k.xb⟩) ∧ Boxed (newW w W h l i) (w.heap.size + 1) 9 (.string ⟨l.toArray⟩) ∧ Boxed (newW w W h l i) (w.heap.size + 1 + 1) 4 (.bool true) ∧ Chg (one h) w (newW w W h l i) ∧ ∀ B, KeepsFrom B W (newW w W h l i) := by
  have hh := hO h (.inl rfl)
  have hbz := hb.size
  have hc : Chg (fun j => j = h ∨ j = w.heap.size + 1 ∨ j = w.heap.size + 1 + 1) W (newW w W h l i) :=
    (((Chg.refl _ W).setCell (p := ⟨h, 5, none⟩) (.inl (.inl rfl)) _).setCell (p := ⟨w.heap.size + 1, 0, none⟩) (.inl (.inr (.inl rfl))) _).setCell (p := ⟨w.heap.size + 1 + 1, 0, none⟩) (.inl (.inr (.inr rfl))) _
  have hw := q.wk k rfl
  have hwn := q.wne (k := k) rfl
  have hx := hO k.xd (.inr (.inr ⟨k, rfl, .inl rfl⟩))
  have hy := hO k.xb (.inr (.inr ⟨k, rfl, .inr rfl⟩))
  refine ⟨⟨?_, ?_, ?_, q.lc, ?_, q.le, q.m1, q.m4, q.lo, q.ok, q.nn⟩, ?_, ?_, ?_, fun B => ?_⟩
  · exact ((q.head.set_ 5 (.int .i64 i)).setO (k := w.heap.size + 1) (by omega) 0 (.string ⟨l.toArray⟩)).setO (k := w.heap.size + 1 + 1) (by omega) 0 (.bool true)
  · exact (hc.sl q.row (Nat.le_refl _) (fun g off e hx => by
      have h1 := hO g (.inr (.inl (by rw [e]; rfl)))
      have h2 := (q.rne g (by rw [e]; rfl)).2.1
      rcases hx with hx | hx | hx <;> omega)).more hc.size
  · exact fun g hg => ⟨(q.rne g hg).1, (q.rne g hg).2.1, Nat.lt_of_lt_of_le (q.rne g hg).2.2 hc.size⟩
  · have n1 : ¬ (k.xd = h ∨ k.xd = w.heap.size + 1 ∨ k.xd = w.heap.size + 1 + 1) := by
      rintro (e | e | e)
      · exact hwn.1 e
      · omega
      · omega
    have n2 : ¬ (k.xb = h ∨ k.xb = w.heap.size + 1 ∨ k.xb = w.heap.size + 1 + 1) := by
      rintro (e | e | e)
      · exact hwn.2 e
      · omega
      · omega
    have m1 := hc.heap hw.1.bd n1
    have m2 := hc.heap hw.1.bb n2
    intro p hp
    cases hp
    exact ⟨⟨m1, m2, hw.1.dl, hw.1.bl⟩, hw.2.1, hw.2.2.1, hi⟩
  · exact Boxed.setO (Boxed.set _ (Boxed.setO z2 (k := h) (by omega) 5 _)) (k := w.heap.size + 1 + 1) (by omega) 0 _
  · exact Boxed.set _ (Boxed.setO (Boxed.setO z3 (k := h) (by omega) 5 _) (k := w.heap.size + 1) (by omega) 0 _)
  · exact (Chg.of_below (S := one h) hb).trans hc (fun j hj => by rcases hj with rfl | rfl | rfl <;> first | exact .inl rfl | exact .inr (by omega))
  · exact ((KeepsOthers.setCell W ⟨h, 5, none⟩ (.int .i64 i)).trans (KeepsOthers.setCell _ ⟨w.heap.size + 1, 0, none⟩ _)).trans (KeepsOthers.setCell _ ⟨w.heap.size + 1 + 1, 0, none⟩ _) |>.from B

set_option maxRecDepth 100000 in
set_option maxHeartbeats 8000000 in
theorem hnewer_some {w : World} {lo h c most : Nat} {A : Option Addr} {L : List (List UInt8)} {k : HW} (q : HsAt w lo h A c most L (some k)) (hlw : lo ≤ w.heap.size) :
    Calls Tryd.prog 25 #[.pointer (some ⟨h, 0, none⟩)] w (NewP w lo h A c most L k) := by
  have hbx := boxes3 w (some ⟨h, 0, none⟩) _ rfl
  obtain ⟨hb, z1, z2, z3, hsz⟩ := hbx
  obtain ⟨d, b, i, xd, xb⟩ := k
  have HO : Hid (∀ j, HsAt.Own h A (some ⟨d, b, i, xd, xb⟩) j → j < w.heap.size) := Lib.hid (fun j hj => (q.own_lt j hj).2)
  have Q1 := Lib.hid (q.below hb)
  have hl4 := q.len4
  have hi := (q.wk _ rfl).2.2.2
  have hlc := q.lc.1
  simp only at hi
  have HB := Lib.hid hb
  have HZ1 := Lib.hid z1
  have HZ2 := Lib.hid z2
  have HZ3 := Lib.hid z3
  have HSZ := Lib.hid hsz
  clear q hb hsz z1 z2 z3
  refine (callsIn_wide (n := 9)).1 ?_
  refine callsIn_of_wp_marks Tryd.func25 rfl trivial ?_ rfl
  simp only [Tryd.ntmps25, List.size_toArray, List.length_cons, List.length_nil, Nat.reduceAdd, Nat.reduceSub, Array.replicate_succ, Array.replicate_zero, List.push_toArray, List.append_toArray, List.nil_append, List.cons_append]
  refine wpIn_wide.2 ?_
  go_upto_region 1 with (fail)
  generalize ((w.alloc (.cells #[.pointer (some ⟨h, 0, none⟩)] 23)).alloc (.cells #[.string ⟨#[]⟩] 9)).alloc (.cells #[.bool false] 4) = w1 at *
  have c0 := Q1.out.c0
  have k1 := Boxed.cell HZ1.out
  have h2 := Q1.out.c2
  have h4 : w1.cell? ⟨h, 4, none⟩ = some (hasF xd xb) := Q1.out.head.cell 4
  have h5 : w1.cell? ⟨h, 5, none⟩ = some (.int .i64 i) := Q1.out.head.cell 5
  have hn := fn_nil xd xb
  unfold hasF at h4 hn
  go_wp2_with (go_at_call 35; refine (hmade_yes h _ c0).mono ?_; rintro e w' ⟨rfl, rfl⟩)
  have E := fun V => hsl_h A L.length c i (by omega) V
  have r1 := cell_regrown k1
  have r2 := cell_regrown h2
  have r5 := cell_regrown h5
  refine wp_region_below_tail 10 (by kernel_rfl) (by kernel_rfl) ?_
  simp only [List.take_succ_cons, List.take_zero, List.drop_succ_cons, List.drop_zero]
  repeat (first
    | go_big_quiet_step (fail)
    | quiet_step (fail))
  refine wpQuiet_nil ?_
  intro _ hw'
  obtain ⟨⟨dq, osq⟩, hw''⟩ := hw'
  subst hw''
  have HBQ := Lib.hid (below_regrown w1 dq osq)
  clear r1 r2 r5 E
  generalize grow (redrawn w1 dq) osq = w2 at *
  go_wp2_with (go_at_call 45; refine (hsback_any _ _ _ _).mono ?_; rintro e w' ⟨rfl, rfl⟩)
  obtain ⟨bd, hbd⟩ : ∃ bd, bd = w2.heap.size := ⟨_, rfl⟩
  obtain ⟨X1, hX1⟩ : ∃ X1, X1 = w2.alloc (.cells #[.slice A i c] 27) := ⟨_, rfl⟩
  have hb2X : Below w2.heap.size w2 X1 := by rw [hX1]; exact (Below.refl _ _).alloc (Nat.le_refl _) _
  have hb1X : Below w1.heap.size w1 X1 := HBQ.out.trans (hb2X.mono HBQ.out.size)
  have hbX : Below w.heap.size w X1 := HB.out.trans (hb1X.mono HB.out.size)
  have qX := Q1.out.below hb1X
  have y0 : Boxed X1 bd 27 (.slice A i c) := by rw [hX1, hbd]; exact Boxed.new _ _ _
  have hszX : X1.heap.size = bd + 1 := by rw [hX1, hbd]; simp
  have hbd3 : w.heap.size + 3 ≤ bd := by rw [hbd]; have := HBQ.out.size; have := HSZ.out; omega
  have y1 : Boxed X1 w.heap.size 23 (.pointer (some ⟨h, 0, none⟩)) := (hb1X.block _ (Boxed.lt HZ1.out)).trans HZ1.out
  have y2 : Boxed X1 (w.heap.size + 1) 9 (.string ⟨#[]⟩) := (hb1X.block _ (Boxed.lt HZ2.out)).trans HZ2.out
  have y3 : Boxed X1 (w.heap.size + 1 + 1) 4 (.bool false) := (hb1X.block _ (Boxed.lt HZ3.out)).trans HZ3.out
  rw [← hX1, ← hbd]
  have HQX := Lib.hid qX
  have HBX := Lib.hid hbX
  have HY1 := Lib.hid y1
  have HY2 := Lib.hid y2
  have HY3 := Lib.hid y3
  have HY0 := Lib.hid y0
  have HSX := Lib.hid hszX
  have hxs : bd < X1.heap.size := by omega
  clear hn k1 h2 h4 h5 c0 hb2X hb1X hbX qX y0 y1 y2 y3 hszX hX1 hbd HBQ
  refine (wpIn_wide (n := 9)).1 ?_
  refine range_priv rfl (by omega) (gf := 59) (lb := #[.pointer (some ⟨bd, 0, none⟩)]) rfl trivial (enters_of Tryd.func59 (by kernel_rfl) rfl)
    (hback_stops (L.take i) i c A 6 bd X1 (by rw [List.length_take]; omega) (by omega) (by rw [← sv_take]; exact HQX.out.row.take i) HY0.out (fun k => k = bd ∨ blk A = some k) (.inl rfl) (fun k hk => .inr hk))
    (Nat.le_refl _) (fun k hk => ⟨by
      rcases hk with hk | hk
      · omega
      · have := HO.out k (.inr (.inl hk)); omega, rfl⟩) (fun _ => rfl)
    (fun pre f W => (∀ y ∈ pre, hasW d b y.2 = false) ∧ Below X1.heap.size X1 W)
    (OldX w lo h A c most L d b xd xb)
    (AbP.and (AbP.pure _) (AbP.below (Nat.le_refl _) (Nat.le_refl _)))
    (OldX.ab (by omega) (by omega) (by omega) (fun i' k hk => by
      have : k < w.heap.size := by
        rcases hk with rfl | hk | ⟨p, hp, hk⟩
        · exact HO.out _ (.inl rfl)
        · exact HO.out _ (.inr (.inl hk))
        · cases hp; exact HO.out _ (.inr (.inr ⟨_, rfl, hk⟩))
      omega))
    ⟨by simp, Below.refl _ _⟩
    ?a1 ?assign ?body ?done ?stop
  case assign =>
    intro l x W K hK
    simp only [encH]
    rw [put_two]
    gi_wp2
    exact hK
  case body =>
    rintro lo' pre x f W hff hz ⟨hno, hbW⟩ hlen hel
    have qW := HQX.out.below hbW
    have hxi : x.1 < i := by have := (List.getElem?_eq_some_iff.1 hel).1; rw [List.length_take] at this; omega
    have hel2 : L[x.1]? = some x.2 := by rw [List.getElem?_take, if_pos hxi] at hel; exact hel
    have hx2 : x.2.length ≤ 3000 := (qW.ok x.2 (List.mem_iff_getElem?.2 ⟨_, hel2⟩)).2
    have hxl : x.1 < L.length := by omega
    have hwk := (qW.wk _ rfl).1
    have k1 : W.cell? ⟨w.heap.size, 0, none⟩ = some (.pointer (some ⟨h, 0, none⟩)) := Boxed.cell ((hbW.block _ (Boxed.lt HY1.out)).trans HY1.out)
    have z2 : Boxed W (w.heap.size + 1) 9 (.string ⟨#[]⟩) := (hbW.block _ (Boxed.lt HY2.out)).trans HY2.out
    have z3 : Boxed W (w.heap.size + 1 + 1) 4 (.bool false) := (hbW.block _ (Boxed.lt HY3.out)).trans HY3.out
    have h4 : W.cell? ⟨h, 4, none⟩ = some (.func (.func 63) #[] #[.pointer (some ⟨xd, 0, none⟩), .pointer (some ⟨xb, 0, none⟩)]) := qW.head.cell 4
    have h5 : W.cell? ⟨h, 5, none⟩ = some (.int .i64 i) := qW.head.cell 5
    have f5 := qW.head.frozen 5
    have r1 := z2.cell
    have fr1 := z2.frozen
    have r2 := z3.cell
    have fr2 := z3.frozen
    have HAS := Lib.hid (has_any d b x.2 hwk.dl hwk.bl (by omega) xd xb W hwk.bd.cell hwk.bb.cell)
    have hb2 : Below w.heap.size w W := HBX.out.trans (hbW.mono (by omega))
    have HFIN := Lib.hid (new_fin qW HO.out z2 z3 hb2 x.1 hxl x.2)
    have HNO := Lib.hid hno
    have HBW := Lib.hid hbW
    have hn1 : h < w.heap.size := HO.out h (.inl rfl)
    have hn5 : h < w.heap.size + 1 := by omega
    have hn6 : h < w.heap.size + 1 + 1 := by omega
    by_cases hv : hasW d b x.2 = true
    · rw [hv] at HAS
      have HV := Lib.hid hv
      clear hno hbW hv hel hel2 hlen hff qW hwk z2 z3 hb2
      gi_wp2_with (fail)
      refine ⟨trivial, ?_⟩
      refine (CallsIn.inRound lo' (callsIn_wide.2 HAS.out)).mono ?_
      rintro e w' ⟨rfl, rfl⟩
      gi_wp2
      have hf := HFIN.out
      exact ⟨hf.2.2.2.2 _, rfl, pre, x, rfl, HNO.out, HV.out, hf.1, hf.2.1, hf.2.2.1, hf.2.2.2.1⟩
    · have hv' : hasW d b x.2 = false := by simpa using hv
      rw [hv'] at HAS
      have HV := Lib.hid hv'
      clear hno hbW hv hv' hel hel2 hlen hff qW hwk z2 z3 hb2
      gi_wp2_with (fail)
      refine ⟨trivial, ?_⟩
      refine (CallsIn.inRound lo' (callsIn_wide.2 HAS.out)).mono ?_
      rintro e w' ⟨rfl, rfl⟩
      gi_wp2
      exact ⟨Rk.refl _ _ _, (fun y hy => by
        rcases List.mem_append.1 hy with hy | hy
        · exact HNO.out y hy
        · simp only [List.mem_cons, List.not_mem_nil, or_false] at hy
          rw [hy]; exact HV.out), HBW.out⟩
  case done =>
    rintro D ys f W hD hys ⟨hno, hbW⟩ hK
    have hnone : prevW d b L i = none := by
      unfold prevW
      rw [← hys]
      exact find_nowhere hno
    have qW := HQX.out.below hbW
    have k1 : W.cell? ⟨w.heap.size, 0, none⟩ = some (.pointer (some ⟨h, 0, none⟩)) := Boxed.cell ((hbW.block _ (Boxed.lt HY1.out)).trans HY1.out)
    have z2 : Boxed W (w.heap.size + 1) 9 (.string ⟨#[]⟩) := (hbW.block _ (Boxed.lt HY2.out)).trans HY2.out
    have z3 : Boxed W (w.heap.size + 1 + 1) 4 (.bool false) := (hbW.block _ (Boxed.lt HY3.out)).trans HY3.out
    have h3 : W.cell? ⟨h, 3, none⟩ = some (.string ⟨d.toArray⟩) := qW.head.cell 3
    have hn1 : h < w.heap.size := HO.out h (.inl rfl)
    have hb2 : Below w.heap.size w W := HBX.out.trans (hbW.mono (by omega))
    have HQW := Lib.hid qW
    have HN := Lib.hid hnone
    have HB2 := Lib.hid hb2
    have HZ2' := Lib.hid z2
    have HZ3' := Lib.hid z3
    have HDK := Lib.hid hK
    clear hno hbW hys hnone qW z2 z3 hb2 hK
    go_wp2_with (go_at_call 29; refine (hleave_any HQW.out).mono ?_; rintro e W2 ⟨rfl, hq2, hc2⟩; have Q2 := Lib.hid hq2; have HC2 := Lib.hid hc2; have hm1 : ¬ one h (w.heap.size + 1) := (by unfold one; omega); have hm2 : ¬ one h (w.heap.size + 1 + 1) := (by unfold one; omega); have HW2 := Lib.hid (Boxed.chgH HZ2'.out HC2.out hm1); have HW3 := Lib.hid (Boxed.chgH HZ3'.out HC2.out hm2); have e2 := Boxed.cell HW2.out; have g2 := Boxed.frozen HW2.out; have e3 := Boxed.cell HW3.out; have g3 := Boxed.frozen HW3.out; clear hq2 hc2 hm1 hm2)
    have hDh : ¬ one h D := by unfold one; omega
    have hK2 := HC2.out.heap HDK.out hDh
    have hK' := ((KeepsOthers.setCell W2 ⟨w.heap.size + 1, 0, none⟩ (.string ⟨d.toArray⟩)).trans (KeepsOthers.setCell _ ⟨w.heap.size + 1 + 1, 0, none⟩ (.bool true))).same D _ hK2 rfl
    refine ⟨by simp, .inl ⟨_, _, rfl, run_takeDeferred hK', ?_⟩⟩
    have z2 := Boxed.setO (Boxed.set (.string ⟨d.toArray⟩) HW2.out) (k := w.heap.size + 1 + 1) (by omega) 0 (.bool true)
    have z3 := Boxed.set (.bool true) (Boxed.setO HW3.out (k := w.heap.size + 1) (by omega) 0 (.string ⟨d.toArray⟩))
    have hchg : Chg (fun k => k = w.heap.size + 1 ∨ k = w.heap.size + 1 + 1) W2 ((W2.setCell ⟨w.heap.size + 1, 0, none⟩ (.string ⟨d.toArray⟩)).setCell ⟨w.heap.size + 1 + 1, 0, none⟩ (.bool true)) := ((Chg.refl _ W2).setCell (p := ⟨w.heap.size + 1, 0, none⟩) (.inl (.inl rfl)) _).setCell (p := ⟨w.heap.size + 1 + 1, 0, none⟩) (.inl (.inr rfl)) _
    generalize (W2.setCell ⟨w.heap.size + 1, 0, none⟩ (.string ⟨d.toArray⟩)).setCell ⟨w.heap.size + 1 + 1, 0, none⟩ (.bool true) = W9 at *
    have hO2 : ∀ k, HsAt.Own h A none k → k < w.heap.size := fun k hk => by
      rcases hk with rfl | hk | ⟨p, hp, _⟩
      · exact HO.out _ (.inl rfl)
      · exact HO.out _ (.inr (.inl hk))
      · cases hp
    have hq9 : HsAt W9 lo h A c most L none := Q2.out.keep hchg (fun k hk => by have := hO2 k hk; omega)
    have hch : Chg (one h) w W9 := ((Chg.of_below (S := one h) HB2.out).trans HC2.out (fun _ h => .inl h)).trans hchg (fun k hk => .inr (by omega))
    have hend := old_end hq9 hK' z2 z3 hch (by omega)
    have c2 := hend.2.1
    have c3 := hend.2.2.1
    have hP : NewP w lo h A c most L ⟨d, b, i, xd, xb⟩ (.returned (.tuple #[.string ⟨d.toArray⟩, .bool true])) (W9.putObj D (.deferred none)) := .inl ⟨HN.out, rfl, hend.1, hend.2.2.2⟩
    have HP := Lib.hid hP
    clear hP hend
    refine ⟨.tuple #[.string ⟨d.toArray⟩, .bool true], by simp [results, Tryd.f25, go_sem, c2, c3], ?_⟩
    exact HP.out
  case stop =>
    rintro D co pre f W hD hpre ⟨rfl, p, x, hp, hno, hv, hq, z2, z3, hch⟩ hK
    rw [hp] at hpre
    have hsome : prevW d b L i = some (x.1, x.2) := find_here hno hv hpre
    have hend := old_end hq hK z2 z3 hch (by omega)
    have c2 := hend.2.1
    have c3 := hend.2.2.1
    have hP : NewP w lo h A c most L ⟨d, b, i, xd, xb⟩ (.returned (.tuple #[.string ⟨x.2.toArray⟩, .bool true])) (W.putObj D (.deferred none)) := .inr ⟨x.1, x.2, hsome, rfl, hend.1, hend.2.2.2⟩
    have HP := Lib.hid hP
    clear hP hend hsome hpre hp hno hv hq z2 z3 hch
    gi_wp2
    refine ⟨by simp, .inl ⟨_, _, rfl, run_takeDeferred hK, ?_⟩⟩
    refine ⟨.tuple #[.string ⟨x.2.toArray⟩, .bool true], by simp [results, Tryd.f25, go_sem, c2, c3], ?_⟩
    exact HP.out
end Go.Proofs.YtfjiogockpmogaaDoor
