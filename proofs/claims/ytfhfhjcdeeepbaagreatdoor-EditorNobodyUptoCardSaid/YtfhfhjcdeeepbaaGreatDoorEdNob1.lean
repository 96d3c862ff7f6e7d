/-
  Walks: what a line without a buffer does: join, is, enter.
-/
import Derived.Test.YtfhfhjcdeeepbaaGreatDoorEgZ
import Derived.Test.YtfhfhjcdeeepbaaGreatDoorGpNob4
namespace Go.Proofs.YtfhfhjcdeeepbaaGreatDoor
open Go.RowKit Go.Shelf Go.Sort
attribute [local go_sem] Oper.semAt_some
set_option linter.unusedVariables false
set_option linter.unusedSimpArgs false

def JIn (w : World) (jb lb : Nat) (old : List UInt8) (pre : List (Nat × Int)) (W : World) : Prop :=
  ((Boxed W jb 9 (.string ⟨(jf old (pre.map (·.2))).toArray⟩) ∧ Boxed W lb 45 (.pointer none)) ∧ NoW pre) ∧ Below w.heap.size w W
def JXn (w : World) (jb lb : Nat) (old : List UInt8) (c : Code) (pre : List (Nat × Int)) (W : World) : Prop :=
  c = .exit 0 ∧ ∃ p q, pre = p ++ [q] ∧ 0 < ofI q.2 ∧ JIn w jb lb old p W
set_option maxRecDepth 100000 in
set_option maxHeartbeats 8000000 in

set_option maxRecDepth 100000 in
set_option maxHeartbeats 8000000 in
theorem ljoin_coreN {w : World} (f : Nat) (hf4 : f ≤ 4096) (hT : Tabs w) (x : ByteArray) (hx : x.size ≤ 4000000) (old : List UInt8) (b : Bool) (c' : List UInt8) (hold : old = [] ∨ isC old = true)
    (hc' : c' = jmk old (rs x.data.toList))
    (hCur : ∀ W : World, Calls Tryz.prog 26 #[.pointer none] W fun e w' => e = .returned (.int .i64 f) ∧ Below W.heap.size W w')
    (hAt : ∀ W : World, Calls Tryz.prog 89 #[.pointer none, .int .i64 ((f : Int) - 1)] W fun e w' => e = .returned (.tuple #[.string ⟨old.toArray⟩, .bool b]) ∧ Below W.heap.size W w')
    (hRep : ∀ W : World, Calls Tryz.prog 91 #[.pointer none, .int .i64 ((f : Int) - 1), .string ⟨c'.toArray⟩] W fun e w' => (∃ v, e = .returned v) ∧ Below W.heap.size W w') :
    Calls Tryz.prog 69 #[.agg #[.pointer none], .string x] w fun e w' => e = .returned (.bool (!decide (c' = old))) ∧ Below w.heap.size w w' := by
  obtain ⟨hb0, hx0⟩ := line_box (w := w) (v := .pointer none)
  have HB0 := Lib.hid hb0
  have HX0 := Lib.hid hx0
  have QAT := Lib.hid hAt
  have QREP := Lib.hid hRep
  have HT := Lib.hid (hT.below hb0)
  have HTW := Lib.hid hT
  have HOLD := Lib.hid hold
  have HC' := Lib.hid hc'
  have QCUR := Lib.hid hCur
  have hdec : (!(c' == old)) = (!decide (c' = old)) := by rw [Bool.eq_iff_iff]; simp
  have HDEC := Lib.hid hdec
  clear hCur hb0 hx0 hAt hRep hT hold hc' hdec
  refine (callsIn_wide (n := 9)).1 ?_
  refine callsIn_of_wp_marks Tryz.func69 rfl trivial ?_ rfl
  simp only [Tryz.ntmps69, List.size_toArray, List.length_cons, List.length_nil, Nat.reduceAdd, Nat.reduceSub, Array.replicate_succ, Array.replicate_zero, List.push_toArray, List.append_toArray, List.nil_append, List.cons_append]
  refine wpIn_wide.2 ?_
  go_wp2_with (first
    | (go_at_call 26; refine (QCUR.out _).mono ?_; rintro e w1 ⟨rfl, hb1⟩; have hk1 := Boxed.cell (box_bel HX0.out hb1); have HB1 := Lib.hid hb1; clear hb1)
    | (go_at_call 89; refine (QAT.out _).mono ?_; rintro e w2 ⟨rfl, hb2⟩; have hk2 := Boxed.cell (box_bel (box_bel HX0.out HB1.out) hb2); have HB2 := Lib.hid hb2; clear hb2)
    | (go_at_call 83; refine (all_any _ _).mono ?_; rintro e w' ⟨rfl, rfl⟩))
  refine (wpIn_wide (n := 9)).1 ?_
  have hB2w : Below w.heap.size w w2 := HB0.out.trans ((HB1.out.trans (HB2.out.mono HB1.out.size)).mono HB0.out.size)
  have hL2 : Boxed w2 w.heap.size 45 (.pointer none) := box_bel (box_bel HX0.out HB1.out) HB2.out
  have hB := (Boxed.new w2 9 (.string ⟨old.toArray⟩)).alloc (.cells #[.string x] 9)
  have hS := Boxed.new (w2.alloc (.cells #[.string ⟨old.toArray⟩] 9)) 9 (.string x)
  rw [World.size_alloc] at hS
  have hbX : Below w2.heap.size w2 ((w2.alloc (.cells #[.string ⟨old.toArray⟩] 9)).alloc (.cells #[.string x] 9)) := ((Below.refl _ w2).alloc (Nat.le_refl _) _).alloc (by simp) _
  have hLX := box_bel hL2 hbX
  have hB3 : Below w.heap.size w ((w2.alloc (.cells #[.string ⟨old.toArray⟩] 9)).alloc (.cells #[.string x] 9)) := hB2w.trans (hbX.mono hB2w.size)
  have hlb : w.heap.size < w2.heap.size := hL2.lt
  have hsz : ((w2.alloc (.cells #[.string ⟨old.toArray⟩] 9)).alloc (.cells #[.string x] 9)).heap.size = w2.heap.size + 2 := by simp
  generalize hX1 : (w2.alloc (.cells #[.string ⟨old.toArray⟩] 9)).alloc (.cells #[.string x] 9) = X1 at *
  clear hX1 hk1 hk2
  have hI : OwnFrom X1.heap.size (JIn w w2.heap.size w.heap.size old) :=
    OwnFrom.and (OwnFrom.and (OwnFrom.and (Own.from (boxed_own _ _ _) _) (Own.from (boxed_own _ _ _) _)) (fun _ _ _ _ hs _ _ => hs)) (ownFrom_below (Nat.le_refl _) (by omega))
  have HI := Lib.hid hI
  refine wpIn_rangeFunc_ownG rfl (by omega) (gf := 107) (lb := #[.pointer (some ⟨w2.heap.size + 1, 0, none⟩)]) rfl trivial (enters_of Tryz.func107 (by kernel_rfl) rfl)
    (all_stops 8 (by omega) (w2.heap.size + 1) w.heap.size x hx X1 hS.cell) KpS.t (KpS.b (by omega)) (Below.refl _ _) (fun _ => rfl)
    (JIn w w2.heap.size w.heap.size old)
    (JXn w w2.heap.size w.heap.size old)
    hI
    (fun c pre X Y row hs hg hr => by
      obtain ⟨h1, p, q, h2, h3, h4⟩ := hs
      exact ⟨h1, p, q, h2, h3, hI p X Y row h4 hg hr⟩)
    ⟨⟨⟨hB, hLX⟩, fun q hq => by cases hq⟩, hB3⟩
    (fun x_ => { tmps := #[.agg #[.pointer none], .string x, .pointer (some ⟨w.heap.size, 0, none⟩), undef, .bool false, .int .i64 ((f : Int) - 1), .string ⟨old.toArray⟩, .bool b, .pointer (some ⟨w2.heap.size, 0, none⟩), undef, .int .i32 x_.2, .pointer (some ⟨w.heap.size, 0, none⟩), .pointer none, .int .i64 f, .int .i64 ((f : Int) - 1), .tuple #[.string ⟨old.toArray⟩, .bool b], .pointer (some ⟨w.heap.size, 0, none⟩), .pointer none, .int .i64 ((f : Int) - 1), .tuple #[.string ⟨old.toArray⟩, .bool b], .string ⟨old.toArray⟩, .bool b, .string ⟨old.toArray⟩, .string x, .func (.func 107) #[] #[.pointer (some ⟨w2.heap.size + 1, 0, none⟩)], .int .i64 x_.1, .int .i32 x_.2, undef, undef, undef, undef, undef, undef, undef, undef, undef, undef, undef, undef, undef, undef, undef, undef, undef], defers := [] }) ?assign ?body ?done ?stop
  case assign =>
    intro l x W K hK
    simp only [encR]
    rw [put_two]
    gi_wp2
    exact hK
  case body =>
    rintro lo_ pre q W ⟨⟨⟨hbj, hbl⟩, hpr⟩, hbW⟩ hlen
    have htW : Tabs W := HTW.out.below hbW
    have hof := of_any q.2 W htW
    have HOF := Lib.hid hof
    have HBJ := Lib.hid hbj
    have HBL := Lib.hid hbl
    have HPR := Lib.hid hpr
    have HBW := Lib.hid hbW
    have HTB := Lib.hid htW
    by_cases hpos : 0 < ofI q.2
    · have HPOS := Lib.hid hpos
      have hpos' : (ofI q.2) > 0 := hpos
      clear hof hbj hbl hpr hbW htW hB hS hLX hB3 hI hL2 hbX hB2w hpos
      gi_wp2
      refine ⟨trivial, ?_⟩
      refine (CallsIn.inRound lo_ (callsIn_wide.2 HOF.out)).mono ?_
      rintro e W3 ⟨rfl, hb3⟩
      gi_wp2
      exact ⟨(keeps_of_below hb3).from _, rfl, pre, q, rfl, HPOS.out, ⟨⟨box_bel HBJ.out hb3, box_bel HBL.out hb3⟩, HPR.out⟩, HBW.out.trans (hb3.mono HBW.out.size)⟩
    · have HPOS := Lib.hid hpos
      have hpos' : ¬ (ofI q.2) > 0 := hpos
      have hjl := jf_len (xs := pre.map (·.2)) HOLD.out
      have hjn := fun (V : World) (hV : Tabs V) => cjoin_any (jf old (pre.map (·.2))) (by omega) q.2 V hV
      have hsn : jf old ((pre ++ [q]).map (·.2)) = (joinB (jf old (pre.map (·.2))) q.2).1 := by rw [List.map_append]; exact jf_snoc _ _ _
      have HJN := Lib.hid hjn
      have HSN := Lib.hid hsn
      clear hof hbj hbl hpr hbW htW hB hS hLX hB3 hI hL2 hbX hB2w hpos hjn hsn hjl
      gi_wp2
      refine ⟨trivial, ?_⟩
      refine (CallsIn.inRound lo_ (callsIn_wide.2 HOF.out)).mono ?_
      rintro e W3 ⟨rfl, hb3⟩
      have k3 := (box_bel HBJ.out hb3).cell
      have HB3 := Lib.hid hb3
      clear hb3
      gi_wp2
      refine ⟨trivial, ?_⟩
      refine (CallsIn.inRound lo_ (callsIn_wide.2 (HJN.out W3 (HTB.out.below HB3.out)))).mono ?_
      rintro e W4 ⟨rfl, hb4⟩
      have hb34 := HB3.out.trans (hb4.mono HB3.out.size)
      have hb := box_bel HBJ.out hb34
      have k4 := hb.cell
      have f4 := hb.frozen
      have HB := Lib.hid hb
      have HB34 := Lib.hid hb34
      clear hb hb4 hb34 k3
      gi_wp2
      refine ⟨((keeps_of_below HB34.out).trans (KeepsOthers.setCell _ _ _)).from _, ⟨(HB34.out.mono HBW.out.size).setCell (p := ⟨w2.heap.size, 0, none⟩) (show w.heap.size ≤ w2.heap.size by omega) _, fun e => ?_⟩, ⟨⟨?_, (box_bel HBL.out HB34.out).other (by omega) _⟩, fun y hy => ?_⟩, (HBW.out.trans (HB34.out.mono HBW.out.size)).setCell (p := ⟨w2.heap.size, 0, none⟩) (show w.heap.size ≤ w2.heap.size by omega) _⟩
      · rw [World.cell?_setCell_other _ _ _ _ (by simp)]
        exact (HB34.out.cell (p := ⟨w2.heap.size + 1, 0, none⟩) (cell_lt' e)).trans e
      · rw [HSN.out]
        exact HB.out.set _
      · rcases List.mem_append.1 hy with hy | hy
        · exact HPR.out y hy
        · simp at hy; subst hy; have h9 := HPOS.out; show ¬ 0 < ofI y.2; omega
  case done =>
    rintro D ys W hD rfl ⟨⟨⟨hbj, hbl⟩, hpr⟩, hbW⟩ hK
    have hld : jf old ((rnsOf x.data.toList).map (·.2)) = c' := by
      rw [HC'.out]
      unfold jmk
      rw [lead_all (xs := rs x.data.toList) (fun r hr => by
        obtain ⟨q, hq, rfl⟩ := List.mem_map.1 hr
        exact hpr q hq)]
      rfl
    rw [hld] at hbj
    have HFIN := Lib.hid hbj
    have HBL := Lib.hid hbl
    have HBW := Lib.hid hbW
    have HTB := Lib.hid (HTW.out.below hbW)
    have kj := hbj.cell
    have kl := hbl.cell
    have HK := Lib.hid hK
    clear hbj hbl hpr hbW hB hS hLX hB3 hI HI hL2 hbX hB2w hld hK
    go_wp2_with (go_at_call 91; refine (QREP.out W).mono ?_; rintro e w5 ⟨⟨v, rfl⟩, hc5⟩; have k5 := (box_bel HFIN.out hc5).cell; have HC5 := Lib.hid hc5; clear hc5)
    have hK5 : w5.heap[D]? = some (.deferred (some [])) := (HC5.out.block D (Array.getElem?_eq_some_iff.1 HK.out).1).trans HK.out
    refine ⟨by simp, .inl ⟨_, _, rfl, run_takeDeferred hK5, ?_⟩⟩
    exact ⟨_, results_tmp rfl _ _ _, (by rw [← HDEC.out]; rfl), (HBW.out.trans (HC5.out.mono HBW.out.size)).trans (belowK_b (w := w) (Nat.le_refl _) w5 D _ _ (by omega) hK5 rfl rfl)⟩
  case stop =>
    rintro D c pre W hD hpre ⟨rfl, p', q, hp, hpos, ⟨⟨hbj, hbl⟩, hpr⟩, hbW⟩ hK
    have hld : jf old (p'.map (·.2)) = c' := by
      rw [HC'.out]
      unfold jmk
      obtain ⟨t', ht⟩ := hpre
      have e1 : rs x.data.toList = p'.map (·.2) ++ q.2 :: t'.map (·.2) := by
        unfold rs
        rw [← ht, hp]
        simp
      rw [e1, lead_stop (fun r hr => by
        obtain ⟨q, hq, rfl⟩ := List.mem_map.1 hr
        exact hpr q hq) hpos]
    rw [hld] at hbj
    clear hp hpos hpre
    have HFIN := Lib.hid hbj
    have HBL := Lib.hid hbl
    have HBW := Lib.hid hbW
    have HTB := Lib.hid (HTW.out.below hbW)
    have kj := hbj.cell
    have kl := hbl.cell
    have HK := Lib.hid hK
    clear hbj hbl hpr hbW hB hS hLX hB3 hI HI hL2 hbX hB2w hld hK
    gi_wp2
    go_wp2_with (go_at_call 91; refine (QREP.out W).mono ?_; rintro e w5 ⟨⟨v, rfl⟩, hc5⟩; have k5 := (box_bel HFIN.out hc5).cell; have HC5 := Lib.hid hc5; clear hc5)
    have hK5 : w5.heap[D]? = some (.deferred (some [])) := (HC5.out.block D (Array.getElem?_eq_some_iff.1 HK.out).1).trans HK.out
    refine ⟨by simp, .inl ⟨_, _, rfl, run_takeDeferred hK5, ?_⟩⟩
    exact ⟨_, results_tmp rfl _ _ _, (by rw [← HDEC.out]; rfl), (HBW.out.trans (HC5.out.mono HBW.out.size)).trans (belowK_b (w := w) (Nat.le_refl _) w5 D _ _ (by omega) hK5 rfl rfl)⟩

theorem gno (w : World) : GpNo w none := .inl rfl
theorem ljoin_none {w : World} (hT : Tabs w) (x : ByteArray) (hx : x.size ≤ 4000000) :
    Calls Tryz.prog 69 #[.agg #[.pointer none], .string x] w fun e w' => e = .returned (.bool false) ∧ Below w.heap.size w w' := by
  have hj : jmk [] (rs x.data.toList) = [] := jf_nil _
  refine (ljoin_coreN 0 (by omega) hT x hx [] false [] (.inl rfl) hj.symm (fun W => ?_) (fun W => ?_) (fun W => ?_)).mono ?_
  · refine (gcursor_not (gno W)).mono ?_
    rintro e w' ⟨rfl, rfl⟩
    exact ⟨rfl, Below.refl _ _⟩
  · refine (gat_not (gno W) _).mono ?_
    rintro e w' ⟨rfl, rfl⟩
    exact ⟨rfl, Below.refl _ _⟩
  · refine (greplace_not (gno W) _ _).mono ?_
    rintro e w' ⟨rfl, rfl⟩
    exact ⟨⟨_, rfl⟩, Below.refl _ _⟩
  · rintro e w' ⟨rfl, hb⟩
    exact ⟨rfl, hb⟩
end Go.Proofs.YtfhfhjcdeeepbaaGreatDoor
