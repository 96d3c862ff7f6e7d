/-
  Walk: esc.changes: the numbers of a style change.
-/
import Derived.Test.YtclkclamdnkdgaaDoorEsSty
import Derived.Deep.RegionHeld3
import Derived.Deep.DeepCutAuto
import Derived.BigRegion
namespace Go.Proofs.YtclkclamdnkdgaaDoor
open Go.RowKit
set_option linter.unusedVariables false
set_option linter.unusedSimpArgs false

/-- the state between the tests: two boxed styles from block B on, the numbers so far behind them -/
def ChS (B : Nat) (w0 w : World) (c b : Sty) (L : List Int) (v : Value) : Prop :=
  ∃ A m k, v = .slice A m k ∧ OR w (B + 2) 3 A m k (i64v L) ∧ Blk w B 33 c.cells ∧ Blk w (B + 1) 33 b.cells ∧ Below B w0 w ∧ B + 2 ≤ w.heap.size

theorem ChS.more {B : Nat} {w0 w w' : World} {c b : Sty} {L : List Int} {A A' : Option Addr} {m k m' k' : Nat} {n : Int} (hO : OR w (B + 2) 3 A m k (i64v L)) (hX : Blk w B 33 c.cells) (hY : Blk w (B + 1) 33 b.cells) (hB : Below B w0 w) (hz : B + 2 ≤ w.heap.size) {o : Obj}
    (hO' : OR w' (B + 2) 3 A' m' k' (i64v L ++ [.int .i64 n])) (hg : (w.alloc o).grownBy w' (blk A)) : ChS B w0 w' c b (L ++ [n]) (.slice A' m' k') := by
  have hb : Below (B + 2) w w' := ((Below.refl _ _).alloc hz _).grown hg (by simp; omega) (fun g hg => (hO.blk_lt g hg).1)
  exact ⟨A', m', k', rfl, by simpa [i64v] using hO', hX.below hb (by omega), hY.below hb (by omega), hB.trans (hb.mono (by omega)), by have := hb.size; omega⟩

set_option maxRecDepth 100000 in
set_option maxHeartbeats 16000000 in
theorem changes_any (a b : Sty) (hb8 : okS b) (w : World) :
    Calls Tryd.prog 44 #[a.val, b.val] w fun e w' => ∃ A n k, e = .returned (.slice A n k) ∧ n = (numsS a b).length ∧ Sl w' w'.heap.size A (i64v (numsS a b)) ∧ Below w.heap.size w w' := by
  have HL := Lib.hid (loses_any a b)
  obtain ⟨Bb, hBb⟩ : ∃ B, B = w.heap.size := ⟨_, rfl⟩
  have HBB := Lib.hid hBb
  obtain ⟨c, hc⟩ : ∃ c, c = baseS a b := ⟨_, rfl⟩
  have HC := Lib.hid hc
  obtain ⟨L0, hL0⟩ : ∃ L : List Int, L = if losesS a b = true then [0] else [] := ⟨_, rfl⟩
  obtain ⟨L1, hL1⟩ : ∃ L : List Int, L = L0 ++ if (b.b && !c.b) = true then [1] else [] := ⟨_, rfl⟩
  obtain ⟨L2, hL2⟩ : ∃ L : List Int, L = L1 ++ if (b.u && !c.u) = true then [4] else [] := ⟨_, rfl⟩
  obtain ⟨L3, hL3⟩ : ∃ L : List Int, L = L2 ++ if (b.i && !c.i) = true then [7] else [] := ⟨_, rfl⟩
  obtain ⟨L4, hL4⟩ : ∃ L : List Int, L = L3 ++ if b.f ≠ c.f then [colN 30 b.f] else [] := ⟨_, rfl⟩
  obtain ⟨L5, hL5⟩ : ∃ L : List Int, L = L4 ++ if b.g ≠ c.g then [colN 40 b.g] else [] := ⟨_, rfl⟩
  have HN : Hid (numsS a b = L5) := Lib.hid (by
    rw [hL5, hL4, hL3, hL2, hL1, hL0, hc]
    unfold numsS
    simp only [Bool.and_eq_true, Bool.not_eq_true'])
  have len0 : L0.length ≤ 1 := by rw [hL0]; split <;> simp
  have len1 : L1.length ≤ 2 := by rw [hL1, List.length_append]; split <;> simp <;> omega
  have len2 : L2.length ≤ 3 := by rw [hL2, List.length_append]; split <;> simp <;> omega
  have len3 : L3.length ≤ 4 := by rw [hL3, List.length_append]; split <;> simp <;> omega
  have len4 : L4.length ≤ 5 := by rw [hL4, List.length_append]; split <;> simp <;> omega
  have HL0 := Lib.hid hL0
  have HL1 := Lib.hid hL1
  have HL2 := Lib.hid hL2
  have HL3 := Lib.hid hL3
  have HL4 := Lib.hid hL4
  have HL5 := Lib.hid hL5
  obtain ⟨q1, q2, q3, q4⟩ := hb8
  have HF := Lib.hid (color_any 30 b.f (by omega) (by omega) q1 q2)
  have HG := Lib.hid (color_any 40 b.g (by omega) (by omega) q3 q4)
  clear hBb hc hL0 hL1 hL2 hL3 hL4 hL5 q1 q2 q3 q4
  have HXa := Lib.hid (Blk.new w 33 a.cells)
  have HYa := Lib.hid (Blk.new (w.alloc (.cells a.cells.toArray 33)) 33 b.cells)
  have HB0 := Lib.hid (((Below.refl w.heap.size w).alloc (Nat.le_refl _) (.cells a.cells.toArray 33)).alloc (by simp) (.cells b.cells.toArray 33))
  show Calls Tryd.prog 44 #[.agg #[.bool a.b, .bool a.u, .bool a.i, .int .i64 a.f, .int .i64 a.g], .agg #[.bool b.b, .bool b.u, .bool b.i, .int .i64 b.f, .int .i64 b.g]] w _
  go_enter Tryd.func44, Tryd.ntmps44
  go_wp2_with (first
    | ((with_reducible refine at_dst 6 ?_); refine wpList_load_mid rfl _ _ rfl w.heap.size 0 rfl a.cells _ (HXa.out.below ((Below.refl _ _).alloc (Nat.le_refl _) _) (by simp)).whole Tryd.underlying33 rfl sty_size ?_)
    | ((with_reducible refine at_dst 7 ?_); refine wpList_load_mid rfl _ _ rfl (w.heap.size + 1) 0 rfl b.cells _ (by have := HYa.out; simp at this; exact this.whole) Tryd.underlying33 rfl sty_size ?_)
    | (go_at_call 52; refine (HL.out _).mono ?_; rintro e w1 ⟨rfl, hb1⟩; have HB1 := Lib.hid hb1; clear hb1; refine Hid.out ?_))
  refine Lib.hid ?_
  have hB1 : Below w.heap.size w w1 := HB0.out.trans (HB1.out.mono HB0.out.size)
  have hX1 : Blk w1 w.heap.size 33 a.cells := ((HXa.out.alloc _).below HB1.out (by simp; omega))
  have hY1 : Blk w1 (w.heap.size + 1) 33 b.cells := by have := HYa.out; simp at this; exact this.below HB1.out (by simp)
  have hz1 : w.heap.size + 2 ≤ w1.heap.size := by have := HB1.out.size; simp at this; omega
  have hcd : c = if losesS a b = true then Sty.zero else a := HC.out
  have HCD := Lib.hid hcd
  have HB2 := Lib.hid hB1
  have HX1 := Lib.hid hX1
  have HY1 := Lib.hid hY1
  generalize losesS a b = d0 at HL0 HCD ⊢
  clear hB1 hX1 hY1 hcd HB1 HB0 HXa HYa HL HC
  go_upto_if 8 with fail
  go_cut [5] (fun s5 wx => ChS w.heap.size w wx c b L0 s5)
  case first =>
    cases d0
    · have HCA : Hid (c = a) := Lib.hid (by rw [HCD.out]; rfl)
      have HLA : Hid (L0 = []) := Lib.hid (by rw [HL0.out]; rfl)
      go_wp2_with fail
      go_meet
      rw [HCA.out, HLA.out]
      exact ⟨none, 0, 0, rfl, OR.none_ _ _ _, HX1.out, HY1.out, HB2.out, hz1⟩
    · have HCA : Hid (c = Sty.zero) := Lib.hid (by rw [HCD.out]; rfl)
      have HLA : Hid (L0 = [0]) := Lib.hid (by rw [HL0.out]; rfl)
      go_wp2_with (first
        | (at_builtin
           refine wpList_app Tryd.underlying54 i64_info rfl (by omega) _ rfl (.tmp 9) (.tmp 10) rfl (w.heap.size + 2) none 0 0 [] rfl (OR.none_ _ _ _) (some ⟨w1.heap.size, 0, none⟩) 1 1 [.int .i64 0] (w1.heap.size + 1) rfl (Sl.new w1 #[.int .i64 0] 3) rfl (fun h => by cases h) (by intro u hu; simp at hu; subst hu; rfl) 1 rfl (by omega) (by simp; omega) ?_
           intro A2 c2 w2 hO2 hg2 _
           have hb2 : Below (w.heap.size + 2) w1 w2 := ((Below.refl _ _).alloc hz1 _).grown hg2 (by simp; omega) (fun g hg => by cases hg)
           have HO2 := Lib.hid hO2
           have HX2 := Lib.hid (HX1.out.below hb2 (by omega))
           have HY2 := Lib.hid (HY1.out.below hb2 (by omega))
           have HB3 := Lib.hid (HB2.out.trans (hb2.mono (by omega)))
           have hz2 : w.heap.size + 2 ≤ w2.heap.size := by have := hb2.size; omega
           clear hO2 hg2 hb2)
        | ((with_reducible refine at_store 2 ?_)
           refine wpList_store_blk rfl _ _ _ rfl rfl w.heap.size 0 _ a.cells Sty.zero.cells rfl rfl HX2.out (by simp [Sty.len]) sty_size Sty.zero.one ?_
           intro w3 hn3 hg3
           have hn3' : Blk w3 w.heap.size 33 Sty.zero.cells := hn3
           have HX3 := Lib.hid hn3'
           have HG3 := Lib.hid hg3
           clear hn3 hn3' hg3))
      go_meet
      rw [HCA.out, HLA.out]
      have hsz : w2.heap.size ≤ w3.heap.size := HG3.out.size
      refine ⟨A2, 1, c2, rfl, ?_, HX3.out, ?_, HB3.out.trans ((Below.refl _ _).grown HG3.out (by omega) (fun g hg => by injection hg with hg; omega)), by omega⟩
      · have := HO2.out.kept HG3.out (.inr (fun h => by have := HO2.out.blk_lt _ h; omega))
        simpa [i64v] using this
      · exact (HG3.out.block (w.heap.size + 1) (by omega) (fun h => by injection h with h; omega)).trans HY2.out
  case rest =>
  clear HCD HL0 HX1 HY1 HB2 hz1
  obtain ⟨A0, m0, k0, rfl, hO, hX, hY, hBB, hz0⟩ := hcut
  have HO0 := Lib.hid hO
  have HX0 := Lib.hid hX
  have HY0 := Lib.hid hY
  have HB0 := Lib.hid hBB
  have hm0 : m0 ≤ 6 := by have := hO.len; rw [i64v_length] at this; omega
  clear hO hX hY hBB
  generalize wc = wq1 at HO0 HX0 HY0 HB0 hz0 ⊢
  have x1 := HX0.out.cell 0
  have y1 := HY0.out.cell 0
  simp only [Sty.cells, List.getElem?_cons_zero, List.getElem?_cons_succ] at x1 y1
  obtain ⟨d1, hd1⟩ : ∃ d, d = (b.b && !c.b) := ⟨_, rfl⟩
  have HD1 := Lib.hid hd1
  clear hd1
  go_upto_region 5 with fail
  go_cut [19] (fun s wx => s = .bool d1 ∧ wq1 = wx)
  case first =>
    obtain ⟨p, hp⟩ : ∃ r, r = b.b := ⟨_, rfl⟩
    rw [← hp] at y1 HD1
    clear hp
    obtain ⟨q, hq⟩ : ∃ r, r = c.b := ⟨_, rfl⟩
    rw [← hq] at x1 HD1
    clear hq
    cases p <;> cases q
    all_goals
      go_wp2_with fail
      go_meet
      exact ⟨by rw [HD1.out]; rfl, rfl⟩
  case rest =>
  obtain ⟨rfl, rfl⟩ := hcut
  have HLd1 : Hid (L1 = L0 ++ if d1 = true then [1] else []) := Lib.hid (by rw [HL1.out, HD1.out])
  clear HD1 x1
  go_upto_if 19 with fail
  go_cut [5] (fun s5 wx => ChS w.heap.size w wx c b L1 s5)
  case first =>
    cases d1
    · have HLA : Hid (L1 = L0) := Lib.hid (by rw [HLd1.out]; simp)
      go_wp2_with fail
      go_meet
      rw [HLA.out]
      exact ⟨A0, m0, k0, rfl, HO0.out, HX0.out, HY0.out, HB0.out, hz0⟩
    · have HLA : Hid (L1 = L0 ++ [1]) := Lib.hid (by rw [HLd1.out]; rfl)
      go_wp2_with (first
        | (at_builtin
           refine wpList_app Tryd.underlying54 i64_info rfl (by omega) _ rfl (.tmp 20) (.tmp 21) rfl (w.heap.size + 2) A0 m0 k0 (i64v L0) rfl (HO0.out.alloc _) (some ⟨wq1.heap.size, 0, none⟩) 1 1 [.int .i64 (1)] (wq1.heap.size + 1) rfl (Sl.new wq1 #[.int .i64 (1)] 3) rfl (fun h => by cases h) (by intro u hu; simp at hu; subst hu; rfl) (m0 + 1) rfl (by omega) (by simp; omega) ?_
           intro A2 c2 w2 hO2 hg2 _
           have HM := Lib.hid (ChS.more (b := b) HO0.out HX0.out HY0.out HB0.out hz0 hO2 hg2)
           clear hO2 hg2)
        )
      go_meet
      rw [HLA.out]
      exact HM.out
  case rest =>
  clear HLd1 HO0 HX0 HY0 HB0 hz0 hm0
  obtain ⟨A1, m1, k1, rfl, hO, hX, hY, hBB, hz1⟩ := hcut
  have HO1 := Lib.hid hO
  have HX1 := Lib.hid hX
  have HY1 := Lib.hid hY
  have HB1 := Lib.hid hBB
  have hm1 : m1 ≤ 6 := by have := hO.len; rw [i64v_length] at this; omega
  clear hO hX hY hBB
  generalize wc = wq2 at HO1 HX1 HY1 HB1 hz1 ⊢
  have x2 := HX1.out.cell 1
  have y2 := HY1.out.cell 1
  simp only [Sty.cells, List.getElem?_cons_zero, List.getElem?_cons_succ] at x2 y2
  obtain ⟨d2, hd2⟩ : ∃ d, d = (b.u && !c.u) := ⟨_, rfl⟩
  have HD2 := Lib.hid hd2
  clear hd2
  go_upto_region 7 with fail
  go_cut [29] (fun s wx => s = .bool d2 ∧ wq2 = wx)
  case first =>
    obtain ⟨p, hp⟩ : ∃ r, r = b.u := ⟨_, rfl⟩
    rw [← hp] at y2 HD2
    clear hp
    obtain ⟨q, hq⟩ : ∃ r, r = c.u := ⟨_, rfl⟩
    rw [← hq] at x2 HD2
    clear hq
    cases p <;> cases q
    all_goals
      go_wp2_with fail
      go_meet
      exact ⟨by rw [HD2.out]; rfl, rfl⟩
  case rest =>
  obtain ⟨rfl, rfl⟩ := hcut
  have HLd2 : Hid (L2 = L1 ++ if d2 = true then [4] else []) := Lib.hid (by rw [HL2.out, HD2.out])
  clear HD2 x2
  go_upto_if 29 with fail
  go_cut [5] (fun s5 wx => ChS w.heap.size w wx c b L2 s5)
  case first =>
    cases d2
    · have HLA : Hid (L2 = L1) := Lib.hid (by rw [HLd2.out]; simp)
      go_wp2_with fail
      go_meet
      rw [HLA.out]
      exact ⟨A1, m1, k1, rfl, HO1.out, HX1.out, HY1.out, HB1.out, hz1⟩
    · have HLA : Hid (L2 = L1 ++ [4]) := Lib.hid (by rw [HLd2.out]; rfl)
      go_wp2_with (first
        | (at_builtin
           refine wpList_app Tryd.underlying54 i64_info rfl (by omega) _ rfl (.tmp 30) (.tmp 31) rfl (w.heap.size + 2) A1 m1 k1 (i64v L1) rfl (HO1.out.alloc _) (some ⟨wq2.heap.size, 0, none⟩) 1 1 [.int .i64 (4)] (wq2.heap.size + 1) rfl (Sl.new wq2 #[.int .i64 (4)] 3) rfl (fun h => by cases h) (by intro u hu; simp at hu; subst hu; rfl) (m1 + 1) rfl (by omega) (by simp; omega) ?_
           intro A2 c2 w2 hO2 hg2 _
           have HM := Lib.hid (ChS.more (b := b) HO1.out HX1.out HY1.out HB1.out hz1 hO2 hg2)
           clear hO2 hg2)
        )
      go_meet
      rw [HLA.out]
      exact HM.out
  case rest =>
  clear HLd2 HO1 HX1 HY1 HB1 hz1 hm1
  obtain ⟨A2, m2, k2, rfl, hO, hX, hY, hBB, hz2⟩ := hcut
  have HO2 := Lib.hid hO
  have HX2 := Lib.hid hX
  have HY2 := Lib.hid hY
  have HB2 := Lib.hid hBB
  have hm2 : m2 ≤ 6 := by have := hO.len; rw [i64v_length] at this; omega
  clear hO hX hY hBB
  generalize wc = wq3 at HO2 HX2 HY2 HB2 hz2 ⊢
  have x3 := HX2.out.cell 2
  have y3 := HY2.out.cell 2
  simp only [Sty.cells, List.getElem?_cons_zero, List.getElem?_cons_succ] at x3 y3
  obtain ⟨d3, hd3⟩ : ∃ d, d = (b.i && !c.i) := ⟨_, rfl⟩
  have HD3 := Lib.hid hd3
  clear hd3
  go_upto_region 9 with fail
  go_cut [39] (fun s wx => s = .bool d3 ∧ wq3 = wx)
  case first =>
    obtain ⟨p, hp⟩ : ∃ r, r = b.i := ⟨_, rfl⟩
    rw [← hp] at y3 HD3
    clear hp
    obtain ⟨q, hq⟩ : ∃ r, r = c.i := ⟨_, rfl⟩
    rw [← hq] at x3 HD3
    clear hq
    cases p <;> cases q
    all_goals
      go_wp2_with fail
      go_meet
      exact ⟨by rw [HD3.out]; rfl, rfl⟩
  case rest =>
  obtain ⟨rfl, rfl⟩ := hcut
  have HLd3 : Hid (L3 = L2 ++ if d3 = true then [7] else []) := Lib.hid (by rw [HL3.out, HD3.out])
  clear HD3 x3
  go_upto_if 39 with fail
  go_cut [5] (fun s5 wx => ChS w.heap.size w wx c b L3 s5)
  case first =>
    cases d3
    · have HLA : Hid (L3 = L2) := Lib.hid (by rw [HLd3.out]; simp)
      go_wp2_with fail
      go_meet
      rw [HLA.out]
      exact ⟨A2, m2, k2, rfl, HO2.out, HX2.out, HY2.out, HB2.out, hz2⟩
    · have HLA : Hid (L3 = L2 ++ [7]) := Lib.hid (by rw [HLd3.out]; rfl)
      go_wp2_with (first
        | (at_builtin
           refine wpList_app Tryd.underlying54 i64_info rfl (by omega) _ rfl (.tmp 40) (.tmp 41) rfl (w.heap.size + 2) A2 m2 k2 (i64v L2) rfl (HO2.out.alloc _) (some ⟨wq3.heap.size, 0, none⟩) 1 1 [.int .i64 (7)] (wq3.heap.size + 1) rfl (Sl.new wq3 #[.int .i64 (7)] 3) rfl (fun h => by cases h) (by intro u hu; simp at hu; subst hu; rfl) (m2 + 1) rfl (by omega) (by simp; omega) ?_
           intro A2 c2 w2 hO2 hg2 _
           have HM := Lib.hid (ChS.more (b := b) HO2.out HX2.out HY2.out HB2.out hz2 hO2 hg2)
           clear hO2 hg2)
        )
      go_meet
      rw [HLA.out]
      exact HM.out
  case rest =>
  clear HLd3 HO2 HX2 HY2 HB2 hz2 hm2
  obtain ⟨A3, m3, k3, rfl, hO, hX, hY, hBB, hz3⟩ := hcut
  have HO3 := Lib.hid hO
  have HX3 := Lib.hid hX
  have HY3 := Lib.hid hY
  have HB3 := Lib.hid hBB
  have hm3 : m3 ≤ 6 := by have := hO.len; rw [i64v_length] at this; omega
  clear hO hX hY hBB
  generalize wc = wq4 at HO3 HX3 HY3 HB3 hz3 ⊢
  have x4 := HX3.out.cell 3
  have y4 := HY3.out.cell 3
  simp only [Sty.cells, List.getElem?_cons_zero, List.getElem?_cons_succ] at x4 y4
  obtain ⟨d4, hd4⟩ : ∃ d, d = decide (b.f ≠ c.f) := ⟨_, rfl⟩
  have HD4 := Lib.hid hd4
  clear hd4
  go_upto_region 11 with fail
  go_cut [47] (fun s wx => s = .bool d4 ∧ wq4 = wx)
  case first =>
    obtain ⟨p, hp⟩ : ∃ r, r = b.f := ⟨_, rfl⟩
    rw [← hp] at y4 HD4
    clear hp
    obtain ⟨q, hq⟩ : ∃ r, r = c.f := ⟨_, rfl⟩
    rw [← hq] at x4 HD4
    clear hq
    by_cases hpq : p = q
    · subst hpq
      go_wp2_with fail
      go_meet
      exact ⟨by rw [HD4.out]; simp, rfl⟩
    · have hb1 : (p == q) = false := by simpa using hpq
      have HPQ := Lib.hid hpq
      go_wp2_with fail
      go_meet
      exact ⟨by rw [HD4.out]; simp [HPQ.out], rfl⟩
  case rest =>
  obtain ⟨rfl, rfl⟩ := hcut
  have HLd4 : Hid (L4 = L3 ++ if d4 = true then [colN 30 b.f] else []) := Lib.hid (by rw [HL4.out, HD4.out]; simp)
  clear HD4 x4
  go_upto_if 47 with fail
  go_cut [5] (fun s5 wx => ChS w.heap.size w wx c b L4 s5)
  case first =>
    cases d4
    · have HLA : Hid (L4 = L3) := Lib.hid (by rw [HLd4.out]; simp)
      go_wp2_with fail
      go_meet
      rw [HLA.out]
      exact ⟨A3, m3, k3, rfl, HO3.out, HX3.out, HY3.out, HB3.out, hz3⟩
    · have HLA : Hid (L4 = L3 ++ [colN 30 b.f]) := Lib.hid (by rw [HLd4.out]; rfl)
      go_wp2_with (first
        | (at_builtin
           refine wpList_app Tryd.underlying54 i64_info rfl (by omega) _ rfl (.tmp 48) (.tmp 52) rfl (w.heap.size + 2) A3 m3 k3 (i64v L3) rfl (HO3.out.alloc _) (some ⟨wq4.heap.size, 0, none⟩) 1 1 [.int .i64 (colN 30 b.f)] (wq4.heap.size + 1) rfl (Sl.new wq4 #[.int .i64 (colN 30 b.f)] 3) rfl (fun h => by cases h) (by intro u hu; simp at hu; subst hu; rfl) (m3 + 1) rfl (by omega) (by simp; omega) ?_
           intro A2 c2 w2 hO2 hg2 _
           have HM := Lib.hid (ChS.more (b := b) HO3.out HX3.out HY3.out HB3.out hz3 hO2 hg2)
           clear hO2 hg2)
        | (go_at_call 53; refine (HF.out _).mono ?_; rintro e w' ⟨rfl, rfl⟩)
        )
      go_meet
      rw [HLA.out]
      exact HM.out
  case rest =>
  clear HLd4 HO3 HX3 HY3 HB3 hz3 hm3
  obtain ⟨A4, m4, k4, rfl, hO, hX, hY, hBB, hz4⟩ := hcut
  have HO4 := Lib.hid hO
  have HX4 := Lib.hid hX
  have HY4 := Lib.hid hY
  have HB4 := Lib.hid hBB
  have hm4 : m4 ≤ 6 := by have := hO.len; rw [i64v_length] at this; omega
  clear hO hX hY hBB
  generalize wc = wq5 at HO4 HX4 HY4 HB4 hz4 ⊢
  have x5 := HX4.out.cell 4
  have y5 := HY4.out.cell 4
  simp only [Sty.cells, List.getElem?_cons_zero, List.getElem?_cons_succ] at x5 y5
  obtain ⟨d5, hd5⟩ : ∃ d, d = decide (b.g ≠ c.g) := ⟨_, rfl⟩
  have HD5 := Lib.hid hd5
  clear hd5
  go_upto_region 13 with fail
  go_cut [58] (fun s wx => s = .bool d5 ∧ wq5 = wx)
  case first =>
    obtain ⟨p, hp⟩ : ∃ r, r = b.g := ⟨_, rfl⟩
    rw [← hp] at y5 HD5
    clear hp
    obtain ⟨q, hq⟩ : ∃ r, r = c.g := ⟨_, rfl⟩
    rw [← hq] at x5 HD5
    clear hq
    by_cases hpq : p = q
    · subst hpq
      go_wp2_with fail
      go_meet
      exact ⟨by rw [HD5.out]; simp, rfl⟩
    · have hb1 : (p == q) = false := by simpa using hpq
      have HPQ := Lib.hid hpq
      go_wp2_with fail
      go_meet
      exact ⟨by rw [HD5.out]; simp [HPQ.out], rfl⟩
  case rest =>
  obtain ⟨rfl, rfl⟩ := hcut
  have HLd5 : Hid (L5 = L4 ++ if d5 = true then [colN 40 b.g] else []) := Lib.hid (by rw [HL5.out, HD5.out]; simp)
  clear HD5 x5
  go_upto_if 58 with fail
  go_cut [5] (fun s5 wx => ChS w.heap.size w wx c b L5 s5)
  case first =>
    cases d5
    · have HLA : Hid (L5 = L4) := Lib.hid (by rw [HLd5.out]; simp)
      go_wp2_with fail
      go_meet
      rw [HLA.out]
      exact ⟨A4, m4, k4, rfl, HO4.out, HX4.out, HY4.out, HB4.out, hz4⟩
    · have HLA : Hid (L5 = L4 ++ [colN 40 b.g]) := Lib.hid (by rw [HLd5.out]; rfl)
      go_wp2_with (first
        | (at_builtin
           refine wpList_app Tryd.underlying54 i64_info rfl (by omega) _ rfl (.tmp 59) (.tmp 63) rfl (w.heap.size + 2) A4 m4 k4 (i64v L4) rfl (HO4.out.alloc _) (some ⟨wq5.heap.size, 0, none⟩) 1 1 [.int .i64 (colN 40 b.g)] (wq5.heap.size + 1) rfl (Sl.new wq5 #[.int .i64 (colN 40 b.g)] 3) rfl (fun h => by cases h) (by intro u hu; simp at hu; subst hu; rfl) (m4 + 1) rfl (by omega) (by simp; omega) ?_
           intro A2 c2 w2 hO2 hg2 _
           have HM := Lib.hid (ChS.more (b := b) HO4.out HX4.out HY4.out HB4.out hz4 hO2 hg2)
           clear hO2 hg2)
        | (go_at_call 53; refine (HG.out _).mono ?_; rintro e w' ⟨rfl, rfl⟩)
        )
      go_meet
      rw [HLA.out]
      exact HM.out
  case rest =>
  clear HLd5 HO4 HX4 HY4 HB4 hz4 hm4
  obtain ⟨A5, m5, k5, rfl, hO, hX, hY, hBB, hz5⟩ := hcut
  have HO5 := Lib.hid hO
  have HB5 := Lib.hid hBB
  have HM5 := Lib.hid hO.len
  clear hO hX hY hBB
  go_wp2_with fail
  go_ret
  exact ⟨A5, m5, k5, rfl, by rw [HM5.out, i64v_length, HN.out], by rw [HN.out]; exact HO5.out.sl, HB5.out⟩
end Go.Proofs.YtclkclamdnkdgaaDoor
