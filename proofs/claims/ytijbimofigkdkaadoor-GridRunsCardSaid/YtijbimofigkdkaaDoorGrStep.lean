/-
  Walk: step of law 4: a call of both.
-/
import Derived.Test.YtijbimofigkdkaaDoorGrResize
import Derived.Test.YtijbimofigkdkaaDoorRfJoin
import Derived.Test.YtijbimofigkdkaaDoorRfScroll
import Derived.Test.YtijbimofigkdkaaDoorGrFill
namespace Go.Proofs.YtijbimofigkdkaaDoor
open Go.RowKit
set_option linter.unusedVariables false
set_option linter.unusedSimpArgs false

set_option maxHeartbeats 1000000 in
theorem resize_no {w : World} {lo g rb W : Nat} {bs : List Nat} {L : List (List Cl)} (h : GrAt w lo g rb bs W L) (a b row : Int) (q : Int) (hbad : ((sideB a = false ∨ sideB b = false) ∧ q = 40) ∨ (sideB a = true ∧ sideB b = true ∧ inB row 0 W L.length = false ∧ q = 5)) :
    Calls Tryd.prog 25 #[.pointer (some ⟨g, 0, none⟩), .int .i64 a, .int .i64 b, .int .i64 row] w fun e w' => e = .returned (.tuple #[.int .i64 0, .int .i64 q]) ∧ Below w.heap.size w w' := by
  have H := Lib.hid h
  clear h
  rcases hbad with ⟨h1, rfl⟩ | ⟨h1, h2, h3, rfl⟩
  · obtain ⟨x, hx⟩ : ∃ x, sideB a = x := ⟨_, rfl⟩
    obtain ⟨y, hy⟩ : ∃ y, sideB b = y := ⟨_, rfl⟩
    rw [hx, hy] at h1
    have HX := Lib.hid hx
    have HY := Lib.hid hy
    clear hx hy
    have key : x = false ∨ (x = true ∧ y = false) := by cases x <;> cases y <;> simp_all
    clear h1
    rcases key with rfl | ⟨rfl, rfl⟩
    · go_enter Tryd.func25, Tryd.ntmps25
      go_wp2_with (first
        | (go_at_call 33; refine (made_yes g _ H.out.ptr).mono ?_; rintro e w' ⟨rfl, rfl⟩)
        | (go_at_call 28; refine (side_any _ _).mono ?_; rintro e w' ⟨rfl, rfl⟩; rw [HX.out]))
      go_ret2
      exact ⟨rfl, Below.refl _ _⟩
    · go_enter Tryd.func25, Tryd.ntmps25
      go_wp2_with (go_at_call 33; refine (made_yes g _ H.out.ptr).mono ?_; rintro e w' ⟨rfl, rfl⟩)
      refine (side_any _ _).mono ?_
      rintro e w' ⟨rfl, rfl⟩
      rw [HX.out]
      go_wp2_with (fail)
      refine (side_any _ _).mono ?_
      rintro e w' ⟨rfl, rfl⟩
      rw [HY.out]
      go_wp2
      go_ret2
      exact ⟨rfl, Below.refl _ _⟩
  · have HX := Lib.hid h1
    have HY := Lib.hid h2
    have HIN := Lib.hid h3
    clear h1 h2 h3
    go_enter Tryd.func25, Tryd.ntmps25
    go_wp2_with (go_at_call 33; refine (made_yes g _ H.out.ptr).mono ?_; rintro e w' ⟨rfl, rfl⟩)
    refine (side_any _ _).mono ?_
    rintro e w' ⟨rfl, rfl⟩
    rw [HX.out]
    go_wp2_with (fail)
    refine (side_any _ _).mono ?_
    rintro e w' ⟨rfl, rfl⟩
    rw [HY.out]
    go_wp2_with (fail)
    refine (has_bel H.out row 0).mono ?_
    rintro e w1 ⟨rfl, hb1⟩
    rw [HIN.out]
    go_wp2
    go_ret2
    exact ⟨rfl, hb1⟩
/-- Resize, whatever comes -/
theorem resize_any {w : World} {lo g rb W : Nat} {bs : List Nat} {L : List (List Cl)} (h : GrAt w lo g rb bs W L) (hT : BlankT w) (hlo : 0 < lo) (hlo2 : lo ≤ w.heap.size) (a b row : Int) :
    Calls Tryd.prog 25 #[.pointer (some ⟨g, 0, none⟩), .int .i64 a, .int .i64 b, .int .i64 row] w fun e w' => e = .returned (.tuple #[.int .i64 (rszM W L a b row).2.2.1, .int .i64 (rszM W L a b row).2.2.2]) ∧
      ∃ rb' bs', GrAt w' lo g rb' bs' (rszM W L a b row).2.1 (rszM W L a b row).1 ∧ (∀ k, GrOwn g rb' bs' k → GrOwn g rb bs k ∨ w.heap.size ≤ k) ∧ Chg (GrOwn g rb bs) w w' := by
  unfold rszM
  by_cases h1 : sideB a = false ∨ sideB b = false
  · rw [if_pos h1]
    exact (resize_no h a b row 40 (.inl ⟨h1, rfl⟩)).mono fun e w' ⟨he, hb⟩ => ⟨he, rb, bs, h.below hb, fun _ h => .inl h, Chg.of_below hb⟩
  · rw [if_neg h1]
    have ha : sideB a = true := by simpa using fun e => h1 (.inl e)
    have hb : sideB b = true := by simpa using fun e => h1 (.inr e)
    by_cases h2 : inB row 0 W L.length = false
    · rw [if_pos h2]
      exact (resize_no h a b row 5 (.inr ⟨ha, hb, h2, rfl⟩)).mono fun e w' ⟨he, hb⟩ => ⟨he, rb, bs, h.below hb, fun _ h => .inl h, Chg.of_below hb⟩
    · rw [if_neg h2]
      have a' : inB row 0 W L.length = true := by simpa using h2
      obtain ⟨r0, r1⟩ : 0 ≤ row ∧ row < L.length := by simp [inB] at a'; omega
      obtain ⟨A1, A2⟩ : 1 ≤ a ∧ a ≤ 500 := by simpa [sideB] using ha
      obtain ⟨B1, B2⟩ : 1 ≤ b ∧ b ≤ 500 := by simpa [sideB] using hb
      obtain ⟨r, rfl⟩ := Int.eq_ofNat_of_zero_le r0
      obtain ⟨x, rfl⟩ := Int.eq_ofNat_of_zero_le (show 0 ≤ a by omega)
      obtain ⟨y, rfl⟩ := Int.eq_ofNat_of_zero_le (show 0 ≤ b by omega)
      exact resize_ok h hT hlo hlo2 x y r (by omega) (by omega) (by omega) (by omega) (by omega)

theorem blk12 {w : World} {b : Nat} {t : TypeId} {o : OpV} (h : Blk w b t o.cells) : w.cell? ⟨b, 0, none⟩ = some (.int .u8 o.d) ∧ w.cell? ⟨b, 1, none⟩ = some (.int .i64 o.row) ∧ w.cell? ⟨b, 2, none⟩ = some (.int .i64 o.col) ∧ w.cell? ⟨b, 3, none⟩ = some (.string ⟨o.s.toArray⟩) ∧ w.cell? ⟨b, 4, none⟩ = some (.int .i64 o.cols) ∧ w.cell? ⟨b, 5, none⟩ = some (.bool o.y.b) ∧ w.cell? ⟨b, 6, none⟩ = some (.bool o.y.u) ∧ w.cell? ⟨b, 7, none⟩ = some (.bool o.y.i) ∧ w.cell? ⟨b, 8, none⟩ = some (.int .i64 o.y.f) ∧ w.cell? ⟨b, 9, none⟩ = some (.int .i64 o.y.g) ∧ w.cell? ⟨b, 10, none⟩ = some (.int .i64 o.z) ∧ w.cell? ⟨b, 11, none⟩ = some (.int .i64 o.n) :=
  ⟨h.cell 0, h.cell 1, h.cell 2, h.cell 3, h.cell 4, h.cell 5, h.cell 6, h.cell 7, h.cell 8, h.cell 9, h.cell 10, h.cell 11⟩

/-- what step leaves -/
def StepP (w : World) (lo g : Nat) (Own D : Nat → Prop) (e : Ending) (w' : World) : Prop :=
  ∃ V rb' bs' W' L', e = .returned (.tuple #[V, .bool true]) ∧ GrAt w' lo g rb' bs' W' L' ∧ RfV w' (fun b => (D b ∨ w.heap.size ≤ b) ∧ ¬ GrOwn g rb' bs' b) V W' L' ∧ (∀ k, GrOwn g rb' bs' k → Own k ∨ w.heap.size ≤ k) ∧ Chg Own w w'
theorem step_fin {w W0 w1 w2 w5 : World} {lo g rb rb1 W W1 : Nat} {bs bs1 : List Nat} {L L1 : List (List Cl)} {D : Nat → Prop} {V : Value} (h : GrAt w lo g rb bs W L) (hD : ∀ b, b < w.heap.size → D b → ¬ GrOwn g rb bs b)
    (hb0 : Below w.heap.size w W0) (hg1 : GrAt w1 lo g rb1 bs1 W1 L1) (ho : ∀ k, GrOwn g rb1 bs1 k → GrOwn g rb bs k ∨ W0.heap.size ≤ k) (hc1 : Chg (GrOwn g rb bs) W0 w1)
    (hv : RfV w2 (fun b => (D b ∧ b < w.heap.size) ∨ w1.heap.size ≤ b) V W1 L1) (hb2 : Below w1.heap.size w1 w2) (hs0 : w.heap.size + 3 ≤ W0.heap.size) (hc5 : Chg (one (w.heap.size + 1 + 1)) w2 w5) : StepP w lo g (GrOwn g rb bs) D (.returned (.tuple #[V, .bool true])) w5 := by
  have hs1 := hc1.size
  have hs2 := hb2.size
  have hlt := h.own_lt
  have hlt1 := hg1.own_lt
  have hn6 : ∀ k, GrOwn g rb1 bs1 k → k ≠ w.heap.size + 1 + 1 := fun k hk => by
    rcases ho k hk with h' | h'
    · have := hlt k h'; omega
    · omega
  refine ⟨V, rb1, bs1, W1, L1, rfl, (hg1.below hb2).keep hc5 (fun k hk e => hn6 k hk e), ?_, fun k hk => (ho k hk).imp id (fun h' => by have := hb0.size; omega), ?_⟩
  · refine (hv.chg hc5 (fun b _ h' e => by have e' : b = w.heap.size + 1 + 1 := e; omega)).mono (fun b _ h' => ?_)
    rcases h' with ⟨h1, h2⟩ | h1
    · exact ⟨.inl h1, fun hk => (ho b hk).elim (hD b h2 h1) (fun h3 => by omega)⟩
    · exact ⟨.inr (by omega), fun hk => by have := hlt1 b hk; omega⟩
  · exact (((Chg.of_below hb0).trans hc1 (fun _ h => .inl h)).trans (Chg.of_below (S := GrOwn g rb bs) hb2) (fun _ h => .inl h)).trans hc5 (fun k e => .inr (by have e' : k = w.heap.size + 1 + 1 := e; omega))

set_option maxRecDepth 100000 in
set_option maxHeartbeats 32000000 in
theorem step_any {w : World} {lo g rb W : Nat} {bs : List Nat} {L : List (List Cl)} (h : GrAt w lo g rb bs W L) (hT : BlankT w) (hlo : 0 < lo) (hlo2 : lo ≤ w.heap.size) {D : Nat → Prop} {A : Option Addr} {c : Nat} (hr : RfAt w D A c L) (hD : ∀ b, b < w.heap.size → D b → ¬ GrOwn g rb bs b) (o : OpV) (ho : o.ok) (hs70 : o.s.length ≤ 70) :
    Calls Tryd.prog 15 #[.pointer (some ⟨g, 0, none⟩), .agg #[.int .i64 W, .int .i64 L.length, .slice A L.length c], .agg o.cells.toArray] w (StepP w lo g (GrOwn g rb bs) D) := by
  obtain ⟨W0, hW0⟩ : ∃ W0, W0 = ((w.alloc (.cells #[.int .i64 W, .int .i64 L.length, .slice A L.length c] 29)).alloc (.cells o.cells.toArray 36)).alloc (.cells #[.int .i64 0, .int .i64 0, .slice none 0 0] 29) := ⟨_, rfl⟩
  have hb0 : Below w.heap.size w W0 := by rw [hW0]; exact (((Below.refl _ _).alloc (Nat.le_refl _) _).alloc (by simp) _).alloc (by simp; omega) _
  have h1 : Blk W0 w.heap.size 29 (rgC W L.length A c) := by rw [hW0]; exact ((Blk.new w _ (rgC W L.length A c)).alloc _).alloc _
  have h2 : Blk W0 (w.heap.size + 1) 36 o.cells := by rw [hW0]; exact (Blk.new1 w _ _ o.cells).alloc _
  have h3 : Blk W0 (w.heap.size + 1 + 1) 29 (rgC 0 0 none 0) := by rw [hW0]; exact Blk.new2 w _ _ _ (rgC 0 0 none 0)
  have hs0 : w.heap.size + 3 ≤ W0.heap.size := by rw [hW0]; simp
  have hgl := h.own_lt
  have pre : ∀ w1, Chg (GrOwn g rb bs) W0 w1 → Blk w1 w.heap.size 29 (rgC W L.length A c) ∧ Blk w1 (w.heap.size + 1) 36 o.cells ∧ Blk w1 (w.heap.size + 1 + 1) 29 (rgC 0 0 none 0) ∧ RfAt w1 (fun b => D b ∧ b < w.heap.size) A c L := fun w1 hc =>
    ⟨h1.chg hc (fun e => by have := hgl _ e; omega), h2.chg hc (fun e => by have := hgl _ e; omega), h3.chg hc (fun e => by have := hgl _ e; omega), ((hr.mono (D' := fun b => D b ∧ b < w.heap.size) (fun b hb h => ⟨h, hb⟩)).below hb0).chg hc (fun b _ h' e => hD b h'.2 h'.1 e)⟩
  have PRE := Lib.hid pre
  have HB0 := Lib.hid hb0
  have HG0 := Lib.hid (h.below hb0)
  have HT0 := Lib.hid (hT.bel hb0)
  have HH := Lib.hid h
  have HD := Lib.hid hD
  have HQ := Lib.hid h.rws_
  have HW0 := Lib.hid hW0
  have HS0 := Lib.hid hs0
  have hlo3 : lo ≤ W0.heap.size := by have := hb0.size; omega
  have HLO := Lib.hid hlo3
  have hok := ho
  have HOK := Lib.hid hok
  have d0 := ho.d0
  have d1 := ho.d1
  obtain ⟨e0, e1, e2⟩ := blk3 h1
  obtain ⟨p0, p1, p2, p3, p4, p5, p6, p7, p8, p9, p10, p11⟩ := blk12 h2
  clear pre hb0 h1 h2 h3 hs0 h hT hr hD ho hok hlo3 hgl hW0
  by_cases m5 : o.d % 10 = 5
  · have e5 : (o.d % 10 == 5) = true := by simp [m5]
    clear m5
    go_enter Tryd.func15, Tryd.ntmps15
    go_upto_region 1 with fail
    rw [← HW0.out]
    go_wp2_with (fail)
    refine (join_any HG0.out o.row o.col o.s (by omega)).mono ?_
    rintro e w1 ⟨rfl, hg1, hc1⟩
    have ho1 : ∀ k, GrOwn g rb bs k → GrOwn g rb bs k ∨ W0.heap.size ≤ k := fun _ h => .inl h
    have HG1 := Lib.hid hg1
    have HC1 := Lib.hid hc1
    have HO1 := Lib.hid ho1
    obtain ⟨k1, k2, k3, kr⟩ := PRE.out w1 hc1
    obtain ⟨f0, f1, f2⟩ := blk3 k1
    obtain ⟨q0, q1, q2, q3, q4, q5, q6, q7, q8, q9, q10, q11⟩ := blk12 k2
    have HK3 := Lib.hid k3
    have HKR := Lib.hid kr
    clear hg1 hc1 ho1 k1 k2 k3 kr e0 e1 e2 p0 p1 p2 p3 p4 p5 p6 p7 p8 p9 p10 p11
    go_wp2_with (fail)
    refine (rjoin_any HKR.out HQ.out o.row o.col o.s (by omega)).mono ?_
    rintro e w2 ⟨V, rfl, hv2, hb2⟩
    have HV2 := Lib.hid hv2
    have HB2 := Lib.hid hb2
    have HK32 := Lib.hid (HK3.out.below hb2 HK3.out.lt)
    obtain ⟨A2, c2, rfl, _⟩ := hv2
    have HN2 := Lib.hid (Blk.new w2 29 (rgC 0 0 none 0))
    clear hb2 f0 f1 f2 q0 q1 q2 q3 q4 q5 q6 q7 q8 q9 q10 q11
    go_wp2_with (first
      | ((with_reducible refine at_store 10 ?_); refine wpList_store_blk rfl _ _ _ rfl rfl w2.heap.size 0 _ (rgC 0 0 none 0) (rgC _ _ A2 c2) rfl rfl HN2.out (by simp [rgC]) rg_size (rgC_one _ _ _ _) ?_; intro w3 hn3 hg3; have hn3' : Blk w3 w2.heap.size 29 (rgC _ _ A2 c2) := hn3; obtain ⟨y0, y1, y2⟩ := blk3 hn3'; have hb3 : Below w2.heap.size w2 w3 := ((Below.refl _ _).alloc (Nat.le_refl _) _).grown hg3 (by simp) (fun j hj => by injection hj with hj; omega); have HB3 := Lib.hid hb3; have HK33 := Lib.hid (HK32.out.below hb3 HK32.out.lt); clear hn3 hn3' hg3 hb3)
      | ((with_reducible refine at_store 6 ?_); refine wpList_store_blk rfl _ _ _ rfl rfl (w.heap.size + 1 + 1) 0 _ (rgC 0 0 none 0) (rgC _ _ A2 c2) rfl rfl HK33.out (by simp [rgC]) rg_size (rgC_one _ _ _ _) ?_; intro w4 hn4 hg4))
    have hn4' : Blk w4 (w.heap.size + 1 + 1) 29 (rgC _ _ A2 c2) := hn4
    exact bodyPost_ret (results_ct rfl rfl rfl hn4'.whole Tryd.underlying29 rfl rg_size) rfl (step_fin HH.out HD.out HB0.out HG1.out HO1.out HC1.out (HV2.out.below HB3.out) (HB2.out.trans (HB3.out.mono HB2.out.size)) HS0.out (chg_of_grown hg4))
  · have e5 : (o.d % 10 == 5) = false := by simp [m5]
    clear m5
    by_cases m6 : o.d % 10 = 6
    · have e6 : (o.d % 10 == 6) = true := by simp [m6]
      clear m6
      go_enter Tryd.func15, Tryd.ntmps15
      go_upto_region 1 with fail
      rw [← HW0.out]
      go_wp2_with (fail)
      refine (erase_any HG0.out HT0.out hlo o.row o.col o.z HOK.out.c0 HOK.out.c1).mono ?_
      rintro e w1 ⟨rfl, hg1, hc1⟩
      have ho1 : ∀ k, GrOwn g rb bs k → GrOwn g rb bs k ∨ W0.heap.size ≤ k := fun _ h => .inl h
      have HG1 := Lib.hid hg1
      have HC1 := Lib.hid hc1
      have HO1 := Lib.hid ho1
      obtain ⟨k1, k2, k3, kr⟩ := PRE.out w1 hc1
      obtain ⟨f0, f1, f2⟩ := blk3 k1
      obtain ⟨q0, q1, q2, q3, q4, q5, q6, q7, q8, q9, q10, q11⟩ := blk12 k2
      have HK3 := Lib.hid k3
      have HKR := Lib.hid kr
      clear hg1 hc1 ho1 k1 k2 k3 kr e0 e1 e2 p0 p1 p2 p3 p4 p5 p6 p7 p8 p9 p10 p11
      go_wp2_with (fail)
      refine (rerase_any HKR.out HQ.out o.row o.col o.z).mono ?_
      rintro e w2 ⟨V, rfl, hv2, hb2⟩
      have HV2 := Lib.hid hv2
      have HB2 := Lib.hid hb2
      have HK32 := Lib.hid (HK3.out.below hb2 HK3.out.lt)
      obtain ⟨A2, c2, rfl, _⟩ := hv2
      have HN2 := Lib.hid (Blk.new w2 29 (rgC 0 0 none 0))
      clear hb2 f0 f1 f2 q0 q1 q2 q3 q4 q5 q6 q7 q8 q9 q10 q11
      go_wp2_with (first
        | ((with_reducible refine at_store 14 ?_); refine wpList_store_blk rfl _ _ _ rfl rfl w2.heap.size 0 _ (rgC 0 0 none 0) (rgC _ _ A2 c2) rfl rfl HN2.out (by simp [rgC]) rg_size (rgC_one _ _ _ _) ?_; intro w3 hn3 hg3; have hn3' : Blk w3 w2.heap.size 29 (rgC _ _ A2 c2) := hn3; obtain ⟨y0, y1, y2⟩ := blk3 hn3'; have hb3 : Below w2.heap.size w2 w3 := ((Below.refl _ _).alloc (Nat.le_refl _) _).grown hg3 (by simp) (fun j hj => by injection hj with hj; omega); have HB3 := Lib.hid hb3; have HK33 := Lib.hid (HK32.out.below hb3 HK32.out.lt); clear hn3 hn3' hg3 hb3)
        | ((with_reducible refine at_store 6 ?_); refine wpList_store_blk rfl _ _ _ rfl rfl (w.heap.size + 1 + 1) 0 _ (rgC 0 0 none 0) (rgC _ _ A2 c2) rfl rfl HK33.out (by simp [rgC]) rg_size (rgC_one _ _ _ _) ?_; intro w4 hn4 hg4))
      have hn4' : Blk w4 (w.heap.size + 1 + 1) 29 (rgC _ _ A2 c2) := hn4
      exact bodyPost_ret (results_ct rfl rfl rfl hn4'.whole Tryd.underlying29 rfl rg_size) rfl (step_fin HH.out HD.out HB0.out HG1.out HO1.out HC1.out (HV2.out.below HB3.out) (HB2.out.trans (HB3.out.mono HB2.out.size)) HS0.out (chg_of_grown hg4))
    · have e6 : (o.d % 10 == 6) = false := by simp [m6]
      clear m6
      by_cases m7 : o.d % 10 = 7
      · have e7 : (o.d % 10 == 7) = true := by simp [m7]
        clear m7
        go_enter Tryd.func15, Tryd.ntmps15
        go_upto_region 1 with fail
        rw [← HW0.out]
        go_wp2_with (fail)
        refine (scroll_ok HG0.out HT0.out hlo HLO.out o.n HOK.out.n0 HOK.out.n1).mono ?_
        rintro e w1 ⟨rfl, bs1, hg1, ho1, hc1⟩
        have HG1 := Lib.hid hg1
        have HC1 := Lib.hid hc1
        have HO1 := Lib.hid ho1
        obtain ⟨k1, k2, k3, kr⟩ := PRE.out w1 hc1
        obtain ⟨f0, f1, f2⟩ := blk3 k1
        obtain ⟨q0, q1, q2, q3, q4, q5, q6, q7, q8, q9, q10, q11⟩ := blk12 k2
        have HK3 := Lib.hid k3
        have HKR := Lib.hid kr
        clear hg1 hc1 ho1 k1 k2 k3 kr e0 e1 e2 p0 p1 p2 p3 p4 p5 p6 p7 p8 p9 p10 p11
        go_wp2_with (fail)
        refine (rscroll_any HKR.out HQ.out o.n).mono ?_
        rintro e w2 ⟨V, rfl, hv2, hb2⟩
        have HV2 := Lib.hid hv2
        have HB2 := Lib.hid hb2
        have HK32 := Lib.hid (HK3.out.below hb2 HK3.out.lt)
        obtain ⟨A2, c2, rfl, _⟩ := hv2
        have HN2 := Lib.hid (Blk.new w2 29 (rgC 0 0 none 0))
        clear hb2 f0 f1 f2 q0 q1 q2 q3 q4 q5 q6 q7 q8 q9 q10 q11
        go_wp2_with (first
          | ((with_reducible refine at_store 17 ?_); refine wpList_store_blk rfl _ _ _ rfl rfl w2.heap.size 0 _ (rgC 0 0 none 0) (rgC _ _ A2 c2) rfl rfl HN2.out (by simp [rgC]) rg_size (rgC_one _ _ _ _) ?_; intro w3 hn3 hg3; have hn3' : Blk w3 w2.heap.size 29 (rgC _ _ A2 c2) := hn3; obtain ⟨y0, y1, y2⟩ := blk3 hn3'; have hb3 : Below w2.heap.size w2 w3 := ((Below.refl _ _).alloc (Nat.le_refl _) _).grown hg3 (by simp) (fun j hj => by injection hj with hj; omega); have HB3 := Lib.hid hb3; have HK33 := Lib.hid (HK32.out.below hb3 HK32.out.lt); clear hn3 hn3' hg3 hb3)
          | ((with_reducible refine at_store 6 ?_); refine wpList_store_blk rfl _ _ _ rfl rfl (w.heap.size + 1 + 1) 0 _ (rgC 0 0 none 0) (rgC _ _ A2 c2) rfl rfl HK33.out (by simp [rgC]) rg_size (rgC_one _ _ _ _) ?_; intro w4 hn4 hg4))
        have hn4' : Blk w4 (w.heap.size + 1 + 1) 29 (rgC _ _ A2 c2) := hn4
        exact bodyPost_ret (results_ct rfl rfl rfl hn4'.whole Tryd.underlying29 rfl rg_size) rfl (step_fin HH.out HD.out HB0.out HG1.out HO1.out HC1.out (HV2.out.below HB3.out) (HB2.out.trans (HB3.out.mono HB2.out.size)) HS0.out (chg_of_grown hg4))
      · have e7 : (o.d % 10 == 7) = false := by simp [m7]
        clear m7
        by_cases m8 : o.d % 10 = 8
        · have e8 : (o.d % 10 == 8) = true := by simp [m8]
          clear m8
          go_enter Tryd.func15, Tryd.ntmps15
          go_upto_region 1 with fail
          rw [← HW0.out]
          go_wp2_with (fail)
          refine (resize_any HG0.out HT0.out hlo HLO.out o.n o.z o.row).mono ?_
          rintro e w1 ⟨rfl, rb1, bs1, hg1, ho1, hc1⟩
          have HG1 := Lib.hid hg1
          have HC1 := Lib.hid hc1
          have HO1 := Lib.hid ho1
          obtain ⟨k1, k2, k3, kr⟩ := PRE.out w1 hc1
          obtain ⟨f0, f1, f2⟩ := blk3 k1
          obtain ⟨q0, q1, q2, q3, q4, q5, q6, q7, q8, q9, q10, q11⟩ := blk12 k2
          have HK3 := Lib.hid k3
          have HKR := Lib.hid kr
          clear hg1 hc1 ho1 k1 k2 k3 kr e0 e1 e2 p0 p1 p2 p3 p4 p5 p6 p7 p8 p9 p10 p11
          go_wp2_with (fail)
          refine (rresize_any HKR.out HQ.out o.n o.z o.row).mono ?_
          rintro e w2 ⟨V, rfl, hv2, hb2⟩
          have HV2 := Lib.hid hv2
          have HB2 := Lib.hid hb2
          have HK32 := Lib.hid (HK3.out.below hb2 HK3.out.lt)
          obtain ⟨A2, c2, rfl, _⟩ := hv2
          have HN2 := Lib.hid (Blk.new w2 29 (rgC 0 0 none 0))
          clear hb2 f0 f1 f2 q0 q1 q2 q3 q4 q5 q6 q7 q8 q9 q10 q11
          go_wp2_with (first
            | ((with_reducible refine at_store 21 ?_); refine wpList_store_blk rfl _ _ _ rfl rfl w2.heap.size 0 _ (rgC 0 0 none 0) (rgC _ _ A2 c2) rfl rfl HN2.out (by simp [rgC]) rg_size (rgC_one _ _ _ _) ?_; intro w3 hn3 hg3; have hn3' : Blk w3 w2.heap.size 29 (rgC _ _ A2 c2) := hn3; obtain ⟨y0, y1, y2⟩ := blk3 hn3'; have hb3 : Below w2.heap.size w2 w3 := ((Below.refl _ _).alloc (Nat.le_refl _) _).grown hg3 (by simp) (fun j hj => by injection hj with hj; omega); have HB3 := Lib.hid hb3; have HK33 := Lib.hid (HK32.out.below hb3 HK32.out.lt); clear hn3 hn3' hg3 hb3)
            | ((with_reducible refine at_store 6 ?_); refine wpList_store_blk rfl _ _ _ rfl rfl (w.heap.size + 1 + 1) 0 _ (rgC 0 0 none 0) (rgC _ _ A2 c2) rfl rfl HK33.out (by simp [rgC]) rg_size (rgC_one _ _ _ _) ?_; intro w4 hn4 hg4))
          have hn4' : Blk w4 (w.heap.size + 1 + 1) 29 (rgC _ _ A2 c2) := hn4
          exact bodyPost_ret (results_ct rfl rfl rfl hn4'.whole Tryd.underlying29 rfl rg_size) rfl (step_fin HH.out HD.out HB0.out HG1.out HO1.out HC1.out (HV2.out.below HB3.out) (HB2.out.trans (HB3.out.mono HB2.out.size)) HS0.out (chg_of_grown hg4))
        · have e8 : (o.d % 10 == 8) = false := by simp [m8]
          clear m8
          go_enter Tryd.func15, Tryd.ntmps15
          go_upto_region 1 with fail
          rw [← HW0.out]
          go_wp2_with (fail)
          refine (put_any HG0.out HT0.out hlo o.row o.col o.s o.cols o.y (by omega)).mono ?_
          rintro e w1 ⟨rfl, hg1, hc1⟩
          have ho1 : ∀ k, GrOwn g rb bs k → GrOwn g rb bs k ∨ W0.heap.size ≤ k := fun _ h => .inl h
          have HG1 := Lib.hid hg1
          have HC1 := Lib.hid hc1
          have HO1 := Lib.hid ho1
          obtain ⟨k1, k2, k3, kr⟩ := PRE.out w1 hc1
          obtain ⟨f0, f1, f2⟩ := blk3 k1
          obtain ⟨q0, q1, q2, q3, q4, q5, q6, q7, q8, q9, q10, q11⟩ := blk12 k2
          have HK3 := Lib.hid k3
          have HKR := Lib.hid kr
          clear hg1 hc1 ho1 k1 k2 k3 kr e0 e1 e2 p0 p1 p2 p3 p4 p5 p6 p7 p8 p9 p10 p11
          go_wp2_with (fail)
          refine (rput_any HKR.out HQ.out o.row o.col o.s o.cols o.y (by omega)).mono ?_
          rintro e w2 ⟨V, rfl, hv2, hb2⟩
          have HV2 := Lib.hid hv2
          have HB2 := Lib.hid hb2
          have HK32 := Lib.hid (HK3.out.below hb2 HK3.out.lt)
          obtain ⟨A2, c2, rfl, _⟩ := hv2
          have HN2 := Lib.hid (Blk.new w2 29 (rgC 0 0 none 0))
          clear hb2 f0 f1 f2 q0 q1 q2 q3 q4 q5 q6 q7 q8 q9 q10 q11
          go_wp2_with (first
            | ((with_reducible refine at_store 25 ?_); refine wpList_store_blk rfl _ _ _ rfl rfl w2.heap.size 0 _ (rgC 0 0 none 0) (rgC _ _ A2 c2) rfl rfl HN2.out (by simp [rgC]) rg_size (rgC_one _ _ _ _) ?_; intro w3 hn3 hg3; have hn3' : Blk w3 w2.heap.size 29 (rgC _ _ A2 c2) := hn3; obtain ⟨y0, y1, y2⟩ := blk3 hn3'; have hb3 : Below w2.heap.size w2 w3 := ((Below.refl _ _).alloc (Nat.le_refl _) _).grown hg3 (by simp) (fun j hj => by injection hj with hj; omega); have HB3 := Lib.hid hb3; have HK33 := Lib.hid (HK32.out.below hb3 HK32.out.lt); clear hn3 hn3' hg3 hb3)
            | ((with_reducible refine at_store 6 ?_); refine wpList_store_blk rfl _ _ _ rfl rfl (w.heap.size + 1 + 1) 0 _ (rgC 0 0 none 0) (rgC _ _ A2 c2) rfl rfl HK33.out (by simp [rgC]) rg_size (rgC_one _ _ _ _) ?_; intro w4 hn4 hg4))
          have hn4' : Blk w4 (w.heap.size + 1 + 1) 29 (rgC _ _ A2 c2) := hn4
          exact bodyPost_ret (results_ct rfl rfl rfl hn4'.whole Tryd.underlying29 rfl rg_size) rfl (step_fin HH.out HD.out HB0.out HG1.out HO1.out HC1.out (HV2.out.below HB3.out) (HB2.out.trans (HB3.out.mono HB2.out.size)) HS0.out (chg_of_grown hg4))
end Go.Proofs.YtijbimofigkdkaaDoor
