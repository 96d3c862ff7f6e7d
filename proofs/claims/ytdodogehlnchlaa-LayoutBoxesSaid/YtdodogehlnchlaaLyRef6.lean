/-
  Walks: the document's Sizes, Places.
-/
import Derived.Test.YtdodogehlnchlaaLyRef5
namespace Go.Proofs.Ytdodogehlnchlaa
open Go.RowKit Go.Shelf Go.Sort
attribute [local go_sem] Oper.semAt_some
set_option linter.unusedVariables false
set_option linter.unusedSimpArgs false

theorem over_le {room gap : Int} {P : Nat → Pt} {n : Nat} (h0 : 0 ≤ room) (g0 : 0 ≤ gap) (g9 : gap ≤ 9) (hP : ∀ i, i < n → (P i).Ok) : overR gap room P n ≤ room := by
  have e := growS_sum n (room - nd gap (d1 gap room P n) n).toNat (d1 gap room P n)
  have e2 := growS_ge n (room - nd gap (d1 gap room P n) n).toNat (d1 gap room P n)
  have hI := Inv1.of0 (d1_inv gap P n h0) hP
  have hn := d1_need gap P n h0
  have hnd0 : 0 ≤ nd gap (d1 gap room P n) n := by
    unfold nd
    refine (need_bd g0 g9 (fun i hi => ?_)).1
    have hb := hI.bd hP (mem_ki.1 hi).1 (mem_ki.1 hi).2
    have b1 := hb.a; have b2 := hb.c; have b3 := hb.b
    unfold szO
    omega
  unfold overR g2
  omega
theorem ld_field (a0 a1 : Value) (w : World) : Sem.run Try.prog (Instr.field 65 (.agg #[a0, a1]) 0) w = .ok a0 w := by
  kernel_rfl
def plR (gap room al : Int) (P : Nat → Pt) (n : Nat) (i : Nat) : Int := if kpR gap room P n i = true then pos gap (aheadV (overR gap room P n) al) (szR gap room P n) (kpR gap room P n) i else 0
theorem row_a {gap room al : Int} {P : Nat → Pt} {n : Nat} (h0 : 0 ≤ room) (hP : ∀ i, i < n → (P i).Ok) : rw1 (fun i => Value.int .i64 (l3 gap room al P n i).a) n = rw1 (fun i => Value.int .i64 (plR gap room al P n i)) n :=
  rw1_congr fun i hi => by rw [l3_a h0 hP hi]; rfl
theorem pos_bd {gap x : Int} {f : Nat → Int} {b : Nat → Bool} {k : Nat} (g0 : 0 ≤ gap) (g9 : gap ≤ 9) (x0 : 0 ≤ x) (x5 : x ≤ 500) (h : ∀ i, i < k → 0 ≤ f i ∧ f i ≤ 500) : 0 ≤ pos gap x f b k ∧ pos gap x f b k ≤ 500 + 509 * (k : Int) := by
  have h1 := sumL_bd (f := f) (l := ki b k) (B := 500) (fun i hi => h i (mem_ki.1 hi).1)
  have h2 := mul_bd (n := (ki b k).length) g0 g9
  have h3 := ki_len b k
  unfold pos
  omega
theorem ahead_bd {ov al : Int} (h0 : 0 ≤ ov) (h5 : ov ≤ 500) : 0 ≤ aheadV ov al ∧ aheadV ov al ≤ 500 := by
  unfold aheadV
  split
  · omega
  · split <;> omega

set_option maxRecDepth 100000 in
set_option maxHeartbeats 4000000 in
theorem rsizes_any (room gap : Int) (A : Option Addr) (n c : Nat) (P : Nat → Pt) (w : World) (hn : n ≤ 65) (hS : Sl w w.heap.size A (ptB P n)) :
    Calls Try.prog 15 #[.int .i64 room, .int .i64 gap, .slice A n c] w fun e w' => ((chkV room gap n P ≠ 0 ∧ e = .returned (.tuple #[.slice none 0 0, .int .i64 (chkV room gap n P)])) ∨ (chkV room gap n P = 0 ∧ ∃ S d, e = .returned (.tuple #[.slice S n d, .int .i64 0]) ∧ OR w' w.heap.size 3 S n d (rw1 (fun i => .int .i64 (szR gap room P n i)) n))) ∧ Below w.heap.size w w' := by
  have HRS := Lib.hid (rstay_any room gap A n c P w hn hS)
  by_cases hv : chkV room gap n P = 0
  · obtain ⟨⟨r0, r5, g0, g9⟩, ⟨n1, n64⟩, hok⟩ := chkV_ok hv
    obtain ⟨ab, off, hA, hab, _⟩ := hS.open_ (by rw [ptB_len]; omega)
    subst hA
    have HS := Lib.hid hS
    have HOK := Lib.hid hok
    have HV := Lib.hid hv
    have HRS2 := Lib.hid (HRS.out.mono fun e w' h => (show (∃ S d, e = .returned (.tuple #[.slice S n d, .int .i64 0]) ∧ OR w' w.heap.size 4 S n d (rw1 (fun i => .bool (kpR gap room P n i)) n)) ∧ Below w.heap.size w w' from ⟨h.1.elim (fun h => absurd hv h.1) (fun h => h.2), h.2⟩))
    clear hok hS hv HRS
    go_enter Try.func15, Try.ntmps15
    go_upto_region 4 with (go_at_call 13; refine HRS2.out.mono ?_; rintro e w1 ⟨⟨S, d, rfl, hor⟩, hb1⟩; have HOR := Lib.hid hor; have HB1 := Lib.hid hb1; clear hor hb1)
    have HS1 := Lib.hid ((HS.out.below HB1.out).more HB1.out.size)
    go_wp2_with (go_at_call 32; refine (rlay_any room gap ab off n c P S n d w1 n1 n64 rfl r0 r5 g0 g9 HOK.out HS1.out HOR.out.sl).mono ?_; rintro e w2 ⟨T, q, rfl, hot, hb2⟩; have HOT := Lib.hid hot; have HB2 := Lib.hid hb2; have fl0 := fun w => ld_field (.slice T n q) (.int .i64 (overR gap room P n)) w; clear hot hb2)
    go_ret2
    exact ⟨.inr ⟨HV.out, T, q, rfl, HOT.out.weaken HB1.out.size⟩, HB1.out.trans (HB2.out.mono HB1.out.size)⟩
  · have HV := Lib.hid hv
    have hne : (chkV room gap n P != 0) = true := by simp [hv]
    have HRS2 := Lib.hid (HRS.out.mono fun e w' h => (show e = .returned (.tuple #[.slice none 0 0, .int .i64 (chkV room gap n P)]) ∧ Below w.heap.size w w' from ⟨h.1.elim (fun h => h.2) (fun h => absurd h.1 hv), h.2⟩))
    clear hS HRS
    generalize chkV room gap n P = v at *
    go_enter Try.func15, Try.ntmps15
    go_wp2_with (go_at_call 13; refine HRS2.out.mono ?_; rintro e w1 ⟨rfl, hb1⟩; have HB1 := Lib.hid hb1; clear hb1)
    go_ret2
    exact ⟨.inl ⟨HV.out, rfl⟩, HB1.out⟩

set_option maxRecDepth 100000 in
set_option maxHeartbeats 8000000 in
theorem rplaces_any (room gap al : Int) (A : Option Addr) (n c : Nat) (P : Nat → Pt) (w : World) (hn : n ≤ 65) (hS : Sl w w.heap.size A (ptB P n)) :
    Calls Try.prog 22 #[.int .i64 room, .int .i64 gap, .int .i64 al, .slice A n c] w fun e w' => ((chkV room gap n P ≠ 0 ∧ e = .returned (.tuple #[.slice none 0 0, .int .i64 (chkV room gap n P)])) ∨ (chkV room gap n P = 0 ∧ ¬ (0 ≤ al ∧ al ≤ 2) ∧ e = .returned (.tuple #[.slice none 0 0, .int .i64 5])) ∨ (chkV room gap n P = 0 ∧ (0 ≤ al ∧ al ≤ 2) ∧ ∃ S d, e = .returned (.tuple #[.slice S n d, .int .i64 0]) ∧ OR w' w.heap.size 3 S n d (rw1 (fun i => .int .i64 (plR gap room al P n i)) n))) ∧ Below w.heap.size w w' := by
  have HRS := Lib.hid (rstay_any room gap A n c P w hn hS)
  by_cases hv : chkV room gap n P = 0
  · obtain ⟨⟨r0, r5, g0, g9⟩, ⟨n1, n64⟩, hok⟩ := chkV_ok hv
    obtain ⟨ab, off, hA, hab, _⟩ := hS.open_ (by rw [ptB_len]; omega)
    subst hA
    have HS := Lib.hid hS
    have HOK := Lib.hid hok
    have HV := Lib.hid hv
    have HRS2 := Lib.hid (HRS.out.mono fun e w' h => (show (∃ S d, e = .returned (.tuple #[.slice S n d, .int .i64 0]) ∧ OR w' w.heap.size 4 S n d (rw1 (fun i => .bool (kpR gap room P n i)) n)) ∧ Below w.heap.size w w' from ⟨h.1.elim (fun h => absurd hv h.1) (fun h => h.2), h.2⟩))
    have hov0 := over_pos gap room P n
    have hov5 : overR gap room P n ≤ 500 := Int.le_trans (over_le r0 g0 g9 hok) r5
    have H3 : Hid (∀ i, i < n → 0 ≤ szR gap room P n i ∧ szR gap room P n i ≤ 500) := fun i hi => szR_bd r0 hok hi
    clear hok hS hv HRS
    by_cases hal : 0 ≤ al ∧ al ≤ 2
    · have hd : decide (0 ≤ al ∧ al ≤ 2) = true := decide_eq_true hal
      have HD := Lib.hid hd
      have HAL := Lib.hid hal
      obtain ⟨ov, hov⟩ : ∃ o : Nat, overR gap room P n = o := ⟨(overR gap room P n).toNat, by omega⟩
      have HLAY := Lib.hid (fun S d w1 hS hB => rlay_any room gap ab off n c P S n d w1 n1 n64 rfl r0 r5 g0 g9 HOK.out hS hB)
      have HPL : Hid (∀ i, plR gap room al P n i = if kpR gap room P n i = true then pos gap (aheadV ov al) (szR gap room P n) (kpR gap room P n) i else 0) := fun i => by unfold plR; rw [hov]
      rw [hov] at hov0 hov5 HLAY
      have hab := ahead_bd (al := al) hov0 hov5
      obtain ⟨f, hf⟩ : ∃ f, szR gap room P n = f := ⟨_, rfl⟩
      obtain ⟨b, hb⟩ : ∃ b, kpR gap room P n = b := ⟨_, rfl⟩
      obtain ⟨pl, hpl⟩ : ∃ p, plR gap room al P n = p := ⟨_, rfl⟩
      rw [hf] at H3
      rw [hf, hb, hpl] at HPL
      rw [hb] at HRS2
      have HFE := Lib.hid hf
      have HBE := Lib.hid hb
      have HPE := Lib.hid hpl
      clear hd hal hf hb hpl hov
      obtain ⟨hab0, hab5⟩ := hab
      by_cases h1 : al = 1
      · subst h1
        go_enter Try.func22, Try.ntmps22
        go_upto_region 6 with (first
          | (go_at_call 13; refine HRS2.out.mono ?_; rintro e w1 ⟨⟨S, d, rfl, hor⟩, hb1⟩; have HOR := Lib.hid hor; have HB1 := Lib.hid hb1; clear hor hb1)
          | (go_at_call 36; refine (within_any _ _ _ _).mono ?_; rintro e w' ⟨rfl, rfl⟩; rw [HD.out]))
        have HS1 := Lib.hid ((HS.out.below HB1.out).more HB1.out.size)
        have HLY := Lib.hid (HLAY.out S d w1 HS1.out (by rw [HBE.out]; exact HOR.out.sl))
        go_upto_region 7 with (go_at_call 32; refine HLY.out.mono ?_; rintro e w2 ⟨T, q, rfl, hot, hb2⟩; have HOT := Lib.hid hot; have HB2 := Lib.hid hb2; clear hot hb2)
        have hx : Blk (w2.alloc (.cells #[.slice T n q, .int .i64 (ov : Int)] 65)) w2.heap.size 65 (ldC T n q ov) := Blk.new w2 65 (ldC T n q ov)
        obtain ⟨W3, hW3⟩ : ∃ W3, W3 = w2.alloc (.cells #[.slice T n q, .int .i64 (ov : Int)] 65) := ⟨_, rfl⟩
        rw [← hW3] at hx ⊢
        have hT3 : Sl W3 W3.heap.size T (rw1 (fun i => .int .i64 (f i)) n) := by
          have := HOT.out.sl
          rw [HFE.out] at this
          rw [hW3]
          exact (this.alloc (Nat.le_refl _) _).more (by simp)
        have hR3 : Sl W3 W3.heap.size S (rw1 (fun i => .bool (b i)) n) := by
          have h2 := (HOR.out.on HB2.out).sl
          rw [hW3]
          exact (h2.alloc (Nat.le_refl _) _).more (by simp)
        have hw3 : Below w.heap.size w W3 := by
          rw [hW3]
          have h2 := HB1.out.trans (HB2.out.mono HB1.out.size)
          exact h2.alloc h2.size _
        have HX := Lib.hid hx
        have HT3 := Lib.hid hT3
        have HR3 := Lib.hid hR3
        have HW3 := Lib.hid hw3
        have hxl := hx.lt
        have co : W3.cell? ⟨w2.heap.size, 1, none⟩ = some (.int .i64 (ov : Int)) := hx.cell 1
        have HX0 : Hid (aheadV (ov : Int) (1) = ov) := by show _ = _; unfold aheadV; rw [if_pos rfl]
        clear hW3 hx hT3 hR3 hw3 HOT HOR HB1 HB2 HS1 HLY HRS2 HLAY
        generalize w2.heap.size = xb at *
        obtain ⟨x0, hx0⟩ : ∃ x, aheadV (ov : Int) (1) = x := ⟨_, rfl⟩
        rw [hx0] at HPL hab0 hab5 HX0
        clear hx0
        go_wp2_with (fail)
        clear co
        go_loopw [13, 14, 15] (fun v13 v14 v15 wr => ∃ (k : Nat) (A : Option Addr) (q : Nat), v15 = .int .i64 k ∧ k ≤ n ∧ v13 = .int .i64 (pos gap x0 f b k) ∧ v14 = .slice A k q ∧ OR wr W3.heap.size 3 A k q (rw1 (fun i => .int .i64 (pl i)) k) ∧ Below W3.heap.size W3 wr) (fun _ _ v _ => n - (intOf v).toNat)
        case atStart => exact ⟨0, none, 0, rfl, by omega, by rw [show pos gap x0 f b 0 = x0 by simp [pos, ki_zero, sumL]]; rw [HX0.out], rfl, OR.none_ _ _ _, Below.refl _ _⟩
        case round =>
          obtain ⟨k, A, q', rfl, hk, rfl, rfl, hor, hw⟩ := hrel
          have HOR := Lib.hid hor
          have HW := Lib.hid hw
          have hpb := pos_bd (b := b) (k := k) (f := f) g0 g9 hab0 hab5 (fun i hi => H3.out i (by omega))
          obtain ⟨p0, hp0⟩ : ∃ p, pos gap x0 f b k = p := ⟨_, rfl⟩
          rw [hp0] at hpb
          rw [hp0]
          have HP0 := Lib.hid hp0
          obtain ⟨hpb0, hpb5⟩ := hpb
          by_cases hlt : k < n
          · have hki : (k : Int) < n := by omega
            obtain ⟨b1, o1, rfl, hb1, hc1⟩ := rw1_at HR3.out hlt
            obtain ⟨b2, o2, rfl, hb2, hc2⟩ := rw1_at HT3.out hlt
            have c1 := (hw.cell (p := ⟨b1, o1 + k, none⟩) hb1).trans hc1
            have hf3 := H3.out k hlt
            obtain ⟨hf30, hf35⟩ := hf3
            obtain ⟨A', c', w5, hap, ho, hb5, _⟩ := app_one Try.underlying32 sizes_info rfl (by omega) HOR.out hw.size hw (.int .i64 (pl k)) rfl (by omega)
            rw [← rw1_succ (fun i => Value.int .i64 (pl i))] at ho
            have e0 : w5.cell? ⟨xb, 0, none⟩ = some (.slice (some ⟨b2, o2, none⟩) n q) := (HX.out.below hb5 hxl).cell 0
            have e1 : w5.cell? ⟨b2, o2 + k, none⟩ = some (.int .i64 (f k)) := (hb5.cell (p := ⟨b2, o2 + k, none⟩) hb2).trans hc2
            have AP := Lib.hid hap
            have HO := Lib.hid ho
            have HB5 := Lib.hid hb5
            have hpk := HPL.out k
            clear hor hw hc1 hc2 hap ho hb5 hp0
            cases hbk : b k with
            | true =>
              rw [hbk] at c1
              rw [if_pos hbk, HP0.out] at hpk
              rw [hpk] at AP
              have HPS : Hid (pos gap x0 f b (k + 1) = p0 + f k + gap) := by show _ = _; rw [pos_yes hbk, HP0.out]
              obtain ⟨fk, hfk⟩ : ∃ x, f k = x := ⟨_, rfl⟩
              rw [hfk] at e1 hf30 hf35 HPS
              clear hbk hpk hfk
              go_wp2_with (first
                | ((with_reducible refine at_dst 56 ?_); refine lyList_run 32 32 rfl (.tmp 54) (.tmp 55) rfl _ _ _ _ rfl rfl AP.out ?_)
                | ((with_reducible refine at_dst 60 ?_); refine lyList_run 32 32 rfl (.tmp 57) (.tmp 59) rfl _ _ _ _ rfl rfl AP.out ?_))
              go_roundw
              case rel => exact ⟨k + 1, A', c', by go_num, by omega, by rw [HPS.out], rfl, HO.out, HB5.out⟩
              case measure => simp [intOf]; omega
            | false =>
              rw [hbk] at c1
              rw [if_neg (by rw [hbk]; decide)] at hpk
              rw [hpk] at AP
              have HPS : Hid (pos gap x0 f b (k + 1) = p0) := by show _ = _; rw [pos_no hbk, HP0.out]
              clear hbk hpk e0 e1
              go_wp2_with (first
                | ((with_reducible refine at_dst 56 ?_); refine lyList_run 32 32 rfl (.tmp 54) (.tmp 55) rfl _ _ _ _ rfl rfl AP.out ?_)
                | ((with_reducible refine at_dst 60 ?_); refine lyList_run 32 32 rfl (.tmp 57) (.tmp 59) rfl _ _ _ _ rfl rfl AP.out ?_))
              go_roundw
              case rel => exact ⟨k + 1, A', c', by go_num, by omega, by rw [HPS.out], rfl, HO.out, HB5.out⟩
              case measure => simp [intOf]; omega
          · have hki : ¬ (k : Int) < n := by omega
            obtain rfl : k = n := by omega
            go_wp2_with (fail)
            go_ret2
            have hq1 := HOR.out.weaken HW3.out.size
            rw [← HPE.out] at hq1
            first
              | exact ⟨.inr (.inr ⟨HV.out, HAL.out, A, q', rfl, hq1⟩), HW3.out.trans (HW.out.mono HW3.out.size)⟩
              | exact ⟨.inr ⟨HV.out, A, q', rfl, hq1⟩, HW3.out.trans (HW.out.mono HW3.out.size)⟩

      · by_cases h2 : al = 2
        · subst h2
          go_enter Try.func22, Try.ntmps22
          go_upto_region 6 with (first
            | (go_at_call 13; refine HRS2.out.mono ?_; rintro e w1 ⟨⟨S, d, rfl, hor⟩, hb1⟩; have HOR := Lib.hid hor; have HB1 := Lib.hid hb1; clear hor hb1)
            | (go_at_call 36; refine (within_any _ _ _ _).mono ?_; rintro e w' ⟨rfl, rfl⟩; rw [HD.out]))
          have HS1 := Lib.hid ((HS.out.below HB1.out).more HB1.out.size)
          have HLY := Lib.hid (HLAY.out S d w1 HS1.out (by rw [HBE.out]; exact HOR.out.sl))
          go_upto_region 7 with (go_at_call 32; refine HLY.out.mono ?_; rintro e w2 ⟨T, q, rfl, hot, hb2⟩; have HOT := Lib.hid hot; have HB2 := Lib.hid hb2; clear hot hb2)
          have hx : Blk (w2.alloc (.cells #[.slice T n q, .int .i64 (ov : Int)] 65)) w2.heap.size 65 (ldC T n q ov) := Blk.new w2 65 (ldC T n q ov)
          obtain ⟨W3, hW3⟩ : ∃ W3, W3 = w2.alloc (.cells #[.slice T n q, .int .i64 (ov : Int)] 65) := ⟨_, rfl⟩
          rw [← hW3] at hx ⊢
          have hT3 : Sl W3 W3.heap.size T (rw1 (fun i => .int .i64 (f i)) n) := by
            have := HOT.out.sl
            rw [HFE.out] at this
            rw [hW3]
            exact (this.alloc (Nat.le_refl _) _).more (by simp)
          have hR3 : Sl W3 W3.heap.size S (rw1 (fun i => .bool (b i)) n) := by
            have h2 := (HOR.out.on HB2.out).sl
            rw [hW3]
            exact (h2.alloc (Nat.le_refl _) _).more (by simp)
          have hw3 : Below w.heap.size w W3 := by
            rw [hW3]
            have h2 := HB1.out.trans (HB2.out.mono HB1.out.size)
            exact h2.alloc h2.size _
          have HX := Lib.hid hx
          have HT3 := Lib.hid hT3
          have HR3 := Lib.hid hR3
          have HW3 := Lib.hid hw3
          have hxl := hx.lt
          have co : W3.cell? ⟨w2.heap.size, 1, none⟩ = some (.int .i64 (ov : Int)) := hx.cell 1
          have HX0 : Hid (aheadV (ov : Int) (2) = (ov : Int) / 2) := by show _ = _; unfold aheadV; rw [if_neg (by omega), if_pos rfl]
          clear hW3 hx hT3 hR3 hw3 HOT HOR HB1 HB2 HS1 HLY HRS2 HLAY
          generalize w2.heap.size = xb at *
          obtain ⟨x0, hx0⟩ : ∃ x, aheadV (ov : Int) (2) = x := ⟨_, rfl⟩
          rw [hx0] at HPL hab0 hab5 HX0
          clear hx0
          go_wp2_with (fail)
          clear co
          go_loopw [13, 14, 15] (fun v13 v14 v15 wr => ∃ (k : Nat) (A : Option Addr) (q : Nat), v15 = .int .i64 k ∧ k ≤ n ∧ v13 = .int .i64 (pos gap x0 f b k) ∧ v14 = .slice A k q ∧ OR wr W3.heap.size 3 A k q (rw1 (fun i => .int .i64 (pl i)) k) ∧ Below W3.heap.size W3 wr) (fun _ _ v _ => n - (intOf v).toNat)
          case atStart => exact ⟨0, none, 0, rfl, by omega, by rw [show pos gap x0 f b 0 = x0 by simp [pos, ki_zero, sumL]]; rw [HX0.out], rfl, OR.none_ _ _ _, Below.refl _ _⟩
          case round =>
            obtain ⟨k, A, q', rfl, hk, rfl, rfl, hor, hw⟩ := hrel
            have HOR := Lib.hid hor
            have HW := Lib.hid hw
            have hpb := pos_bd (b := b) (k := k) (f := f) g0 g9 hab0 hab5 (fun i hi => H3.out i (by omega))
            obtain ⟨p0, hp0⟩ : ∃ p, pos gap x0 f b k = p := ⟨_, rfl⟩
            rw [hp0] at hpb
            rw [hp0]
            have HP0 := Lib.hid hp0
            obtain ⟨hpb0, hpb5⟩ := hpb
            by_cases hlt : k < n
            · have hki : (k : Int) < n := by omega
              obtain ⟨b1, o1, rfl, hb1, hc1⟩ := rw1_at HR3.out hlt
              obtain ⟨b2, o2, rfl, hb2, hc2⟩ := rw1_at HT3.out hlt
              have c1 := (hw.cell (p := ⟨b1, o1 + k, none⟩) hb1).trans hc1
              have hf3 := H3.out k hlt
              obtain ⟨hf30, hf35⟩ := hf3
              obtain ⟨A', c', w5, hap, ho, hb5, _⟩ := app_one Try.underlying32 sizes_info rfl (by omega) HOR.out hw.size hw (.int .i64 (pl k)) rfl (by omega)
              rw [← rw1_succ (fun i => Value.int .i64 (pl i))] at ho
              have e0 : w5.cell? ⟨xb, 0, none⟩ = some (.slice (some ⟨b2, o2, none⟩) n q) := (HX.out.below hb5 hxl).cell 0
              have e1 : w5.cell? ⟨b2, o2 + k, none⟩ = some (.int .i64 (f k)) := (hb5.cell (p := ⟨b2, o2 + k, none⟩) hb2).trans hc2
              have AP := Lib.hid hap
              have HO := Lib.hid ho
              have HB5 := Lib.hid hb5
              have hpk := HPL.out k
              clear hor hw hc1 hc2 hap ho hb5 hp0
              cases hbk : b k with
              | true =>
                rw [hbk] at c1
                rw [if_pos hbk, HP0.out] at hpk
                rw [hpk] at AP
                have HPS : Hid (pos gap x0 f b (k + 1) = p0 + f k + gap) := by show _ = _; rw [pos_yes hbk, HP0.out]
                obtain ⟨fk, hfk⟩ : ∃ x, f k = x := ⟨_, rfl⟩
                rw [hfk] at e1 hf30 hf35 HPS
                clear hbk hpk hfk
                go_wp2_with (first
                  | ((with_reducible refine at_dst 56 ?_); refine lyList_run 32 32 rfl (.tmp 54) (.tmp 55) rfl _ _ _ _ rfl rfl AP.out ?_)
                  | ((with_reducible refine at_dst 60 ?_); refine lyList_run 32 32 rfl (.tmp 57) (.tmp 59) rfl _ _ _ _ rfl rfl AP.out ?_))
                go_roundw
                case rel => exact ⟨k + 1, A', c', by go_num, by omega, by rw [HPS.out], rfl, HO.out, HB5.out⟩
                case measure => simp [intOf]; omega
              | false =>
                rw [hbk] at c1
                rw [if_neg (by rw [hbk]; decide)] at hpk
                rw [hpk] at AP
                have HPS : Hid (pos gap x0 f b (k + 1) = p0) := by show _ = _; rw [pos_no hbk, HP0.out]
                clear hbk hpk e0 e1
                go_wp2_with (first
                  | ((with_reducible refine at_dst 56 ?_); refine lyList_run 32 32 rfl (.tmp 54) (.tmp 55) rfl _ _ _ _ rfl rfl AP.out ?_)
                  | ((with_reducible refine at_dst 60 ?_); refine lyList_run 32 32 rfl (.tmp 57) (.tmp 59) rfl _ _ _ _ rfl rfl AP.out ?_))
                go_roundw
                case rel => exact ⟨k + 1, A', c', by go_num, by omega, by rw [HPS.out], rfl, HO.out, HB5.out⟩
                case measure => simp [intOf]; omega
            · have hki : ¬ (k : Int) < n := by omega
              obtain rfl : k = n := by omega
              go_wp2_with (fail)
              go_ret2
              have hq1 := HOR.out.weaken HW3.out.size
              rw [← HPE.out] at hq1
              first
                | exact ⟨.inr (.inr ⟨HV.out, HAL.out, A, q', rfl, hq1⟩), HW3.out.trans (HW.out.mono HW3.out.size)⟩
                | exact ⟨.inr ⟨HV.out, A, q', rfl, hq1⟩, HW3.out.trans (HW.out.mono HW3.out.size)⟩

        · have h1b : (al == 1) = false := by simp [h1]
          have h2b : (al == 2) = false := by simp [h2]
          go_enter Try.func22, Try.ntmps22
          go_upto_region 6 with (first
            | (go_at_call 13; refine HRS2.out.mono ?_; rintro e w1 ⟨⟨S, d, rfl, hor⟩, hb1⟩; have HOR := Lib.hid hor; have HB1 := Lib.hid hb1; clear hor hb1)
            | (go_at_call 36; refine (within_any _ _ _ _).mono ?_; rintro e w' ⟨rfl, rfl⟩; rw [HD.out]))
          have HS1 := Lib.hid ((HS.out.below HB1.out).more HB1.out.size)
          have HLY := Lib.hid (HLAY.out S d w1 HS1.out (by rw [HBE.out]; exact HOR.out.sl))
          go_upto_region 7 with (go_at_call 32; refine HLY.out.mono ?_; rintro e w2 ⟨T, q, rfl, hot, hb2⟩; have HOT := Lib.hid hot; have HB2 := Lib.hid hb2; clear hot hb2)
          have hx : Blk (w2.alloc (.cells #[.slice T n q, .int .i64 (ov : Int)] 65)) w2.heap.size 65 (ldC T n q ov) := Blk.new w2 65 (ldC T n q ov)
          obtain ⟨W3, hW3⟩ : ∃ W3, W3 = w2.alloc (.cells #[.slice T n q, .int .i64 (ov : Int)] 65) := ⟨_, rfl⟩
          rw [← hW3] at hx ⊢
          have hT3 : Sl W3 W3.heap.size T (rw1 (fun i => .int .i64 (f i)) n) := by
            have := HOT.out.sl
            rw [HFE.out] at this
            rw [hW3]
            exact (this.alloc (Nat.le_refl _) _).more (by simp)
          have hR3 : Sl W3 W3.heap.size S (rw1 (fun i => .bool (b i)) n) := by
            have h2 := (HOR.out.on HB2.out).sl
            rw [hW3]
            exact (h2.alloc (Nat.le_refl _) _).more (by simp)
          have hw3 : Below w.heap.size w W3 := by
            rw [hW3]
            have h2 := HB1.out.trans (HB2.out.mono HB1.out.size)
            exact h2.alloc h2.size _
          have HX := Lib.hid hx
          have HT3 := Lib.hid hT3
          have HR3 := Lib.hid hR3
          have HW3 := Lib.hid hw3
          have hxl := hx.lt
          have co : W3.cell? ⟨w2.heap.size, 1, none⟩ = some (.int .i64 (ov : Int)) := hx.cell 1
          have HX0 : Hid (aheadV (ov : Int) (al) = 0) := by show _ = _; unfold aheadV; rw [if_neg h1, if_neg h2]
          clear hW3 hx hT3 hR3 hw3 HOT HOR HB1 HB2 HS1 HLY HRS2 HLAY
          generalize w2.heap.size = xb at *
          obtain ⟨x0, hx0⟩ : ∃ x, aheadV (ov : Int) (al) = x := ⟨_, rfl⟩
          rw [hx0] at HPL hab0 hab5 HX0
          clear hx0
          go_wp2_with (fail)
          clear co
          go_loopw [13, 14, 15] (fun v13 v14 v15 wr => ∃ (k : Nat) (A : Option Addr) (q : Nat), v15 = .int .i64 k ∧ k ≤ n ∧ v13 = .int .i64 (pos gap x0 f b k) ∧ v14 = .slice A k q ∧ OR wr W3.heap.size 3 A k q (rw1 (fun i => .int .i64 (pl i)) k) ∧ Below W3.heap.size W3 wr) (fun _ _ v _ => n - (intOf v).toNat)
          case atStart => exact ⟨0, none, 0, rfl, by omega, by rw [show pos gap x0 f b 0 = x0 by simp [pos, ki_zero, sumL]]; rw [HX0.out], rfl, OR.none_ _ _ _, Below.refl _ _⟩
          case round =>
            obtain ⟨k, A, q', rfl, hk, rfl, rfl, hor, hw⟩ := hrel
            have HOR := Lib.hid hor
            have HW := Lib.hid hw
            have hpb := pos_bd (b := b) (k := k) (f := f) g0 g9 hab0 hab5 (fun i hi => H3.out i (by omega))
            obtain ⟨p0, hp0⟩ : ∃ p, pos gap x0 f b k = p := ⟨_, rfl⟩
            rw [hp0] at hpb
            rw [hp0]
            have HP0 := Lib.hid hp0
            obtain ⟨hpb0, hpb5⟩ := hpb
            by_cases hlt : k < n
            · have hki : (k : Int) < n := by omega
              obtain ⟨b1, o1, rfl, hb1, hc1⟩ := rw1_at HR3.out hlt
              obtain ⟨b2, o2, rfl, hb2, hc2⟩ := rw1_at HT3.out hlt
              have c1 := (hw.cell (p := ⟨b1, o1 + k, none⟩) hb1).trans hc1
              have hf3 := H3.out k hlt
              obtain ⟨hf30, hf35⟩ := hf3
              obtain ⟨A', c', w5, hap, ho, hb5, _⟩ := app_one Try.underlying32 sizes_info rfl (by omega) HOR.out hw.size hw (.int .i64 (pl k)) rfl (by omega)
              rw [← rw1_succ (fun i => Value.int .i64 (pl i))] at ho
              have e0 : w5.cell? ⟨xb, 0, none⟩ = some (.slice (some ⟨b2, o2, none⟩) n q) := (HX.out.below hb5 hxl).cell 0
              have e1 : w5.cell? ⟨b2, o2 + k, none⟩ = some (.int .i64 (f k)) := (hb5.cell (p := ⟨b2, o2 + k, none⟩) hb2).trans hc2
              have AP := Lib.hid hap
              have HO := Lib.hid ho
              have HB5 := Lib.hid hb5
              have hpk := HPL.out k
              clear hor hw hc1 hc2 hap ho hb5 hp0
              cases hbk : b k with
              | true =>
                rw [hbk] at c1
                rw [if_pos hbk, HP0.out] at hpk
                rw [hpk] at AP
                have HPS : Hid (pos gap x0 f b (k + 1) = p0 + f k + gap) := by show _ = _; rw [pos_yes hbk, HP0.out]
                obtain ⟨fk, hfk⟩ : ∃ x, f k = x := ⟨_, rfl⟩
                rw [hfk] at e1 hf30 hf35 HPS
                clear hbk hpk hfk
                go_wp2_with (first
                  | ((with_reducible refine at_dst 56 ?_); refine lyList_run 32 32 rfl (.tmp 54) (.tmp 55) rfl _ _ _ _ rfl rfl AP.out ?_)
                  | ((with_reducible refine at_dst 60 ?_); refine lyList_run 32 32 rfl (.tmp 57) (.tmp 59) rfl _ _ _ _ rfl rfl AP.out ?_))
                go_roundw
                case rel => exact ⟨k + 1, A', c', by go_num, by omega, by rw [HPS.out], rfl, HO.out, HB5.out⟩
                case measure => simp [intOf]; omega
              | false =>
                rw [hbk] at c1
                rw [if_neg (by rw [hbk]; decide)] at hpk
                rw [hpk] at AP
                have HPS : Hid (pos gap x0 f b (k + 1) = p0) := by show _ = _; rw [pos_no hbk, HP0.out]
                clear hbk hpk e0 e1
                go_wp2_with (first
                  | ((with_reducible refine at_dst 56 ?_); refine lyList_run 32 32 rfl (.tmp 54) (.tmp 55) rfl _ _ _ _ rfl rfl AP.out ?_)
                  | ((with_reducible refine at_dst 60 ?_); refine lyList_run 32 32 rfl (.tmp 57) (.tmp 59) rfl _ _ _ _ rfl rfl AP.out ?_))
                go_roundw
                case rel => exact ⟨k + 1, A', c', by go_num, by omega, by rw [HPS.out], rfl, HO.out, HB5.out⟩
                case measure => simp [intOf]; omega
            · have hki : ¬ (k : Int) < n := by omega
              obtain rfl : k = n := by omega
              go_wp2_with (fail)
              go_ret2
              have hq1 := HOR.out.weaken HW3.out.size
              rw [← HPE.out] at hq1
              first
                | exact ⟨.inr (.inr ⟨HV.out, HAL.out, A, q', rfl, hq1⟩), HW3.out.trans (HW.out.mono HW3.out.size)⟩
                | exact ⟨.inr ⟨HV.out, A, q', rfl, hq1⟩, HW3.out.trans (HW.out.mono HW3.out.size)⟩

    · have hd : decide (0 ≤ al ∧ al ≤ 2) = false := decide_eq_false hal
      have HD := Lib.hid hd
      have HAL := Lib.hid hal
      clear hd hal
      go_enter Try.func22, Try.ntmps22
      go_wp2_with (first
        | (go_at_call 13; refine HRS2.out.mono ?_; rintro e w1 ⟨⟨S, d, rfl, hor⟩, hb1⟩; have HOR := Lib.hid hor; have HB1 := Lib.hid hb1; clear hor hb1)
        | (go_at_call 36; refine (within_any _ _ _ _).mono ?_; rintro e w' ⟨rfl, rfl⟩; rw [HD.out]))
      go_ret2
      exact ⟨.inr (.inl ⟨HV.out, HAL.out, rfl⟩), HB1.out⟩
  · have HV := Lib.hid hv
    have hne : (chkV room gap n P != 0) = true := by simp [hv]
    have HRS2 := Lib.hid (HRS.out.mono fun e w' h => (show e = .returned (.tuple #[.slice none 0 0, .int .i64 (chkV room gap n P)]) ∧ Below w.heap.size w w' from ⟨h.1.elim (fun h => h.2) (fun h => absurd h.1 hv), h.2⟩))
    clear hS HRS
    generalize chkV room gap n P = v at *
    go_enter Try.func22, Try.ntmps22
    go_wp2_with (go_at_call 13; refine HRS2.out.mono ?_; rintro e w1 ⟨rfl, hb1⟩; have HB1 := Lib.hid hb1; clear hb1)
    go_ret2
    exact ⟨.inl ⟨HV.out, rfl⟩, HB1.out⟩
end Go.Proofs.Ytdodogehlnchlaa
