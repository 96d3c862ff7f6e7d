/-
  Walks: few, the document's Check, alike, same.
-/
import Derived.Test.YtdodogehlnchlaaLyPlaces
namespace Go.Proofs.Ytdodogehlnchlaa
open Go.RowKit Go.Shelf Go.Sort
attribute [local go_sem] Oper.semAt_some
set_option linter.unusedVariables false
set_option linter.unusedSimpArgs false

set_option maxHeartbeats 1000000 in
theorem lfew_any (A : Option Addr) (n c : Nat) (hn : n ≤ c) (w : World) :
    Calls Try.prog 9 #[.slice A n c] w fun e w' => e = .returned (.slice A (min n 65) c) ∧ w = w' := by
  by_cases h : (n : Int) > 65
  · have hci : (65 : Int) ≤ (c : Int) := by omega
    have e : min n 65 = 65 := by omega
    rw [e]
    clear e
    go_enter Try.func9, Try.ntmps9
    go_wp2
    go_ret
    exact ⟨rfl, rfl⟩
  · have e : min n 65 = n := by omega
    rw [e]
    clear e
    go_enter Try.func9, Try.ntmps9
    go_wp2
    go_ret
    exact ⟨rfl, rfl⟩

def partsV (n : Nat) (P : Nat → Pt) : Int := if 1 ≤ n ∧ n ≤ 64 then (if allOk P n then 0 else 1) else 3
theorem okD_false {p : Pt} (h : ¬ p.Ok) : okD p = false := by
  cases hq : okD p with
  | false => rfl
  | true => exact absurd ((okD_iff p).1 hq) h
set_option maxRecDepth 100000 in
set_option maxHeartbeats 8000000 in
theorem lparts_any (A : Option Addr) (n c : Nat) (P : Nat → Pt) (w : World) (hn : n ≤ 65) (hS : Sl w w.heap.size A (ptB P n)) :
    Calls Try.prog 37 #[.slice A n c] w fun e w' => e = .returned (.int .i64 (partsV n P)) ∧ Below w.heap.size w w' := by
  have HS := Lib.hid hS
  have HB0 := Lib.hid (Below.refl w.heap.size w)
  clear hS
  by_cases hr : 1 ≤ n ∧ n ≤ 64
  · have hd : decide (1 ≤ (n : Int) ∧ (n : Int) ≤ 64) = true := decide_eq_true (by omega)
    have HD := Lib.hid hd
    have hv : partsV n P = if allOk P n then 0 else 1 := by unfold partsV; rw [if_pos hr]
    rw [hv]
    obtain ⟨vr, hvr⟩ : ∃ v, (if allOk P n then (0 : Int) else 1) = v := ⟨_, rfl⟩
    rw [hvr]
    have HVR := Lib.hid hvr
    clear hv hd hvr
    go_enter Try.func37, Try.ntmps37
    go_wp2_with (go_at_call 36; refine (within_any _ _ _ _).mono ?_; rintro e w' ⟨rfl, rfl⟩; rw [HD.out])
    go_loopw [3] (fun v wr => ∃ k : Nat, v = .int .i64 k ∧ k ≤ n ∧ Hid (∀ i, i < k → okD (P i) = true) ∧ Below w.heap.size w wr) (fun v _ => n - (intOf v).toNat)
    case atStart => exact ⟨0, rfl, by omega, fun i hi => absurd hi (by omega), Below.refl _ _⟩
    case round =>
      obtain ⟨k, rfl, hk, HA, hf⟩ := hrel
      have HF := Lib.hid hf
      clear hf
      by_cases hlt : k < n
      · have hki : (k : Int) < n := by omega
        obtain ⟨ab, off, rfl, hab, hcell⟩ := HS.out.open_ (by rw [ptB_len]; omega)
        have hrg : wr.rangeAt ab (off + k * 4) (ptC (P k)) := fun j v hv => by
          have hj4 : j < 4 := by have := (List.getElem?_eq_some_iff.1 hv).1; rw [ptC_len] at this; exact this
          rw [Nat.add_assoc]
          exact (HF.out.cell (p := ⟨ab, off + (k * 4 + j), none⟩) hab).trans (hcell _ v (by rw [ptB_get hlt hj4]; exact hv))
        have HRG := Lib.hid hrg
        have HN0 := Lib.hid (Blk.new wr 43 (ptC ⟨0, 0, 0, 0⟩))
        clear hrg hcell
        go_upto_region 7 with (first
          | ((with_reducible refine at_dst 18 ?_); refine wpList_load_mid rfl _ _ rfl ab (off + k * 4) rfl (ptC (P k)) _ HRG.out Try.underlying43 rfl part_size ?_)
          | ((with_reducible refine at_store 4 ?_); refine wpList_store_blk rfl _ _ _ rfl rfl wr.heap.size 0 43 (ptC ⟨0, 0, 0, 0⟩) (ptC (P k)) rfl rfl HN0.out (by rw [ptC_len, ptC_len]; omega) part_size (ptC_one _) ?_; intro wq hnq hgq))
        have hbq : Below wr.heap.size wr wq := ((Below.refl _ _).alloc (Nat.le_refl _) _).grown hgq (by simp) (fun j hj => by injection hj with hj; omega)
        have hq : Blk wq wr.heap.size 43 (ptC (P k)) := hnq
        have c0 : wq.cell? ⟨wr.heap.size, 0, none⟩ = some (.int .i64 (P k).mn) := hq.cell 0
        have c1 : wq.cell? ⟨wr.heap.size, 1, none⟩ = some (.int .i64 (P k).mx) := hq.cell 1
        have c2 : wq.cell? ⟨wr.heap.size, 2, none⟩ = some (.int .i64 (P k).wt) := hq.cell 2
        have c3 : wq.cell? ⟨wr.heap.size, 3, none⟩ = some (.int .i64 (P k).kp) := hq.cell 3
        have HF2 := Lib.hid (HF.out.trans (hbq.mono HF.out.size))
        clear hnq hgq hbq hq HN0 HRG
        generalize wr.heap.size = nb at *
        have HBAD : Hid (okD (P k) = false → allOk P n = false) := fun h => by
          cases hq : allOk P n with
          | false => rfl
          | true => have := (allOk_iff P n).1 hq k hlt; rw [h] at this; cases this
        have HOKP : Hid ((P k).Ok ↔ 0 ≤ (P k).mn ∧ (P k).mn ≤ (P k).mx ∧ (P k).mx ≤ 500 ∧ (0 ≤ (P k).wt ∧ (P k).wt ≤ 100) ∧ 0 ≤ (P k).kp ∧ (P k).kp ≤ 9) :=
          ⟨fun h => ⟨h.a, h.b, h.c, ⟨h.d, h.e⟩, h.f, h.g⟩, fun h => ⟨h.1, h.2.1, h.2.2.1, h.2.2.2.1.1, h.2.2.2.1.2, h.2.2.2.2.1, h.2.2.2.2.2⟩⟩
        generalize (P k).mn = mn at *
        generalize (P k).mx = mx at *
        generalize (P k).wt = wt at *
        generalize (P k).kp = kp at *
        obtain ⟨d1, hd1⟩ : ∃ d, decide (0 ≤ wt ∧ wt ≤ 100) = d := ⟨_, rfl⟩
        obtain ⟨d2, hd2⟩ : ∃ d, decide (0 ≤ kp ∧ kp ≤ 9) = d := ⟨_, rfl⟩
        have D1 := Lib.hid hd1
        have D2 := Lib.hid hd2
        clear hd1 hd2
        by_cases h1 : mn < 0
        · go_wp2_with (go_at_call 36; refine (within_any _ _ _ _).mono ?_; rintro e w' ⟨rfl, rfl⟩; first | rw [D1.out] | rw [D2.out])
          go_ret
          exact ⟨by rw [← HVR.out, HBAD.out (okD_false (fun h => by have := HOKP.out.1 h; omega))]; rfl, HF2.out⟩
        · by_cases h2 : mn > mx
          · go_wp2_with (go_at_call 36; refine (within_any _ _ _ _).mono ?_; rintro e w' ⟨rfl, rfl⟩; first | rw [D1.out] | rw [D2.out])
            go_ret
            exact ⟨by rw [← HVR.out, HBAD.out (okD_false (fun h => by have := HOKP.out.1 h; omega))]; rfl, HF2.out⟩
          · by_cases h3 : mx > 500
            · go_wp2_with (go_at_call 36; refine (within_any _ _ _ _).mono ?_; rintro e w' ⟨rfl, rfl⟩; first | rw [D1.out] | rw [D2.out])
              go_ret
              exact ⟨by rw [← HVR.out, HBAD.out (okD_false (fun h => by have := HOKP.out.1 h; omega))]; rfl, HF2.out⟩
            · cases d1 with
              | false =>
                go_wp2_with (go_at_call 36; refine (within_any _ _ _ _).mono ?_; rintro e w' ⟨rfl, rfl⟩; first | rw [D1.out] | rw [D2.out])
                go_ret
                exact ⟨by rw [← HVR.out, HBAD.out (okD_false (fun h => by have := HOKP.out.1 h; exact of_decide_eq_false D1.out this.2.2.2.1))]; rfl, HF2.out⟩
              | true =>
                cases d2 with
                | false =>
                  go_wp2_with (go_at_call 36; refine (within_any _ _ _ _).mono ?_; rintro e w' ⟨rfl, rfl⟩; first | rw [D1.out] | rw [D2.out])
                  go_ret
                  exact ⟨by rw [← HVR.out, HBAD.out (okD_false (fun h => by have := HOKP.out.1 h; exact of_decide_eq_false D2.out this.2.2.2.2))]; rfl, HF2.out⟩
                | true =>
                  go_wp2_with (go_at_call 36; refine (within_any _ _ _ _).mono ?_; rintro e w' ⟨rfl, rfl⟩; first | rw [D1.out] | rw [D2.out])
                  go_roundw
                  case rel => exact ⟨k + 1, by go_num, by omega, fun i hi => by
                    by_cases h : i < k
                    · exact HA.out i h
                    · obtain rfl : i = k := by omega
                      exact (okD_iff _).2 (HOKP.out.2 ⟨by omega, by omega, by omega, of_decide_eq_true D1.out, of_decide_eq_true D2.out⟩), HF2.out⟩
                  case measure => simp [intOf]; omega
      · have hki : ¬ (k : Int) < n := by omega
        obtain rfl : k = n := by omega
        go_wp2_with (fail)
        go_ret
        exact ⟨by rw [← HVR.out, (allOk_iff P k).2 HA.out]; rfl, HF.out⟩
  · have hd : decide (1 ≤ (n : Int) ∧ (n : Int) ≤ 64) = false := decide_eq_false (by omega)
    have HD := Lib.hid hd
    have hv : partsV n P = 3 := by unfold partsV; rw [if_neg hr]
    rw [hv]
    clear hv hd
    go_enter Try.func37, Try.ntmps37
    go_wp2_with (go_at_call 36; refine (within_any _ _ _ _).mono ?_; rintro e w' ⟨rfl, rfl⟩; rw [HD.out])
    go_ret
    exact ⟨rfl, HB0.out⟩
set_option maxHeartbeats 4000000 in
theorem lrcheck_any (room gap : Int) (A : Option Addr) (n c : Nat) (P : Nat → Pt) (w : World) (hn : n ≤ 65) (hS : Sl w w.heap.size A (ptB P n)) :
    Calls Try.prog 19 #[.int .i64 room, .int .i64 gap, .slice A n c] w fun e w' => e = .returned (.int .i64 (chkV room gap n P)) ∧ Below w.heap.size w w' := by
  have HP := Lib.hid (lparts_any A n c P w hn hS)
  have HB0 := Lib.hid (Below.refl w.heap.size w)
  clear hS
  have HV : Hid (chkV room gap n P = if decide (0 ≤ room ∧ room ≤ 500) = true ∧ decide (0 ≤ gap ∧ gap ≤ 9) = true then partsV n P else 160) := by
    show _ = _
    unfold chkV partsV
    by_cases h : 0 ≤ room ∧ room ≤ 500 ∧ 0 ≤ gap ∧ gap ≤ 9
    · rw [if_pos h]
      exact (if_pos ⟨decide_eq_true ⟨h.1, h.2.1⟩, decide_eq_true h.2.2⟩).symm
    · rw [if_neg h]
      exact (if_neg (fun h2 => h ⟨(of_decide_eq_true h2.1).1, (of_decide_eq_true h2.1).2, of_decide_eq_true h2.2⟩)).symm
  obtain ⟨d1, hd1⟩ : ∃ d, decide (0 ≤ room ∧ room ≤ 500) = d := ⟨_, rfl⟩
  obtain ⟨d2, hd2⟩ : ∃ d, decide (0 ≤ gap ∧ gap ≤ 9) = d := ⟨_, rfl⟩
  rw [hd1, hd2] at HV
  have D1 := Lib.hid hd1
  have D2 := Lib.hid hd2
  clear hd1 hd2
  generalize chkV room gap n P = v at *
  cases d1 with
  | false =>
    obtain rfl : v = 160 := by have := HV.out; simpa using this
    go_enter Try.func19, Try.ntmps19
    go_wp2_with (go_at_call 36; refine (within_any _ _ _ _).mono ?_; rintro e w' ⟨rfl, rfl⟩; first | rw [D1.out] | rw [D2.out])
    go_ret
    exact ⟨rfl, HB0.out⟩
  | true =>
    cases d2 with
    | false =>
      obtain rfl : v = 160 := by have := HV.out; simpa using this
      go_enter Try.func19, Try.ntmps19
      go_wp2_with (go_at_call 36; refine (within_any _ _ _ _).mono ?_; rintro e w' ⟨rfl, rfl⟩; first | rw [D1.out] | rw [D2.out])
      go_ret
      exact ⟨rfl, HB0.out⟩
    | true =>
      have hv : v = partsV n P := by have := HV.out; simpa using this
      rw [← hv] at HP
      clear hv HV
      go_enter Try.func19, Try.ntmps19
      go_wp2_with (first
        | (go_at_call 36; refine (within_any _ _ _ _).mono ?_; rintro e w' ⟨rfl, rfl⟩; first | rw [D1.out] | rw [D2.out])
        | (go_at_call 37; refine HP.out.mono ?_; rintro e w2 ⟨rfl, hb2⟩; have HB2 := Lib.hid hb2; clear hb2))
      go_ret
      exact ⟨rfl, HB2.out⟩

theorem rw1_at {w : World} {B : Nat} {A : Option Addr} {f : Nat → Value} {n : Nat} (h : Sl w B A (rw1 f n)) {k : Nat} (hk : k < n) : ∃ b off, A = some ⟨b, off, none⟩ ∧ b < B ∧ w.cell? ⟨b, off + k, none⟩ = some (f k) := by
  obtain ⟨b, off, e, hb, hc⟩ := h.open_ (by rw [rw1_len]; omega)
  exact ⟨b, off, e, hb, hc k _ (rw1_get hk)⟩

def alikeV (n m : Nat) (f g : Nat → Bool) : Bool := decide (n = m ∧ ∀ i, i < n → f i = g i)
set_option maxRecDepth 100000 in
set_option maxHeartbeats 4000000 in
theorem alike_any (A B : Option Addr) (n m c d : Nat) (f g : Nat → Bool) (w : World) (hn : n ≤ 1000) (hm : m ≤ 1000) (hA : Sl w w.heap.size A (rw1 (fun i => .bool (f i)) n)) (hB : Sl w w.heap.size B (rw1 (fun i => .bool (g i)) m)) :
    Calls Try.prog 16 #[.slice A n c, .slice B m d] w fun e w' => e = .returned (.bool (alikeV n m f g)) ∧ Below w.heap.size w w' := by
  have HA := Lib.hid hA
  have HB := Lib.hid hB
  have HB0 := Lib.hid (Below.refl w.heap.size w)
  clear hA hB
  by_cases hnm : n = m
  · subst hnm
    obtain ⟨vr, hvr⟩ : ∃ v, alikeV n n f g = v := ⟨_, rfl⟩
    rw [hvr]
    have HVR := Lib.hid hvr
    clear hvr
    go_enter Try.func16, Try.ntmps16
    go_wp2_with (fail)
    go_loopw [5] (fun v wr => ∃ k : Nat, v = .int .i64 k ∧ k ≤ n ∧ Hid (∀ i, i < k → f i = g i) ∧ Below w.heap.size w wr) (fun v _ => n - (intOf v).toNat)
    case atStart => exact ⟨0, rfl, by omega, fun i hi => absurd hi (by omega), Below.refl _ _⟩
    case round =>
      obtain ⟨k, rfl, hk, HQ, hf⟩ := hrel
      have HF := Lib.hid hf
      by_cases hlt : k < n
      · have hki : (k : Int) < n := by omega
        obtain ⟨b1, o1, rfl, hb1, hc1⟩ := rw1_at HA.out hlt
        obtain ⟨b2, o2, rfl, hb2, hc2⟩ := rw1_at HB.out hlt
        have k1 := cell_regrown ((hf.cell (p := ⟨b1, o1 + k, none⟩) hb1).trans hc1)
        have k2 := cell_regrown ((hf.cell (p := ⟨b2, o2 + k, none⟩) hb2).trans hc2)
        clear hf hc1 hc2
        obtain ⟨x, hx⟩ : ∃ x, f k = x := ⟨_, rfl⟩
        obtain ⟨y, hy⟩ : ∃ y, g k = y := ⟨_, rfl⟩
        rw [hx] at k1
        rw [hy] at k2
        have HX := Lib.hid hx
        have HY := Lib.hid hy
        clear hx hy
        cases x with
        | true =>
          cases y with
          | true =>
            go_wp2_with (fail)
            refine region_below0 (by kernel_rfl) (by kernel_rfl) ?_
            repeat (first
              | go_big_quiet_step (fail)
              | quiet_step (fail))
            refine wpQuiet_nil ?_
            intro _ hw'
            obtain ⟨⟨dq, osq⟩, hw''⟩ := hw'
            subst hw''
            have HBQ := Lib.hid (HF.out.trans ((below_regrown wr dq osq).mono HF.out.size))
            clear k1 k2
            generalize grow (redrawn wr dq) osq = W2 at *
            go_wp2_with (fail)
            go_roundw
            case rel => exact ⟨k + 1, by go_num, by omega, fun i hi => by
              by_cases h : i < k
              · exact HQ.out i h
              · obtain rfl : i = k := by omega
                rw [HX.out, HY.out], HBQ.out⟩
            case measure => simp [intOf]; omega

          | false =>
            go_wp2_with (fail)
            refine region_below0 (by kernel_rfl) (by kernel_rfl) ?_
            repeat (first
              | go_big_quiet_step (fail)
              | quiet_step (fail))
            refine wpQuiet_nil ?_
            intro _ hw'
            obtain ⟨⟨dq, osq⟩, hw''⟩ := hw'
            subst hw''
            have HBQ := Lib.hid (HF.out.trans ((below_regrown wr dq osq).mono HF.out.size))
            clear k1 k2
            generalize grow (redrawn wr dq) osq = W2 at *
            have HE : Hid (vr = false) := by
              rw [← HVR.out]
              exact decide_eq_false (fun h => by have := h.2 k hlt; rw [HX.out, HY.out] at this; cases this)
            go_wp2_with (fail)
            go_ret
            exact ⟨by rw [HE.out]; rfl, HBQ.out⟩

        | false =>
          cases y with
          | true =>
            go_wp2_with (fail)
            refine region_below0 (by kernel_rfl) (by kernel_rfl) ?_
            repeat (first
              | go_big_quiet_step (fail)
              | quiet_step (fail))
            refine wpQuiet_nil ?_
            intro _ hw'
            obtain ⟨⟨dq, osq⟩, hw''⟩ := hw'
            subst hw''
            have HBQ := Lib.hid (HF.out.trans ((below_regrown wr dq osq).mono HF.out.size))
            clear k1 k2
            generalize grow (redrawn wr dq) osq = W2 at *
            have HE : Hid (vr = false) := by
              rw [← HVR.out]
              exact decide_eq_false (fun h => by have := h.2 k hlt; rw [HX.out, HY.out] at this; cases this)
            go_wp2_with (fail)
            go_ret
            exact ⟨by rw [HE.out]; rfl, HBQ.out⟩

          | false =>
            go_wp2_with (fail)
            refine region_below0 (by kernel_rfl) (by kernel_rfl) ?_
            repeat (first
              | go_big_quiet_step (fail)
              | quiet_step (fail))
            refine wpQuiet_nil ?_
            intro _ hw'
            obtain ⟨⟨dq, osq⟩, hw''⟩ := hw'
            subst hw''
            have HBQ := Lib.hid (HF.out.trans ((below_regrown wr dq osq).mono HF.out.size))
            clear k1 k2
            generalize grow (redrawn wr dq) osq = W2 at *
            go_wp2_with (fail)
            go_roundw
            case rel => exact ⟨k + 1, by go_num, by omega, fun i hi => by
              by_cases h : i < k
              · exact HQ.out i h
              · obtain rfl : i = k := by omega
                rw [HX.out, HY.out], HBQ.out⟩
            case measure => simp [intOf]; omega

      · have hki : ¬ (k : Int) < n := by omega
        obtain rfl : k = n := by omega
        have HE : Hid (vr = true) := by
          rw [← HVR.out]
          exact decide_eq_true ⟨rfl, HQ.out⟩
        go_wp2_with (fail)
        go_ret
        exact ⟨by rw [HE.out]; rfl, HF.out⟩
  · have e : alikeV n m f g = false := decide_eq_false (fun h => hnm h.1)
    rw [e]
    clear e
    have hne : ((n : Int) != (m : Int)) = true := by simp; omega
    have hne2 : ¬ (n : Int) = m := by omega
    go_enter Try.func16, Try.ntmps16
    go_wp2_with (fail)
    go_ret
    exact ⟨rfl, HB0.out⟩

def sameV (n m : Nat) (f g : Nat → Int) : Bool := decide (n = m ∧ ∀ i, i < n → f i = g i)
set_option maxRecDepth 100000 in
set_option maxHeartbeats 4000000 in
theorem same_any (A B : Option Addr) (n m c d : Nat) (f g : Nat → Int) (w : World) (hn : n ≤ 1000) (hm : m ≤ 1000) (hA : Sl w w.heap.size A (rw1 (fun i => .int .i64 (f i)) n)) (hB : Sl w w.heap.size B (rw1 (fun i => .int .i64 (g i)) m)) :
    Calls Try.prog 17 #[.slice A n c, .slice B m d] w fun e w' => e = .returned (.bool (sameV n m f g)) ∧ Below w.heap.size w w' := by
  have HA := Lib.hid hA
  have HB := Lib.hid hB
  have HB0 := Lib.hid (Below.refl w.heap.size w)
  clear hA hB
  by_cases hnm : n = m
  · subst hnm
    obtain ⟨vr, hvr⟩ : ∃ v, sameV n n f g = v := ⟨_, rfl⟩
    rw [hvr]
    have HVR := Lib.hid hvr
    clear hvr
    go_enter Try.func17, Try.ntmps17
    go_wp2_with (fail)
    go_loopw [5] (fun v wr => ∃ k : Nat, v = .int .i64 k ∧ k ≤ n ∧ Hid (∀ i, i < k → f i = g i) ∧ Below w.heap.size w wr) (fun v _ => n - (intOf v).toNat)
    case atStart => exact ⟨0, rfl, by omega, fun i hi => absurd hi (by omega), Below.refl _ _⟩
    case round =>
      obtain ⟨k, rfl, hk, HQ, hf⟩ := hrel
      have HF := Lib.hid hf
      by_cases hlt : k < n
      · have hki : (k : Int) < n := by omega
        obtain ⟨b1, o1, rfl, hb1, hc1⟩ := rw1_at HA.out hlt
        obtain ⟨b2, o2, rfl, hb2, hc2⟩ := rw1_at HB.out hlt
        have k1 := cell_regrown ((hf.cell (p := ⟨b1, o1 + k, none⟩) hb1).trans hc1)
        have k2 := cell_regrown ((hf.cell (p := ⟨b2, o2 + k, none⟩) hb2).trans hc2)
        clear hf hc1 hc2
        obtain ⟨x, hx⟩ : ∃ x, f k = x := ⟨_, rfl⟩
        obtain ⟨y, hy⟩ : ∃ y, g k = y := ⟨_, rfl⟩
        rw [hx] at k1
        rw [hy] at k2
        have HX := Lib.hid hx
        have HY := Lib.hid hy
        clear hx hy
        go_wp2_with (fail)
        refine region_below0 (by kernel_rfl) (by kernel_rfl) ?_
        repeat (first
          | go_big_quiet_step (fail)
          | quiet_step (fail))
        refine wpQuiet_nil ?_
        intro _ hw'
        obtain ⟨⟨dq, osq⟩, hw''⟩ := hw'
        subst hw''
        have HBQ := Lib.hid (HF.out.trans ((below_regrown wr dq osq).mono HF.out.size))
        clear k1 k2
        generalize grow (redrawn wr dq) osq = W2 at *
        by_cases hxy : x = y
        · subst hxy
          go_wp2_with (fail)
          go_roundw
          case rel => exact ⟨k + 1, by go_num, by omega, fun i hi => by
            by_cases h : i < k
            · exact HQ.out i h
            · obtain rfl : i = k := by omega
              rw [HX.out, HY.out], HBQ.out⟩
          case measure => simp [intOf]; omega
        · have HE : Hid (vr = false) := by
            rw [← HVR.out]
            exact decide_eq_false (fun h => hxy (by rw [← HX.out, ← HY.out]; exact h.2 k hlt))
          have hne : (x != y) = true := by simp [hxy]
          go_wp2_with (fail)
          go_ret
          exact ⟨by rw [HE.out]; rfl, HBQ.out⟩
      · have hki : ¬ (k : Int) < n := by omega
        obtain rfl : k = n := by omega
        have HE : Hid (vr = true) := by
          rw [← HVR.out]
          exact decide_eq_true ⟨rfl, HQ.out⟩
        go_wp2_with (fail)
        go_ret
        exact ⟨by rw [HE.out]; rfl, HF.out⟩
  · have e : sameV n m f g = false := decide_eq_false (fun h => hnm h.1)
    rw [e]
    clear e
    have hne : ((n : Int) != (m : Int)) = true := by simp; omega
    have hne2 : ¬ (n : Int) = m := by omega
    go_enter Try.func17, Try.ntmps17
    go_wp2_with (fail)
    go_ret
    exact ⟨rfl, HB0.out⟩
end Go.Proofs.Ytdodogehlnchlaa
