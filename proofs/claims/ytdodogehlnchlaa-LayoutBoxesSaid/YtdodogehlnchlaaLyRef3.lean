/-
  Walks: the document's Least, Stay.
-/
import Derived.Test.YtdodogehlnchlaaLyRef2
namespace Go.Proofs.Ytdodogehlnchlaa
open Go.RowKit Go.Shelf Go.Sort
attribute [local go_sem] Oper.semAt_some
set_option linter.unusedVariables false
set_option linter.unusedSimpArgs false

theorem ki_all (n : Nat) : ki (fun _ => true) n = List.range n := by simp [ki]
def leastV (gap : Int) (n : Nat) (P : Nat → Pt) : Int := need gap (fun i => (P i).mn) (ki (fun _ => true) n)
theorem or_head {w : World} {base n c : Nat} {e : TypeId} {A : Option Addr} {xs : List Value} (h : OR w base e A n c xs) (hn : 0 < n) : ∃ g, A = some ⟨g, 0, none⟩ ∧ base ≤ g ∧ g < w.heap.size ∧ ∀ j, w.frozen? ⟨g, j, none⟩ = false := by
  obtain ⟨⟨hl, hv⟩, hn'⟩ := h
  rcases hv with ⟨hv, h0⟩ | ⟨q, cap, cur, hv, h1, h2, h3⟩
  · omega
  · injection hv with hA _ hc
    subst hA
    exact ⟨q, rfl, h1, (Array.getElem?_eq_some_iff.1 h2).1, fun j => by simp [World.frozen?, h2]⟩
/-- how many are kept, as a row tells -/
def cntN (w : World) (g n : Nat) : Nat := ((List.range n).filter fun j => isT ((w.cell? ⟨g, j, none⟩).getD undef)).length
theorem cntN_row {w : World} {B g n : Nat} {b : Nat → Bool} (h : Sl w B (some ⟨g, 0, none⟩) (rw1 (fun i => .bool (b i)) n)) : cntN w g n = (ki b n).length := by
  unfold cntN ki
  congr 1
  apply List.filter_congr
  intro j hj
  have hjn : j < n := by simpa using hj
  obtain ⟨q, o, e, _, hc⟩ := rw1_at h hjn
  injection e with e
  injection e with e1 e2
  subst e1 e2
  rw [Nat.zero_add] at hc
  rw [hc]
  cases b j <;> rfl
theorem inv0_kept {P : Nat → Pt} {n : Nat} {τ : Sts} (h : Inv0 P n τ) {i : Nat} (hk : kpO τ i = true) : τ i = beg P i := by
  rcases h i with h1 | ⟨_, h1⟩
  · exact h1
  · unfold kpO at hk; rw [h1] at hk; cases hk
theorem inv0_nd {P : Nat → Pt} {n : Nat} {τ : Sts} (gap : Int) (h : Inv0 P n τ) : nd gap τ n = need gap (fun i => (P i).mn) (ki (kpO τ) n) :=
  need_congr fun i hi => by unfold szO; rw [inv0_kept h (mem_ki.1 hi).2]; rfl
theorem inv0_lst {P : Nat → Pt} {n : Nat} {τ : Sts} (h : Inv0 P n τ) : lst τ n = lstL (fun i => (P i).kp) (ki (kpO τ) n) :=
  lstL_congr fun i hi => by unfold keO; rw [inv0_kept h (mem_ki.1 hi).2]; rfl

set_option maxRecDepth 100000 in
set_option maxHeartbeats 4000000 in
theorem rleast_any (gap : Int) (A : Option Addr) (n c : Nat) (P : Nat → Pt) (w : World) (hn : n ≤ 65) (hS : Sl w w.heap.size A (ptB P n)) :
    Calls Try.prog 11 #[.int .i64 gap, .slice A n c] w fun e w' => ((chkV 0 gap n P ≠ 0 ∧ e = .returned (.tuple #[.int .i64 0, .int .i64 (chkV 0 gap n P)])) ∨ (chkV 0 gap n P = 0 ∧ e = .returned (.tuple #[.int .i64 (leastV gap n P), .int .i64 0]))) ∧ Below w.heap.size w w' := by
  have HCK := Lib.hid (lrcheck_any 0 gap A n c P w hn hS)
  have HS := Lib.hid hS
  by_cases hv : chkV 0 gap n P = 0
  · obtain ⟨⟨_, _, g0, g9⟩, ⟨n1, n64⟩, hok⟩ := chkV_ok hv
    obtain ⟨ab, off, hA, hab, _⟩ := hS.open_ (by rw [ptB_len]; omega)
    subst hA
    have HOK := Lib.hid hok
    have HV := Lib.hid hv
    rw [hv] at HCK
    clear hok hS hv
    go_enter Try.func11, Try.ntmps11
    go_upto_region 4 with (go_at_call 19; refine HCK.out.mono ?_; rintro e w1 ⟨rfl, hb1⟩; have HB1 := Lib.hid hb1; clear hb1)
    have HS1 := Lib.hid ((HS.out.below HB1.out).more HB1.out.size)
    go_wp2_with (first
      | (go_at_call 29; refine (revery_any _ n c hn _).mono ?_; rintro e w2 ⟨S, d, rfl, hor, hb2⟩; have HOR := Lib.hid hor; have HB2 := Lib.hid hb2; have HS2 := Lib.hid ((HS1.out.below hb2).more hb2.size); clear hor hb2)
      | (go_at_call 28; refine (rneed_any gap ab off n c P S n d (fun _ => true) _ n64 rfl g0 g9 HOK.out HS2.out HOR.out.sl).mono ?_; rintro e w3 ⟨rfl, hb3⟩; have HB3 := Lib.hid hb3; clear hb3))
    go_ret2
    have hB := HB1.out.trans (HB2.out.mono HB1.out.size)
    exact ⟨.inr ⟨HV.out, rfl⟩, hB.trans (HB3.out.mono hB.size)⟩
  · have HV := Lib.hid hv
    have hne : (chkV 0 gap n P != 0) = true := by simp [hv]
    clear hS
    generalize chkV 0 gap n P = v at *
    go_enter Try.func11, Try.ntmps11
    go_wp2_with (go_at_call 19; refine HCK.out.mono ?_; rintro e w1 ⟨rfl, hb1⟩; have HB1 := Lib.hid hb1; clear hb1)
    go_ret2
    exact ⟨.inl ⟨HV.out, rfl⟩, HB1.out⟩
set_option maxRecDepth 100000 in
set_option maxHeartbeats 4000000 in
theorem pleast_any (gap : Int) (A : Option Addr) (n c : Nat) (P : Nat → Pt) (w : World) (hn : n ≤ 65) (hS : Sl w w.heap.size A (ptB P n)) :
    Calls Try.prog 10 #[.int .i64 gap, .slice A n c] w fun e w' => ((chkV 0 gap n P ≠ 0 ∧ e = .returned (.tuple #[.int .i64 0, .int .i64 (chkV 0 gap n P)])) ∨ (chkV 0 gap n P = 0 ∧ e = .returned (.tuple #[.int .i64 (leastV gap n P), .int .i64 0]))) ∧ Below w.heap.size w w' := by
  have HCK := Lib.hid (check_any 0 gap A n c P w hn hS)
  have HS := Lib.hid hS
  by_cases hv : chkV 0 gap n P = 0
  · obtain ⟨⟨_, _, g0, g9⟩, ⟨n1, n64⟩, hok⟩ := chkV_ok hv
    have HOK := Lib.hid hok
    have HV := Lib.hid hv
    rw [hv] at HCK
    have HLV : Hid (nd gap (beg P) n = leastV gap n P) := rfl
    clear hok hS hv
    go_enter Try.func10, Try.ntmps10
    go_upto_region 4 with (go_at_call 18; refine HCK.out.mono ?_; rintro e w1 ⟨rfl, hb1⟩; have HB1 := Lib.hid hb1; clear hb1)
    have HS1 := Lib.hid ((HS.out.below HB1.out).more HB1.out.size)
    go_wp2_with (first
      | (go_at_call 27; refine (begin_any A n c P w1 n1 n64 HS1.out).mono ?_; rintro e w2 ⟨rfl, hbl, hb2⟩; have HBL := Lib.hid hbl; have HB2 := Lib.hid hb2; clear hbl hb2)
      | (go_at_call 26; refine (needed_any gap w1.heap.size n (beg P) w2 n64 g0 g9 HBL.out (fun i hi _ => ⟨(HOK.out i hi).a, Int.le_trans (HOK.out i hi).b (HOK.out i hi).c⟩)).mono ?_; rintro e w3 ⟨rfl, hb3⟩; have HB3 := Lib.hid hb3; clear hb3))
    go_ret2
    have hB := HB1.out.trans (HB2.out.mono HB1.out.size)
    exact ⟨.inr ⟨HV.out, rfl⟩, hB.trans (HB3.out.mono hB.size)⟩
  · have HV := Lib.hid hv
    have hne : (chkV 0 gap n P != 0) = true := by simp [hv]
    clear hS
    generalize chkV 0 gap n P = v at *
    go_enter Try.func10, Try.ntmps10
    go_wp2_with (go_at_call 18; refine HCK.out.mono ?_; rintro e w1 ⟨rfl, hb1⟩; have HB1 := Lib.hid hb1; clear hb1)
    go_ret2
    exact ⟨.inl ⟨HV.out, rfl⟩, HB1.out⟩

set_option maxRecDepth 100000 in
set_option maxHeartbeats 8000000 in
theorem rstay_any (room gap : Int) (A : Option Addr) (n c : Nat) (P : Nat → Pt) (w : World) (hn : n ≤ 65) (hS : Sl w w.heap.size A (ptB P n)) :
    Calls Try.prog 13 #[.int .i64 room, .int .i64 gap, .slice A n c] w fun e w' => ((chkV room gap n P ≠ 0 ∧ e = .returned (.tuple #[.slice none 0 0, .int .i64 (chkV room gap n P)])) ∨ (chkV room gap n P = 0 ∧ ∃ S d, e = .returned (.tuple #[.slice S n d, .int .i64 0]) ∧ OR w' w.heap.size 4 S n d (rw1 (fun i => .bool (kpR gap room P n i)) n))) ∧ Below w.heap.size w w' := by
  have HCK := Lib.hid (lrcheck_any room gap A n c P w hn hS)
  have HS := Lib.hid hS
  by_cases hv : chkV room gap n P = 0
  · obtain ⟨⟨r0, r5, g0, g9⟩, ⟨n1, n64⟩, hok⟩ := chkV_ok hv
    obtain ⟨ab, off, hA, hab, _⟩ := hS.open_ (by rw [ptB_len]; omega)
    subst hA
    have HOK := Lib.hid hok
    have HV := Lib.hid hv
    rw [hv] at HCK
    clear hok hS hv
    go_enter Try.func13, Try.ntmps13
    go_upto_region 4 with (go_at_call 19; refine HCK.out.mono ?_; rintro e w1 ⟨rfl, hb1⟩; have HB1 := Lib.hid hb1; clear hb1)
    have HS1 := Lib.hid ((HS.out.below HB1.out).more HB1.out.size)
    go_wp2_with (go_at_call 29; refine (revery_any _ n c hn _).mono ?_; rintro e w2 ⟨S, d, rfl, hor, hb2⟩; have HOR := Lib.hid hor; have HB2 := Lib.hid hb2; clear hor hb2)
    obtain ⟨g, hSg, hgb, hgl, _⟩ := or_head HOR.out n1
    subst hSg
    have HW2 := Lib.hid (HB1.out.trans (HB2.out.mono HB1.out.size))
    have HOR2 := Lib.hid (HOR.out.weaken HB1.out.size)
    have hgw : w.heap.size ≤ g := Nat.le_trans HB1.out.size hgb
    clear HCK HOR HB1 HB2 HS1 hgb hgl
    go_loopw [] (fun wr => ∃ (m : Nat) (τ : Sts), cnt τ n ≤ m ∧ Hid (dropN gap room n m τ = d1 gap room P n) ∧ Hid (Inv0 P n τ) ∧ OR wr w.heap.size 4 (some ⟨g, 0, none⟩) n d (rw1 (fun i => .bool (kpO τ i)) n) ∧ Below w.heap.size w wr) (fun wr => cntN wr g n)
    case atStart => exact ⟨n, beg P, cnt_le _ _, rfl, Inv0.beg P n, HOR2.out, HW2.out⟩
    case round =>
      obtain ⟨m, τ, hm, HD, HI, hor, hw⟩ := hrel
      have HM := Lib.hid hm
      have HOR := Lib.hid hor
      have HW := Lib.hid hw
      have HND := Lib.hid (inv0_nd gap HI.out)
      have HLS := Lib.hid (inv0_lst HI.out)
      have HSW := Lib.hid ((HS.out.below hw).more hw.size)
      have HCN : Hid (cntN wr g n = cnt τ n) := cntN_row hor.sl
      clear hor hw hm HOR2 HW2
      have HFI : Hid (∀ W, Below wr.heap.size wr W → Calls Try.prog 31 #[.slice (some ⟨ab, off, none⟩) n c, .slice (some ⟨g, 0, none⟩) n d] W fun e w' => e = .returned (.int .i64 (oI (lst τ n))) ∧ Below W.heap.size W w') := fun W hW => by
        rw [HLS.out]
        exact rfirst_any ab off n c P (some ⟨g, 0, none⟩) n d (kpO τ) W hn rfl ((HSW.out.below hW).more hW.size) ((HOR.out.on hW).sl)
      have HNE : Hid (∀ W, Below wr.heap.size wr W → Calls Try.prog 28 #[.int .i64 gap, .slice (some ⟨ab, off, none⟩) n c, .slice (some ⟨g, 0, none⟩) n d] W fun e w' => e = .returned (.int .i64 (nd gap τ n)) ∧ Below W.heap.size W w') := fun W hW => by
        rw [HND.out]
        exact rneed_any gap ab off n c P (some ⟨g, 0, none⟩) n d (kpO τ) W n64 rfl g0 g9 HOK.out ((HSW.out.below hW).more hW.size) ((HOR.out.on hW).sl)
      obtain ⟨v, hv⟩ : ∃ v, nd gap τ n = v := ⟨_, rfl⟩
      rw [hv] at HNE
      have HFR : Hid (τ = d1 gap room P n → ∀ W, Below wr.heap.size wr W → OR W w.heap.size 4 (some ⟨g, 0, none⟩) n d (rw1 (fun i => .bool (kpR gap room P n i)) n) ∧ Below w.heap.size w W) := fun e W hW => by
        have h1 := HOR.out.on hW
        have e2 : (fun i => Value.bool (kpR gap room P n i)) = fun i => Value.bool (kpO τ i) := by funext i; unfold kpR; rw [g2_kp, e]
        rw [e2]
        exact ⟨h1, HW.out.trans (hW.mono HW.out.size)⟩
      by_cases hle : v ≤ room
      · have HF : Hid (τ = d1 gap room P n) := by have := HD.out; rwa [dropN_le (by rw [hv]; exact hle)] at this
        clear hv
        cases hls : lst τ n with
        | none =>
          rw [hls] at HFI
          simp only [oI] at HFI
          clear hls
          go_wp2_with (go_at_call 31; refine (HFI.out _ (Below.refl _ _)).mono ?_; rintro e w3 ⟨rfl, hb3⟩; have HB3 := Lib.hid hb3; clear hb3)
          go_ret2
          obtain ⟨q1, q2⟩ := HFR.out HF.out _ HB3.out
          exact ⟨.inr ⟨HV.out, _, _, rfl, q1⟩, q2⟩
        | some j =>
          rw [hls] at HFI
          simp only [oI] at HFI
          have hj0 : (j : Int) ≥ 0 := by omega
          clear hls
          go_wp2_with (first
            | (go_at_call 31; refine (HFI.out _ (Below.refl _ _)).mono ?_; rintro e w3 ⟨rfl, hb3⟩; have HB3 := Lib.hid hb3; clear hb3)
            | (go_at_call 28; refine (HNE.out _ HB3.out).mono ?_; rintro e w4 ⟨rfl, hb4⟩; have HB4 := Lib.hid (HB3.out.trans (hb4.mono HB3.out.size)); clear hb4))
          go_ret2
          obtain ⟨q1, q2⟩ := HFR.out HF.out _ HB4.out
          exact ⟨.inr ⟨HV.out, _, _, rfl, q1⟩, q2⟩
      · obtain ⟨j, hj, hjm⟩ := nd_pos r0 (by rw [hv]; exact hle)
        have hmp : 0 < m := by have := cnt_drp hjm; have := HM.out; omega
        obtain ⟨m', rfl⟩ : ∃ m', m = m' + 1 := ⟨m - 1, by omega⟩
        have HF : Hid (dropN gap room n m' (drp τ j) = d1 gap room P n) := by have := HD.out; rwa [dropN_step (by rw [hv]; exact hle) hj] at this
        have HI' : Hid (Inv0 P n (drp τ j)) := HI.out.drp hjm
        have HC2 : Hid (cnt (drp τ j) n ≤ m' ∧ cnt (drp τ j) n < cnt τ n) := by have := cnt_drp hjm; have := HM.out; exact ⟨by omega, by omega⟩
        have hjn := (mem_ki.1 hjm).1
        rw [hj] at HFI
        simp only [oI] at HFI
        have hj0 : (j : Int) ≥ 0 := by omega
        have hjn2 : (j : Int) < n := by omega
        clear hj hjm hmp hv
        go_upto_region 6 with (first
          | (go_at_call 31; refine (HFI.out _ (Below.refl _ _)).mono ?_; rintro e w3 ⟨rfl, hb3⟩; have HB3 := Lib.hid hb3; clear hb3)
          | (go_at_call 28; refine (HNE.out _ HB3.out).mono ?_; rintro e w4 ⟨rfl, hb4⟩; have HB4 := Lib.hid (HB3.out.trans (hb4.mono HB3.out.size)); clear hb4))
        have HCE : Hid (∀ W, Below wr.heap.size wr W → W.cell? ⟨g, j, none⟩ = some (.bool (kpO τ j)) ∧ W.frozen? ⟨g, j, none⟩ = false) := fun W hW => by
          obtain ⟨q, e, _, h2, h3⟩ := (HOR.out.on hW).cell (rw1_get hjn)
          injection e with e
          injection e with e1
          subst e1
          exact ⟨h2, h3⟩
        go_wp2_with (go_at_call 31; refine (HFI.out _ HB4.out).mono ?_; rintro e w5 ⟨rfl, hb5⟩; have HB5 := Lib.hid (HB4.out.trans (hb5.mono HB4.out.size)); obtain ⟨hce, hfr⟩ := HCE.out _ HB5.out; clear hb5)
        have h9 := (HOR.out.on HB5.out).setAt hjn (.bool false)
        have e9 : (rw1 (fun i => Value.bool (kpO τ i)) n).set j (.bool false) = rw1 (fun i => .bool (kpO (drp τ j) i)) n := by
          rw [rw1_set]
          exact rw1_congr fun i _ => by
            rw [kpO_drp]
            split <;> rfl
        rw [e9] at h9
        have hw9 := (HW.out.trans (HB5.out.mono HW.out.size)).setCell (p := ⟨g, j, none⟩) hgw (.bool false)
        have HCN9 : Hid (cntN (w5.setCell ⟨g, j, none⟩ (.bool false)) g n = cnt (drp τ j) n) := cntN_row h9.sl
        go_roundw
        case rel => exact ⟨m', drp τ j, HC2.out.1, HF, HI', h9, hw9⟩
        case measure => rw [HCN9.out, HCN.out]; exact HC2.out.2
  · have HV := Lib.hid hv
    have hne : (chkV room gap n P != 0) = true := by simp [hv]
    clear hS
    generalize chkV room gap n P = v at *
    go_enter Try.func13, Try.ntmps13
    go_wp2_with (go_at_call 19; refine HCK.out.mono ?_; rintro e w1 ⟨rfl, hb1⟩; have HB1 := Lib.hid hb1; clear hb1)
    go_ret2
    exact ⟨.inl ⟨HV.out, rfl⟩, HB1.out⟩
end Go.Proofs.Ytdodogehlnchlaa
