/-
  Walks: the reference's fit; New.
-/
import Derived.Test.YtijbimofigkdkaaDoorRfScroll
namespace Go.Proofs.YtijbimofigkdkaaDoor
open Go.RowKit
set_option linter.unusedVariables false
set_option linter.unusedSimpArgs false

theorem splice_length (cs ds : List Value) (o : Nat) (h : o + ds.length ≤ cs.length) : (splice cs o ds).length = cs.length := by
  unfold splice
  simp
  omega

set_option maxRecDepth 100000 in
set_option maxHeartbeats 8000000 in
theorem rfit_any {w : World} {D : Nat → Prop} {v : Value} {l : List Cl} (h : RowD w D v l) (W : Nat) (hw1 : 1 ≤ W) (hw5 : W ≤ 500) (hl1 : 1 ≤ l.length) (hl5 : l.length ≤ 500) :
    Calls Tryd.prog 56 #[v, .int .i64 W] w fun e w' => ∃ v', e = .returned v' ∧ RowD w' (fun b => w.heap.size ≤ b) v' (fitM l W) ∧ Below w.heap.size w w' := by
  obtain ⟨A, c, rfl, hnil, hS⟩ := h
  obtain ⟨i0, hi0, hz0, hz1, hz2⟩ := info_parts cl_info
  obtain ⟨p, hp⟩ : ∃ p, min l.length W = p + 1 := ⟨min l.length W - 1, by omega⟩
  obtain ⟨b, off, rfl, hbl, _, hbx⟩ := hS.open_ (by rw [rc_length]; omega)
  have htk : Sl w w.heap.size (some ⟨b, off, none⟩) (rc (l.take (p + 1))) := by
    have := hS.sl.take ((p + 1) * 7)
    rwa [rc_take] at this
  have hol : (l.take W).length = p + 1 := by rw [List.length_take]; omega
  have hot : l.take W = l.take (p + 1) := by
    rcases Nat.lt_or_ge l.length W with h' | h'
    · rw [List.take_of_length_le (by omega), List.take_of_length_le (by omega)]
    · have : W = p + 1 := by omega
      rw [this]
  have hpl : p < l.length := by omega
  have hx : (l.take (p + 1))[p]? = some l[p] := by rw [List.getElem?_take, if_pos (by omega), List.getElem?_eq_getElem hpl]
  obtain ⟨o, ho⟩ : ∃ o, o = (if (l[p]).w = 2 then (l.take (p + 1)).set p bl else l.take (p + 1)) := ⟨_, rfl⟩
  have hM : fitM l W = o ++ List.replicate (W - (p + 1)) bl := by
    unfold fitM
    simp only
    rw [hol, hot, show p + 1 - 1 = p by omega, hx]
    simp only
    rw [ho]
  rw [hM]
  generalize l[p] = x at hx ho
  have hol2 : (l.take (p + 1)).length = p + 1 := by rw [← hot]; exact hol
  obtain ⟨n, hn⟩ : ∃ n, n = l.length := ⟨_, rfl⟩
  have hmin : min (n : Int) (W : Int) = (p : Int) + 1 := by omega
  have hpn : p + 1 ≤ n := by omega
  have hpni : (p : Int) + 1 ≤ n := by omega
  have hpW : p + 1 ≤ W := by omega
  have hpc : p + 1 ≤ c := by have := hnil.2; omega
  have hpci : (p : Int) + 1 ≤ c := by omega
  rw [← hn] at hl5 ⊢
  generalize l.take (p + 1) = t at *
  have HI0 := Lib.hid hi0
  have HZ0 := Lib.hid hz0
  have HZ1 := Lib.hid hz1
  have HZ2 := Lib.hid hz2
  have HSL := Lib.hid (htk.alloc (Nat.le_refl _) (.cells #[] 51))
  have HTL := Lib.hid hol2
  have HX := Lib.hid hx
  have HO := Lib.hid ho
  have HLIT := Lib.hid (show (w.alloc (.cells #[] 51)).ownsRow w.heap.size 51 7 (.slice (some ⟨w.heap.size, 0, none⟩) 0 0) 0 [] by have := World.ownsRow_lit (base := w.heap.size) (e := 51) (size := 7) w #[] 0 (Nat.le_refl _) (by simp only [maxLen]; omega) (by simp); simpa using this)
  have hcast : ((p + 1 : Nat) : Int) = (p : Int) + 1 := by omega
  have hp0 : 0 ≤ (p : Int) := by omega
  clear hi0 hz0 hz1 hz2 hS hnil hbx htk hol hot hx ho hM hn hpl hp hol2
  have key : x.w = 2 ∨ x.w ≠ 2 := by omega
  rcases key with h2 | h2
  · have e2 : (x.w == 2) = true := by simp [h2]
    have HO' : Hid (o = t.set p bl) := by have := HO.out; rw [if_pos h2] at this; exact this
    clear h2
    go_enter Tryd.func56, Tryd.ntmps56
    go_upto_region 4 with (first
      | (at_builtin; (refine wpList_append_sl _ rfl (.tmp 6) (.tmp 12) _ rfl w.heap.size 51 i0 _ 7 48 Tryd.underlying46 HI0.out HZ0.out HZ1.out HZ2.out rfl (by omega) (.slice (some ⟨w.heap.size, 0, none⟩) 0 0) 0 [] rfl HLIT.out w.heap.size _ (p + 1) c (rc t) rfl HSL.out (by rw [rc_length, HTL.out]) (fun e => by cases e) (rc_one _) (by simp only [maxLen]; omega) (by omega) (by simp) ?_); intro v' w2 hw hg hat; rw [Nat.zero_add, List.nil_append] at hw; obtain ⟨g, cap, cur, rfl, hbg, hb2, htk, hlc, hre⟩ := own_blk2 hw (by omega); have HB2 := Lib.hid hb2; have HTK := Lib.hid htk; have HLC := Lib.hid hlc; have HRE := Lib.hid hre; have HBG := Lib.hid hbg; have HOW := Lib.hid hw; have HBE := Lib.hid (((Below.refl w.heap.size w).alloc (Nat.le_refl _) (.cells #[] 51)).grown hg (by simp) (fun j hj => by have : some w.heap.size = some j := hj; injection this with this; omega)); have hcx : w2.cell? ⟨g, p * 7 + 1, none⟩ = some (.int .i64 x.w) := (by rw [hb2.cell, ← List.getElem?_take_of_lt (show p * 7 + 1 < (p + 1) * 7 by omega), htk]; exact rc_get HX.out (j := 1) rfl); clear hw hg hat hb2 htk hlc hre hbg)
      | ((with_reducible refine at_store 32 ?_); refine wpList_store_blk rfl _ _ _ rfl rfl g (p * 7) _ cur bl.cells rfl rfl HB2.out (by have := HLC.out; rw [Cl.len]; omega) cl_size bl.one ?_; intro w3 hn3 hg3))
    have HST : Hid (w3.ownsRow w.heap.size 51 7 (.slice (some ⟨g, 0, none⟩) (p + 1) cap) (p + 1) (rc (o ++ List.replicate (p + 1 - (p + 1)) bl))) := by
      have h1 := HRE.out w3 _ hn3 (splice_length _ _ _ (by have := HLC.out; rw [Cl.len]; omega))
      rw [take_splice _ _ _ _ (by rw [Cl.len]; omega) HLC.out, HTK.out, rc_splice _ _ _ (by rw [HTL.out]; omega), ← HO'.out] at h1
      show World.ownsRow _ _ _ _ _ _ _
      rw [Nat.sub_self, List.replicate_zero, List.append_nil]
      exact h1
    have HBS := Lib.hid (HBE.out.grown hg3 HBE.out.size (fun j hj => by injection hj with hj; have := HBG.out; omega))
    clear hn3 hg3
    go_loopw [5] (fun v5 wr => ∃ (k : Nat) (A1 : Option Addr) (c1 : Nat), v5 = .slice A1 k c1 ∧ p + 1 ≤ k ∧ k ≤ W ∧ (A1 = none → c1 = 0) ∧ wr.ownsRow w.heap.size 51 7 (.slice A1 k c1) k (rc (o ++ List.replicate (k - (p + 1)) bl)) ∧ Below w.heap.size w wr) (fun v5 _ => W - lenOf v5)
    case atStart => exact ⟨p + 1, some ⟨g, 0, none⟩, cap, rfl, by omega, hpW, fun e => (by cases e), HST.out, HBS.out⟩
    case round =>
      obtain ⟨k, A1, c1, rfl, hk1, hk2, hn1, ho, hbr⟩ := hrel
      have HO1 := Lib.hid ho
      have HBR := Lib.hid hbr
      have HN1 := Lib.hid hn1
      clear ho hbr hn1 HST HBS hcx
      by_cases hlt : k < W
      · have hki : (k : Int) < W := by omega
        have hws := HBR.out.size
        have e3 : rc (o ++ List.replicate (k - (p + 1)) bl) ++ bl.cells = rc (o ++ List.replicate (k + 1 - (p + 1)) bl) := by
          rw [show k + 1 - (p + 1) = (k - (p + 1)) + 1 by omega, rc_append, rc_append, List.append_assoc, rc_rep_snoc]
        have E3 := Lib.hid e3
        clear e3
        go_wp2_with (at_builtin; (refine wpList_append_sl _ rfl (.tmp 37) (.tmp 39) _ rfl w.heap.size 51 i0 _ 7 48 Tryd.underlying46 HI0.out HZ0.out HZ1.out HZ2.out rfl (by omega) (.slice A1 k c1) k _ rfl (HO1.out.alloc _) (wr.heap.size + 1) (some ⟨wr.heap.size, 0, none⟩) 1 1 bl.cells rfl (Sl.new wr _ _) rfl (fun e => by cases e) bl.one (by simp only [maxLen]; omega) (by omega) (by simp; omega) ?_); intro v' w5 hw hg hat; rw [E3.out] at hw; obtain ⟨A5, c5, rfl, hn5, _⟩ := own_of hw; have HO5 := Lib.hid hw; have HN5 := Lib.hid hn5; have HB5 := Lib.hid ((HBR.out.alloc HBR.out.size _).grown hg (by simp; omega) (fun j hj => (HO1.out.lt j hj).1)); clear hw hg hat hn5)
        go_roundw
        case rel => exact ⟨k + 1, A5, c5, rfl, by omega, by omega, HN5.out, HO5.out, HB5.out⟩
        case measure => simp [lenOf]; omega
      · have hki : ¬ (k : Int) < W := by omega
        obtain rfl : k = W := by omega
        go_wp2
        go_ret
        have hol3 : (o ++ List.replicate (k - (p + 1)) bl).length = k := by
          have := HO1.out.1
          rw [rc_length] at this
          omega
        exact ⟨.slice A1 k c1, rfl, ⟨A1, c1, by rw [hol3], ⟨HN1.out, by rw [hol3]; exact own_cap HO1.out⟩, SlD.own HO1.out⟩, HBR.out⟩
  · have e2 : (x.w == 2) = false := by simp [h2]
    have HO' : Hid (o = t) := by have := HO.out; rw [if_neg h2] at this; exact this
    clear h2
    go_enter Tryd.func56, Tryd.ntmps56
    go_upto_region 4 with (at_builtin; (refine wpList_append_sl _ rfl (.tmp 6) (.tmp 12) _ rfl w.heap.size 51 i0 _ 7 48 Tryd.underlying46 HI0.out HZ0.out HZ1.out HZ2.out rfl (by omega) (.slice (some ⟨w.heap.size, 0, none⟩) 0 0) 0 [] rfl HLIT.out w.heap.size _ (p + 1) c (rc t) rfl HSL.out (by rw [rc_length, HTL.out]) (fun e => by cases e) (rc_one _) (by simp only [maxLen]; omega) (by omega) (by simp) ?_); intro v' w2 hw hg hat; rw [Nat.zero_add, List.nil_append] at hw; obtain ⟨g, cap, cur, rfl, hbg, hb2, htk, hlc, hre⟩ := own_blk2 hw (by omega); have HB2 := Lib.hid hb2; have HTK := Lib.hid htk; have HLC := Lib.hid hlc; have HRE := Lib.hid hre; have HBG := Lib.hid hbg; have HOW := Lib.hid hw; have HBE := Lib.hid (((Below.refl w.heap.size w).alloc (Nat.le_refl _) (.cells #[] 51)).grown hg (by simp) (fun j hj => by have : some w.heap.size = some j := hj; injection this with this; omega)); have hcx : w2.cell? ⟨g, p * 7 + 1, none⟩ = some (.int .i64 x.w) := (by rw [hb2.cell, ← List.getElem?_take_of_lt (show p * 7 + 1 < (p + 1) * 7 by omega), htk]; exact rc_get HX.out (j := 1) rfl); clear hw hg hat hb2 htk hlc hre hbg)
    have HST : Hid (w2.ownsRow w.heap.size 51 7 (.slice (some ⟨g, 0, none⟩) (p + 1) cap) (p + 1) (rc (o ++ List.replicate (p + 1 - (p + 1)) bl))) := by
      show World.ownsRow _ _ _ _ _ _ _
      rw [Nat.sub_self, List.replicate_zero, List.append_nil, HO'.out]
      exact HOW.out
    have HBS := HBE
    go_loopw [5] (fun v5 wr => ∃ (k : Nat) (A1 : Option Addr) (c1 : Nat), v5 = .slice A1 k c1 ∧ p + 1 ≤ k ∧ k ≤ W ∧ (A1 = none → c1 = 0) ∧ wr.ownsRow w.heap.size 51 7 (.slice A1 k c1) k (rc (o ++ List.replicate (k - (p + 1)) bl)) ∧ Below w.heap.size w wr) (fun v5 _ => W - lenOf v5)
    case atStart => exact ⟨p + 1, some ⟨g, 0, none⟩, cap, rfl, by omega, hpW, fun e => (by cases e), HST.out, HBS.out⟩
    case round =>
      obtain ⟨k, A1, c1, rfl, hk1, hk2, hn1, ho, hbr⟩ := hrel
      have HO1 := Lib.hid ho
      have HBR := Lib.hid hbr
      have HN1 := Lib.hid hn1
      clear ho hbr hn1 HST HBS hcx
      by_cases hlt : k < W
      · have hki : (k : Int) < W := by omega
        have hws := HBR.out.size
        have e3 : rc (o ++ List.replicate (k - (p + 1)) bl) ++ bl.cells = rc (o ++ List.replicate (k + 1 - (p + 1)) bl) := by
          rw [show k + 1 - (p + 1) = (k - (p + 1)) + 1 by omega, rc_append, rc_append, List.append_assoc, rc_rep_snoc]
        have E3 := Lib.hid e3
        clear e3
        go_wp2_with (at_builtin; (refine wpList_append_sl _ rfl (.tmp 37) (.tmp 39) _ rfl w.heap.size 51 i0 _ 7 48 Tryd.underlying46 HI0.out HZ0.out HZ1.out HZ2.out rfl (by omega) (.slice A1 k c1) k _ rfl (HO1.out.alloc _) (wr.heap.size + 1) (some ⟨wr.heap.size, 0, none⟩) 1 1 bl.cells rfl (Sl.new wr _ _) rfl (fun e => by cases e) bl.one (by simp only [maxLen]; omega) (by omega) (by simp; omega) ?_); intro v' w5 hw hg hat; rw [E3.out] at hw; obtain ⟨A5, c5, rfl, hn5, _⟩ := own_of hw; have HO5 := Lib.hid hw; have HN5 := Lib.hid hn5; have HB5 := Lib.hid ((HBR.out.alloc HBR.out.size _).grown hg (by simp; omega) (fun j hj => (HO1.out.lt j hj).1)); clear hw hg hat hn5)
        go_roundw
        case rel => exact ⟨k + 1, A5, c5, rfl, by omega, by omega, HN5.out, HO5.out, HB5.out⟩
        case measure => simp [lenOf]; omega
      · have hki : ¬ (k : Int) < W := by omega
        obtain rfl : k = W := by omega
        go_wp2
        go_ret
        have hol3 : (o ++ List.replicate (k - (p + 1)) bl).length = k := by
          have := HO1.out.1
          rw [rc_length] at this
          omega
        exact ⟨.slice A1 k c1, rfl, ⟨A1, c1, by rw [hol3], ⟨HN1.out, by rw [hol3]; exact own_cap HO1.out⟩, SlD.own HO1.out⟩, HBR.out⟩
end Go.Proofs.YtijbimofigkdkaaDoor
