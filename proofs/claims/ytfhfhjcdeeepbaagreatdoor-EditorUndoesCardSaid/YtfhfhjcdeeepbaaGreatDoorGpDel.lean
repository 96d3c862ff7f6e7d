/-
  Walks: Delete, Replace.
-/
import Derived.Test.YtfhfhjcdeeepbaaGreatDoorGpSwal
namespace Go.Proofs.YtfhfhjcdeeepbaaGreatDoor
open Go.RowKit Go.Sort
set_option linter.unusedVariables false
set_option linter.unusedSimpArgs false

/-- where the cursor is behind a deletion -/
def delC (f a b : Nat) : Nat := if f ≤ a then f else max a (f - (b - a))
theorem delC_le {f a b L : Nat} (hf : f ≤ L) (hb : b ≤ L) (h : a < b) : delC f a b ≤ L - (b - a) := by
  unfold delC; split <;> omega
/-- what Delete leaves where it deletes -/
def DelP (w : World) (lo g : Nat) (A : Option Addr) (n C most : Nat) (f a b : Nat) (l : List (List UInt8)) (e : Ending) (w' : World) : Prop :=
  ∃ g2 tl f' t', e = .returned (.slice (some ⟨g2, 0, none⟩) (b - a) (b - a)) ∧ w.heap.size ≤ g2 ∧ Blk w' g2 9 (sv ((l.drop a).take (b - a)) ++ tl) ∧
    GpAt w' lo g A n C most f' t' ((l.take a ++ l.drop b).take (delC f a b)) ((l.take a ++ l.drop b).drop (delC f a b)) ∧ Chg (GpOwn g A) w w'

set_option maxRecDepth 100000 in
set_option maxHeartbeats 4000000 in
theorem gdelete_yes {w : World} {lo g n C most f t : Nat} {A : Option Addr} {p s : List (List UInt8)} (h : GpAt w lo g A n C most f t p s) (x y : Int) (hlt : clampN x (ln p s) < clampN y (ln p s)) :
    Calls Tryz.prog 99 #[.pointer (some ⟨g, 0, none⟩), .int .i64 x, .int .i64 y] w (DelP w lo g A n C most f (clampN x (ln p s)) (clampN y (ln p s)) (p ++ s)) := by
  have h0 := h.c0
  have H := Lib.hid h
  have hy := clampN_le y (ln p s)
  have hL : ln p s ≤ 4096 := by have := h.ln_le; have := h.m4; omega
  have hfL : f ≤ ln p s := by have := h.lnf; omega
  have q1 := fun (w1 : World) (h1 : GpAt w1 lo g A n C most f t p s) => gclamp_any h1 x
  have q2 := fun (w1 : World) (h1 : GpAt w1 lo g A n C most f t p s) => gclamp_any h1 y
  have hll : (p ++ s).length = ln p s := (ln_eq p s).symm
  generalize clampN x (ln p s) = a at *
  generalize clampN y (ln p s) = b at *
  obtain ⟨k, hk⟩ : ∃ k, k = b - a := ⟨_, rfl⟩
  have hbi : (b : Int) - (a : Int) = (k : Int) := by omega
  have hdr : ((p ++ s).drop a).drop k = (p ++ s).drop b := by rw [List.drop_drop]; congr 1; omega
  have hkl : k ≤ ((p ++ s).drop a).length := by rw [List.length_drop, hll]; omega
  have hcl : delC f a b ≤ ln ((p ++ s).take a) ((p ++ s).drop b) := by
    have := delC_le hfL hy hlt
    rw [ln_eq, List.length_append, List.length_take, List.length_drop, hll]
    omega
  have hdc : delC f a b = if f ≤ a then f else max a (f - k) := by unfold delC; rw [hk]
  have hbl : ¬ ((b : Int) ≤ a) := by omega
  have hk1 : 1 ≤ k := by omega
  unfold DelP
  rw [← hk]
  generalize hDC : delC f a b = c at *
  have Q1 := Lib.hid q1
  have Q2 := Lib.hid q2
  have HBI := Lib.hid hbi
  have HDR := Lib.hid hdr
  have HLL := Lib.hid hll
  have hai : (a : Int) ≤ 4096 := by omega
  have hbb : (b : Int) ≤ 4096 := by omega
  have hki : (k : Int) ≤ 4096 := by omega
  have hfi : (f : Int) ≤ 4096 := by omega
  have haL : a ≤ ln p s := by omega
  have fin : ∀ (w2 w3 w4 : World) (tl : List Value) (g2 : Nat) (f' t' : Nat), Hid (Chg (GpOwn g A) w w2) → Hid (Chg (GpOwn g A) w2 w3) → w2.heap.size ≤ g2 → Hid (Blk w3 g2 9 (sv (((p ++ s).drop a).take k) ++ tl)) → Hid (Chg (GpOwn g A) w3 w4) →
      Hid (GpAt w4 lo g A n C most f' t' (((p ++ s).take a ++ (p ++ s).drop b).take c) (((p ++ s).take a ++ (p ++ s).drop b).drop c)) →
      ∃ g2' tl f' t', Ending.returned (Value.slice (some ⟨g2, 0, none⟩) k k) = .returned (.slice (some ⟨g2', 0, none⟩) k k) ∧ w.heap.size ≤ g2' ∧ Blk w4 g2' 9 (sv (((p ++ s).drop a).take k) ++ tl) ∧
        GpAt w4 lo g A n C most f' t' (((p ++ s).take a ++ (p ++ s).drop b).take c) (((p ++ s).take a ++ (p ++ s).drop b).drop c) ∧ Chg (GpOwn g A) w w4 := fun w2 w3 w4 tl g2 f' t' h1 h2 hle hb h3 hg =>
    ⟨g2, tl, f', t', rfl, Nat.le_trans h1.out.size hle, hb.out.chg h3.out (fun e => by have := (H.out.own_lt g2 e).2; have := h1.out.size; omega), hg.out, (h1.out.trans h2.out (fun _ h => .inl h)).trans h3.out (fun _ h => .inl h)⟩
  have FIN := Lib.hid fin
  have HCL := Lib.hid hcl
  have HKL := Lib.hid hkl
  clear fin hcl hkl hk hdr hbi hll q1 q2 h hDC
  by_cases hfa : f ≤ a
  · have hc : c = f := by rw [hdc, if_pos hfa]
    subst hc
    have hfai : ¬ ((c : Int) > a) := by omega
    clear hdc
    go_enter Tryz.func99, Tryz.ntmps99
    go_wp2_with (fail)
    refine (gmade_yes g w h0).mono ?_
    rintro e w' ⟨rfl, rfl⟩
    go_wp2_with (fail)
    refine (Q1.out _ H.out).mono ?_
    rintro e w1 ⟨rfl, hb1⟩
    have H1 := Lib.hid (H.out.below hb1)
    go_wp2_with (fail)
    refine (Q2.out _ H1.out).mono ?_
    rintro e w2 ⟨rfl, hb2⟩
    have H2 := Lib.hid (H1.out.below hb2)
    have HB2 := Lib.hid (hb1.trans (hb2.mono hb1.size))
    clear hb1 hb2
    go_wp2_with (go_at_call 26; refine (gcursor_any H2.out).mono ?_; rintro e w3 ⟨rfl, hb3⟩)
    have H3 := Lib.hid (H2.out.below hb3)
    have HB3 := Lib.hid (HB2.out.trans (hb3.mono HB2.out.size))
    clear hb3
    refine (open_any H3.out a haL).mono ?_
    rintro e w4 ⟨rfl, hg4, hc4⟩
    have H4 := Lib.hid hg4
    have HC4 := Lib.hid ((Chg.of_below (S := GpOwn g A) HB3.out).trans hc4 (fun _ h => .inl h))
    clear hg4 hc4
    go_wp2_with (fail)
    rw [HBI.out]
    refine (swallow_any H4.out k hk1 HKL.out).mono ?_
    rintro e w5 ⟨g2, tl, rfl, hle, hbk, hg5, hc5⟩
    rw [HDR.out] at hg5
    have H5 := Lib.hid hg5
    have HC5 := Lib.hid hc5
    have HBK := Lib.hid hbk
    clear hg5 hc5 hbk
    go_wp2_with (fail)
    refine (open_any H5.out c HCL.out).mono ?_
    rintro e w6 ⟨rfl, hg6, hc6⟩
    have H6 := Lib.hid hg6
    have HC6 := Lib.hid hc6
    clear hg6 hc6
    go_wp2_with (fail)
    go_ret
    exact FIN.out w4 w5 w6 tl g2 _ _ HC4 HC5 hle HBK HC6 H6
  · have hfai : ((f : Int) > a) := by omega
    rw [if_neg hfa] at hdc
    · have hc : (if (a : Int) < (f : Int) - k then (f : Int) - k else (a : Int)) = (c : Int) := by rw [hdc]; split <;> omega
      have HCI := Lib.hid hc
      clear hc
      clear hdc
      go_enter Tryz.func99, Tryz.ntmps99
      go_wp2_with (fail)
      refine (gmade_yes g w h0).mono ?_
      rintro e w' ⟨rfl, rfl⟩
      go_wp2_with (fail)
      refine (Q1.out _ H.out).mono ?_
      rintro e w1 ⟨rfl, hb1⟩
      have H1 := Lib.hid (H.out.below hb1)
      go_wp2_with (fail)
      refine (Q2.out _ H1.out).mono ?_
      rintro e w2 ⟨rfl, hb2⟩
      have H2 := Lib.hid (H1.out.below hb2)
      have HB2 := Lib.hid (hb1.trans (hb2.mono hb1.size))
      clear hb1 hb2
      go_wp2_with (go_at_call 26; refine (gcursor_any H2.out).mono ?_; rintro e w3 ⟨rfl, hb3⟩)
      have H3 := Lib.hid (H2.out.below hb3)
      have HB3 := Lib.hid (HB2.out.trans (hb3.mono HB2.out.size))
      clear hb3
      refine (open_any H3.out a haL).mono ?_
      rintro e w4 ⟨rfl, hg4, hc4⟩
      have H4 := Lib.hid hg4
      have HC4 := Lib.hid ((Chg.of_below (S := GpOwn g A) HB3.out).trans hc4 (fun _ h => .inl h))
      clear hg4 hc4
      go_wp2_with (fail)
      rw [HBI.out]
      refine (swallow_any H4.out k hk1 HKL.out).mono ?_
      rintro e w5 ⟨g2, tl, rfl, hle, hbk, hg5, hc5⟩
      rw [HDR.out] at hg5
      have H5 := Lib.hid hg5
      have HC5 := Lib.hid hc5
      have HBK := Lib.hid hbk
      clear hg5 hc5 hbk
      go_wp2_with (fail)
      case' inl => have e : (f : Int) - k = (c : Int) := (by have := HCI.out; split at this <;> omega); rw [e]; clear e
      case' inr => have e : (a : Int) = (c : Int) := (by have := HCI.out; split at this <;> omega); rw [show Value.int IntKind.i64 (a : Int) = .int .i64 (c : Int) by rw [e]]; clear e
      all_goals
        refine (open_any H5.out c HCL.out).mono ?_
        rintro e w6 ⟨rfl, hg6, hc6⟩
        have H6 := Lib.hid hg6
        have HC6 := Lib.hid hc6
        clear hg6 hc6
        go_wp2_with (fail)
        go_ret
        exact FIN.out w4 w5 w6 tl g2 _ _ HC4 HC5 hle HBK HC6 H6
end Go.Proofs.YtfhfhjcdeeepbaaGreatDoor
