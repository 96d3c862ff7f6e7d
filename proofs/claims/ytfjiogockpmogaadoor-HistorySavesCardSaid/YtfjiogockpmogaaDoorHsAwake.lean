/-
  Walk: the law's own check (awake).
-/
import Derived.Test.YtfjiogockpmogaaDoorHsNob
namespace Go.Proofs.YtfjiogockpmogaaDoor
open Go.RowKit
set_option linter.unusedVariables false
set_option linter.unusedSimpArgs false

theorem tlo_of {w : World} (hT : Tabs w) : TLo w.heap.size := ⟨hT.mg, hT.wg⟩
/-- what a history's call leaves of what was there when it was made -/
theorem below_of_chg {w w1 w2 : World} {h : Nat} (hb : Below w.heap.size w w1) (hh : w.heap.size ≤ h) (hc : Chg (one h) w1 w2) : Below w.heap.size w w2 :=
  hb.trans (hc.below hb.size (fun j hj => by unfold one at hj; omega))
theorem hadd_lit {w0 w : World} {h c most : Nat} {A : Option Addr} {L : List (List UInt8)} {K : Option HW} (q : HsAt w w0.heap.size h A c most L K) (hb : Below w0.heap.size w0 w) (hT : Tabs w0) (s : ByteArray) (hs : s.size ≤ 1000) (l : List UInt8) (hl : flatB s.data.toList = l) (hy : addB l L = true) :
    Calls Tryd.prog 23 #[.pointer (some ⟨h, 0, none⟩), .string s] w fun e w' => ∃ A' c', e = .returned (.bool true) ∧ HsAt w' w0.heap.size h A' c' most (addL most l L) none ∧ Below w0.heap.size w0 w' := by
  refine (hadd_yes q s hs (hT.below hb) (tlo_of hT) (by rw [hl]; exact hy)).mono ?_
  rintro e w' ⟨A', c', rfl, hq, hc⟩
  exact ⟨A', c', rfl, by rw [← hl]; exact hq, below_of_chg hb q.lo hc⟩

set_option maxRecDepth 100000 in
set_option maxHeartbeats 8000000 in
theorem hawake_any (w : World) (hT : Tabs w) :
    Calls Tryd.prog 8 #[] w fun e w' => e = .returned (.bool true) ∧ Below w.heap.size w w' := by
  have HT := Lib.hid hT
  have HF1 : Hid (flatB (⟨#[108, 115]⟩ : ByteArray).data.toList = [108, 115]) := Lib.hid (by decide +kernel)
  have HF2 : Hid (flatB (⟨#[99, 97, 116, 32, 120]⟩ : ByteArray).data.toList = [99, 97, 116, 32, 120]) := Lib.hid (by decide +kernel)
  have HF3 : Hid (flatB (⟨#[99, 100]⟩ : ByteArray).data.toList = [99, 100]) := Lib.hid (by decide +kernel)
  clear hT
  go_enter Tryd.func8, Tryd.ntmps8
  go_wp2_with (fail)
  refine (hnew_ok 5 (by omega) (by omega) w).mono ?_
  rintro e w1 ⟨h, rfl, hq1, hb1⟩
  have Q1 := Lib.hid hq1
  have HB1 := Lib.hid hb1
  clear hq1 hb1
  go_wp2_with (fail)
  refine (hadd_lit Q1.out HB1.out HT.out _ (by decide) _ HF1.out (by decide)).mono ?_
  rintro e w2 ⟨A2, c2, rfl, hq2, hb2⟩
  have Q2 : Hid (HsAt w2 w.heap.size h A2 c2 5 [[108, 115]] none) := Lib.hid hq2
  have HB2 := Lib.hid hb2
  clear hq2 hb2
  go_wp2_with (fail)
  refine (hadd_lit Q2.out HB2.out HT.out _ (by decide) _ HF2.out (by decide)).mono ?_
  rintro e w3 ⟨A3, c3, rfl, hq3, hb3⟩
  have Q3 : Hid (HsAt w3 w.heap.size h A3 c3 5 [[99, 97, 116, 32, 120], [108, 115]] none) := Lib.hid hq3
  have HB3 := Lib.hid hb3
  clear hq3 hb3
  go_wp2_with (fail)
  refine (hadd_lit Q3.out HB3.out HT.out _ (by decide) _ HF3.out (by decide)).mono ?_
  rintro e w4 ⟨A4, c4, rfl, hq4, hb4⟩
  have Q4 : Hid (HsAt w4 w.heap.size h A4 c4 5 [[99, 100], [99, 97, 116, 32, 120], [108, 115]] none) := Lib.hid hq4
  have HB4 := Lib.hid hb4
  clear hq4 hb4
  go_wp2_with (fail)
  refine (holder_any Q4.out [100, 114] [99] (by decide) (by decide) HB4.out.size).mono ?_
  rintro e w5 (⟨hn, _⟩ | ⟨i, l, xd, xb, hn, rfl, hq5, hc5, _⟩)
  · exact absurd (show nextW [100, 114] [99] [[99, 100], [99, 97, 116, 32, 120], [108, 115]] 0 = none from hn) (by decide)
  have hn' : some (0, [99, 100]) = some (i, l) := hn
  injection hn' with hn'
  injection hn' with hi hl
  subst hi hl
  have Q5 : Hid (HsAt w5 w.heap.size h A4 c4 5 [[99, 100], [99, 97, 116, 32, 120], [108, 115]] (some ⟨[100, 114], [99], 0, xd, xb⟩)) := Lib.hid hq5
  have HB5 := Lib.hid (below_of_chg HB4.out Q4.out.lo hc5)
  clear hq5 hc5 hn
  go_wp2_with (fail)
  refine (holder_any Q5.out [] [] (by decide) (by decide) HB5.out.size).mono ?_
  rintro e w6 (⟨hn, _⟩ | ⟨i, l, xd2, xb2, hn, rfl, hq6, hc6, _⟩)
  · exact absurd (show nextW [100, 114] [99] [[99, 100], [99, 97, 116, 32, 120], [108, 115]] 1 = none from hn) (by decide)
  have hn' : some (1, [99, 97, 116, 32, 120]) = some (i, l) := hn
  injection hn' with hn'
  injection hn' with hi hl
  subst hi hl
  have Q6 : Hid (HsAt w6 w.heap.size h A4 c4 5 [[99, 100], [99, 97, 116, 32, 120], [108, 115]] (some ⟨[100, 114], [99], 1, xd2, xb2⟩)) := Lib.hid hq6
  have HB6 := Lib.hid (below_of_chg HB5.out Q5.out.lo hc6)
  clear hq6 hc6 hn
  go_wp2_with (fail)
  refine (holder_any Q6.out [] [] (by decide) (by decide) HB6.out.size).mono ?_
  rintro e w7 (⟨hn, rfl, hq7, hc7⟩ | ⟨i, l, xd3, xb3, hn, _⟩)
  rotate_left
  · exact absurd (show none = some (i, l) from hn) (by simp)
  have Q7 : Hid (HsAt w7 w.heap.size h A4 c4 5 [[99, 100], [99, 97, 116, 32, 120], [108, 115]] (some ⟨[100, 114], [99], 1, xd2, xb2⟩)) := Lib.hid hq7
  have HB7 := Lib.hid (below_of_chg HB6.out Q6.out.lo hc7)
  clear hq7 hc7 hn
  go_wp2_with (fail)
  refine (hnewer_some Q7.out HB7.out.size).mono ?_
  rintro e w8 (⟨hn, _⟩ | ⟨i, l, hn, rfl, hq8, hc8⟩)
  · exact absurd (show prevW [100, 114] [99] [[99, 100], [99, 97, 116, 32, 120], [108, 115]] 1 = none from hn) (by decide)
  have hn' : some (0, [99, 100]) = some (i, l) := hn
  injection hn' with hn'
  injection hn' with hi hl
  subst hi hl
  have Q8 : Hid (HsAt w8 w.heap.size h A4 c4 5 [[99, 100], [99, 97, 116, 32, 120], [108, 115]] (some ⟨[100, 114], [99], 0, xd2, xb2⟩)) := Lib.hid hq8
  have HB8 := Lib.hid (below_of_chg HB7.out Q7.out.lo hc8)
  clear hq8 hc8 hn
  go_wp2_with (fail)
  refine (hnewer_some Q8.out HB8.out.size).mono ?_
  rintro e w9 (⟨hn, rfl, hq9, hc9⟩ | ⟨i, l, hn, _⟩)
  rotate_left
  · exact absurd (show none = some (i, l) from hn) (by simp)
  have Q9 := Lib.hid hq9
  have HB9 := Lib.hid (below_of_chg HB8.out Q8.out.lo hc9)
  clear hq9 hc9 hn
  go_wp2_with (first
    | (go_at_call 12; refine (hlen_any Q9.out).mono ?_; rintro e w' ⟨rfl, rfl⟩)
    | (go_at_call 21; refine (hsave_any Q9.out).mono ?_; rintro e w10 ⟨rfl, hb10⟩))
  go_ret
  exact ⟨rfl, HB9.out.trans (hb10.mono HB9.out.size)⟩
end Go.Proofs.YtfjiogockpmogaaDoor
