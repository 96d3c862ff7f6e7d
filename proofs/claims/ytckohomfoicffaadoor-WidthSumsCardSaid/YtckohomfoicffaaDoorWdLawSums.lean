/-
  The law WidthSums, walked.
-/
import Derived.Test.YtckohomfoicffaaDoorWdLaws
namespace Go.Proofs.YtckohomfoicffaaDoor
open Go.RowKit Go.Shelf
set_option linter.unusedVariables false

set_option maxHeartbeats 400000 in
theorem few_any (A : Option Addr) (n cap : Nat) (w : World) (hn : n ≤ cap) (hm : n ≤ 9223372036854775807) :
    Calls Tryd.prog 18 #[.slice A n cap] w fun e w' => e = .returned (.slice A (min n 200) cap) ∧ w = w' := by
  by_cases h : n ≤ 200
  · have e : min n 200 = n := by omega
    rw [e]
    have hi : (n : Int) ≤ 200 := by omega
    go_enter Tryd.func18, Tryd.ntmps18
    go_wp2
    go_ret
    exact ⟨rfl, rfl⟩
  · have e : min n 200 = 200 := by omega
    rw [e]
    have hi : ¬ (n : Int) ≤ 200 := by omega
    have hc : 200 ≤ cap := by omega
    go_enter Tryd.func18, Tryd.ntmps18
    go_wp2
    go_ret
    exact ⟨rfl, rfl⟩

set_option maxRecDepth 100000 in
set_option maxHeartbeats 2000000 in
theorem widthSums_walk (most : Int) (h0 : -9223372036854775808 ≤ most) (h1 : most ≤ 9223372036854775807) (A : Option Addr) (n cap : Nat) (l : List Int) (w : World) (hn : n = l.length) (hc : n ≤ cap) (hcm : cap ≤ maxLen) (hS : Sl w w.heap.size A (iv l)) (hT : Tabs w) :
    Calls Tryd.prog 5 #[.int .i64 most, .slice A n cap] w fun e w' => e = .returned (.bool true) ∧ Below w.heap.size w w' := by
  unfold maxLen at hcm
  have hk : ∃ k : List Int, k.length = min n 200 ∧ Sl w w.heap.size A (iv k) := ⟨l.take 200, by simp; omega, by rw [← iv_take]; exact hS.take 200⟩
  obtain ⟨xs, hkl, hSk⟩ := hk
  have hk4 : xs.length ≤ 200 := by omega
  have hkc : xs.length ≤ cap := by omega
  have HK := Lib.hid hkl
  have HS := Lib.hid hSk
  have H := Lib.hid hT
  have hcn : n ≤ 9223372036854775807 := by omega
  clear hS hSk hkl hn hT
  have hNl := fitN_le most xs 0
  have hsp := fitN_spec most xs 0
  have hng := fitN_neg most xs
  have HNL := Lib.hid hNl
  have HSP := Lib.hid hsp
  have HNG := Lib.hid hng
  clear hNl hsp hng
  have hfit : ∀ w', Below w.heap.size w w' → Calls Tryd.prog 19 #[.int .i64 most, .slice A xs.length cap] w' fun e w'' => e = .returned (.tuple #[.int .i64 (fitN most xs 0), .int .i64 (sumW (xs.take (fitN most xs 0)))]) ∧ Below w'.heap.size w' w'' :=
    fun w' hb => fit_any most h0 h1 A cap xs w.heap.size w' (by omega) (HS.out.below hb) hb.size (H.out.below hb)
  have hrfit : ∀ w', Below w.heap.size w w' → Calls Tryd.prog 20 #[.int .i64 most, .slice A xs.length cap] w' fun e w'' => e = .returned (.tuple #[.int .i64 (fitN most xs 0), .int .i64 (sumW (xs.take (fitN most xs 0)))]) ∧ Below w'.heap.size w' w'' :=
    fun w' hb => rfit_any most h0 h1 A cap xs w.heap.size w' (by omega) (HS.out.below hb) hb.size
  have hsum : ∀ w', Below w.heap.size w w' → Calls Tryd.prog 21 #[.slice A xs.length cap] w' fun e w'' => e = .returned (.int .i64 (sumW xs)) ∧ Below w'.heap.size w' w'' :=
    fun w' hb => sum_any A cap xs w.heap.size w' (by omega) (HS.out.below hb) hb.size (H.out.below hb)
  have hrsum : ∀ w', Below w.heap.size w w' → Calls Tryd.prog 22 #[.slice A xs.length cap] w' fun e w'' => e = .returned (.int .i64 (sumW xs)) ∧ Below w'.heap.size w' w'' :=
    fun w' hb => rsum_any A cap xs w.heap.size w' (by omega) (HS.out.below hb) hb.size
  have hsumN : ∀ (m : Nat), m ≤ xs.length → ∀ w', Below w.heap.size w w' → Calls Tryd.prog 21 #[.slice A m cap] w' fun e w'' => e = .returned (.int .i64 (sumW (xs.take m))) ∧ Below w'.heap.size w' w'' := by
    intro m hm w' hb
    have hl : (xs.take m).length = m := by simp; omega
    have := sum_any A cap (xs.take m) w.heap.size w' (by simp; omega) (by rw [← iv_take]; exact (HS.out.take m).below hb) hb.size (H.out.below hb)
    rw [hl] at this
    exact this
  have hbd := sumW_bd (xs.take (fitN most xs 0))
  generalize sumW xs = sa at hsum hrsum
  generalize hN : fitN most xs 0 = N at hfit hrfit hbd
  generalize hc' : sumW (xs.take N) = c at hfit hrfit hbd
  have HN := Lib.hid hN
  have HC := Lib.hid hc'
  have hNx : N ≤ xs.length := by rw [← hN]; exact HNL.out
  have hN2 : N ≤ 200 := by omega
  have HF := Lib.hid hfit
  have HRF := Lib.hid hrfit
  have HSU := Lib.hid hsum
  have HRS := Lib.hid hrsum
  have HSN := Lib.hid hsumN
  clear hfit hrfit hsum hrsum hsumN hN hc'
  have hca : N ≤ cap := by omega
  go_enter Tryd.func5, Tryd.ntmps5
  go_wp2_with (fail)
  refine (few_any A n cap w hc hcn).mono ?_
  rintro e w' ⟨rfl, rfl⟩
  rw [← HK.out]
  go_wp2_with (fail)
  refine (HF.out w (Below.refl _ _)).mono ?_
  rintro e w1 ⟨rfl, b1⟩
  go_wp2_with (fail)
  refine (HRF.out w1 b1).mono ?_
  rintro e w2 ⟨rfl, hb2⟩
  have b2 := b1.trans (hb2.mono b1.size)
  clear hb2
  go_wp2_with (fail)
  refine (HSU.out w2 b2).mono ?_
  rintro e w3 ⟨rfl, hb3⟩
  have b3 := b2.trans (hb3.mono b2.size)
  clear hb3
  go_wp2_with (fail)
  refine (HRS.out w3 b3).mono ?_
  rintro e w4 ⟨rfl, hb4⟩
  have b4 := b3.trans (hb4.mono b3.size)
  clear hb4
  go_wp2_with (fail)
  refine (awake_any w4 (H.out.below b4)).mono ?_
  rintro e w5 ⟨rfl, hb5⟩
  have b5 := b4.trans (hb5.mono b4.size)
  clear hb5
  by_cases hneg : most < 0
  · obtain rfl : N = 0 := HN.out.symm.trans (HNG.out hneg)
    obtain rfl : c = 0 := HC.out.symm
    go_wp2
    go_ret
    exact ⟨rfl, b5⟩
  · have hle : c ≤ most := by
      have := (HSP.out (by omega)).1
      rw [HN.out, HC.out] at this
      omega
    go_wp2_with (fail)
    refine (HSN.out N hNx w5 b5).mono ?_
    rintro e w6 ⟨rfl, hb6⟩
    have b6 := b5.trans (hb6.mono b5.size)
    clear hb6
    rw [HC.out]
    by_cases hlast : N = xs.length
    · have hq : ((N : Int) == (xs.length : Int)) = true := by rw [hlast]; exact beq_self_eq_true _
      have hq' : (N == xs.length) = true := by rw [hlast]; exact beq_self_eq_true _
      have HL := Lib.hid hlast
      clear hlast
      go_wp2
      go_ret
      exact ⟨rfl, b6⟩
    · have hq : ((N : Int) == (xs.length : Int)) = false := by rw [beq_eq_false_iff_ne]; omega
      have hN1 : N + 1 ≤ xs.length := by omega
      have hN1c : N + 1 ≤ cap := by omega
      have hgt : most < sumW (xs.take (N + 1)) := by
        have := (HSP.out (by omega)).2 (by rw [HN.out]; omega)
        rw [HN.out] at this
        omega
      have HG := Lib.hid hgt
      clear hgt hlast
      go_wp2_with (fail)
      refine (HSN.out (N + 1) hN1 w6 b6).mono ?_
      rintro e w7 ⟨rfl, hb7⟩
      have b7 := b6.trans (hb7.mono b6.size)
      have hgt := HG.out
      go_wp2
      go_ret
      exact ⟨rfl, b7⟩
end Go.Proofs.YtckohomfoicffaaDoor
