/-
  Walk: the law WindowLines.
-/
import Derived.Test.YthkdedoambmfkaaWnAwake
namespace Go.Proofs.Ythkdedoambmfkaa
open Go.RowKit Go.Shelf Go.Sort
set_option linter.unusedVariables false
set_option linter.unusedSimpArgs false
set_option maxRecDepth 100000

theorem clamp_ways (cur : Int) (n : Nat) : (cur < 0 ∧ clampN cur n = 0) ∨ (n < cur ∧ clampN cur n = n) ∨ (cur = clampN cur n ∧ clampN cur n ≤ n) := by unfold clampN; omega
set_option maxHeartbeats 4000000 in
theorem windowLines_walk (cur room fr : Int) (hrm : room ≤ 9223372036854775807) (L0 : List Int) (A : Option Addr) (n0 c : Nat) (w : World) (hn0 : n0 = L0.length) (hnc : n0 ≤ c) (hcm : c ≤ maxLen) (hA : A = none → c = 0) (hS0 : Sl w w.heap.size A (zi L0)) :
    Calls Try.prog 3 #[.int .i64 cur, .int .i64 room, .int .i64 fr, .slice A n0 c] w fun e w' => e = .returned (.bool true) ∧ Below w.heap.size w w' := by
  obtain ⟨n, hnn⟩ : ∃ n, min n0 200 = n := ⟨_, rfl⟩
  obtain ⟨L, hL⟩ : ∃ L, L0.take 200 = L := ⟨_, rfl⟩
  have hn : n = L.length := by rw [← hL, List.length_take]; omega
  have hS : Sl w w.heap.size A (zi L) := by rw [← hL, ← zi_take]; exact hS0.take 200
  have hfew := few_any A n0 c w hnc hcm hA
  rw [hnn] at hfew
  have h4 : n ≤ 200 := by omega
  have hnc2 : n ≤ c := by omega
  have HFEW := Lib.hid hfew
  have hk := clampN_le cur n
  have hw := clamp_ways cur n
  have HL := Lib.hid (wline_any cur room hrm L A n c w hn hnc2 h4 hS)
  have HS := Lib.hid hS
  have HN := Lib.hid hn
  have hB := lnB_le L (clampN cur n) room (by rw [← HN.out]; exact hk)
  rw [← HN.out] at hB
  have hlA := lnA_le L (clampN cur n) room
  have hsh : 2 ≤ room → lnA L (clampN cur n) room ≤ clampN cur n ∧ clampN cur n ≤ lnB L (clampN cur n) room ∧ (clampN cur n < n → clampN cur n < lnB L (clampN cur n) room) := fun h => by
    have h5 := ln_shown L (clampN cur n) room h (by rw [← hn]; exact hk)
    rw [← hn] at h5; exact h5
  have PRL : Hid (∀ W, Below w.heap.size w W → Calls Try.prog 6 #[.int .i64 cur, .int .i64 room, .slice A n c] W fun e w' => e = .returned (.tuple #[.int .i64 (lnA L (clampN cur n) room), .int .i64 (lnB L (clampN cur n) room)]) ∧ W = w') := Lib.hid (fun W hW => rline_win cur room L A n c W HN.out h4 ((HS.out.below hW).more hW.size))
  have PC : Hid (∀ W, Below w.heap.size w W → Calls Try.prog 7 #[.int .i64 cur, .int .i64 fr, .slice A n c] W fun e w' => e = .returned (.int .i64 (colW L (clampN cur n) fr)) ∧ W = w') := Lib.hid (fun W hW => wcolumn_any cur fr L A n c W HN.out hnc2 h4 ((HS.out.below hW).more hW.size))
  have PRC : Hid (∀ W, Below w.heap.size w W → Calls Try.prog 8 #[.int .i64 cur, .int .i64 fr, .slice A n c] W fun e w' => e = .returned (.int .i64 (colW L (clampN cur n) fr)) ∧ W = w') := Lib.hid (fun W hW => rcolumn_any cur fr L A n c W HN.out h4 ((HS.out.below hW).more hW.size))
  have HSH := Lib.hid hsh
  clear hfew hS hS0 hn hsh hn0 hcm hA hnn hL
  generalize lnA L (clampN cur n) room = a at *
  generalize lnB L (clampN cur n) room = b at *
  generalize colW L (clampN cur n) fr = col at *
  generalize clampN cur n = k at *
  obtain ⟨hB1, hB2⟩ := hB
  have hHK : Hid ((cur < 0 ∧ k = 0) ∨ (n < cur ∧ k = n) ∨ (cur = k ∧ k ≤ n)) := Lib.hid hw
  clear hw
  have fin : ∀ (hq : room < 2 ∨ ((a : Int) ≤ k ∧ (k : Int) ≤ b ∧ ((n : Int) ≤ k ∨ (k : Int) < b))), Calls Try.prog 3 #[.int .i64 cur, .int .i64 room, .int .i64 fr, .slice A n0 c] w fun e w' => e = .returned (.bool true) ∧ Below w.heap.size w w' := by
    intro hq
    have HHK := hHK.out
    rcases HHK with ⟨hc, hk0⟩ | ⟨hc, hk0⟩ | ⟨hc, hk0⟩
    · subst hk0
      have hc2 : ¬ (0 : Int) ≤ cur := by omega
      have hc3 : cur ≤ (n : Int) := by omega
      rcases hq with hq | ⟨q1, q2, q3⟩
      · clear HSH hHK
        go_enter Try.func3, Try.ntmps3
        go_wp2_with (first
          | (go_at_call 4; refine HFEW.out.mono ?_; rintro e w' ⟨rfl, rfl⟩)
          | (go_at_call 5; refine HL.out.mono ?_; rintro e w1 ⟨rfl, hb1⟩; have HB1 := Lib.hid hb1; clear hb1)
          | (go_at_call 6; refine (PRL.out _ HB1.out).mono ?_; rintro e w' ⟨rfl, rfl⟩)
          | (go_at_call 7; refine (PC.out _ HB1.out).mono ?_; rintro e w' ⟨rfl, rfl⟩)
          | (go_at_call 8; refine (PRC.out _ HB1.out).mono ?_; rintro e w' ⟨rfl, rfl⟩)
          | (go_at_call 9; refine (wawake_any _).mono ?_; rintro e w5 ⟨rfl, hb5⟩))
        all_goals
          go_ret
          exact ⟨rfl, HB1.out.trans (hb5.mono HB1.out.size)⟩
      · clear HSH hHK
        rcases q3 with q3 | q3
        all_goals
          go_enter Try.func3, Try.ntmps3
          go_wp2_with (first
            | (go_at_call 4; refine HFEW.out.mono ?_; rintro e w' ⟨rfl, rfl⟩)
            | (go_at_call 5; refine HL.out.mono ?_; rintro e w1 ⟨rfl, hb1⟩; have HB1 := Lib.hid hb1; clear hb1)
            | (go_at_call 6; refine (PRL.out _ HB1.out).mono ?_; rintro e w' ⟨rfl, rfl⟩)
            | (go_at_call 7; refine (PC.out _ HB1.out).mono ?_; rintro e w' ⟨rfl, rfl⟩)
            | (go_at_call 8; refine (PRC.out _ HB1.out).mono ?_; rintro e w' ⟨rfl, rfl⟩)
            | (go_at_call 9; refine (wawake_any _).mono ?_; rintro e w5 ⟨rfl, hb5⟩))
          all_goals
            go_ret
            exact ⟨rfl, HB1.out.trans (hb5.mono HB1.out.size)⟩
    · subst hk0
      have hc2 : ¬ cur ≤ (k : Int) := by omega
      rcases hq with hq | ⟨q1, q2, q3⟩
      · clear HSH hHK
        go_enter Try.func3, Try.ntmps3
        go_wp2_with (first
          | (go_at_call 4; refine HFEW.out.mono ?_; rintro e w' ⟨rfl, rfl⟩)
          | (go_at_call 5; refine HL.out.mono ?_; rintro e w1 ⟨rfl, hb1⟩; have HB1 := Lib.hid hb1; clear hb1)
          | (go_at_call 6; refine (PRL.out _ HB1.out).mono ?_; rintro e w' ⟨rfl, rfl⟩)
          | (go_at_call 7; refine (PC.out _ HB1.out).mono ?_; rintro e w' ⟨rfl, rfl⟩)
          | (go_at_call 8; refine (PRC.out _ HB1.out).mono ?_; rintro e w' ⟨rfl, rfl⟩)
          | (go_at_call 9; refine (wawake_any _).mono ?_; rintro e w5 ⟨rfl, hb5⟩))
        all_goals
          go_ret
          exact ⟨rfl, HB1.out.trans (hb5.mono HB1.out.size)⟩
      · clear HSH hHK q3
        go_enter Try.func3, Try.ntmps3
        go_wp2_with (first
          | (go_at_call 4; refine HFEW.out.mono ?_; rintro e w' ⟨rfl, rfl⟩)
          | (go_at_call 5; refine HL.out.mono ?_; rintro e w1 ⟨rfl, hb1⟩; have HB1 := Lib.hid hb1; clear hb1)
          | (go_at_call 6; refine (PRL.out _ HB1.out).mono ?_; rintro e w' ⟨rfl, rfl⟩)
          | (go_at_call 7; refine (PC.out _ HB1.out).mono ?_; rintro e w' ⟨rfl, rfl⟩)
          | (go_at_call 8; refine (PRC.out _ HB1.out).mono ?_; rintro e w' ⟨rfl, rfl⟩)
          | (go_at_call 9; refine (wawake_any _).mono ?_; rintro e w5 ⟨rfl, hb5⟩))
        all_goals
          go_ret
          exact ⟨rfl, HB1.out.trans (hb5.mono HB1.out.size)⟩
    · subst hc
      have hc2 : (k : Int) ≤ n := by omega
      have hc3 : (0 : Int) ≤ k := by omega
      rcases hq with hq | ⟨q1, q2, q3⟩
      · clear HSH hHK
        go_enter Try.func3, Try.ntmps3
        go_wp2_with (first
          | (go_at_call 4; refine HFEW.out.mono ?_; rintro e w' ⟨rfl, rfl⟩)
          | (go_at_call 5; refine HL.out.mono ?_; rintro e w1 ⟨rfl, hb1⟩; have HB1 := Lib.hid hb1; clear hb1)
          | (go_at_call 6; refine (PRL.out _ HB1.out).mono ?_; rintro e w' ⟨rfl, rfl⟩)
          | (go_at_call 7; refine (PC.out _ HB1.out).mono ?_; rintro e w' ⟨rfl, rfl⟩)
          | (go_at_call 8; refine (PRC.out _ HB1.out).mono ?_; rintro e w' ⟨rfl, rfl⟩)
          | (go_at_call 9; refine (wawake_any _).mono ?_; rintro e w5 ⟨rfl, hb5⟩))
        all_goals
          go_ret
          exact ⟨rfl, HB1.out.trans (hb5.mono HB1.out.size)⟩
      · clear HSH hHK
        rcases q3 with q3 | q3
        all_goals
          go_enter Try.func3, Try.ntmps3
          go_wp2_with (first
            | (go_at_call 4; refine HFEW.out.mono ?_; rintro e w' ⟨rfl, rfl⟩)
            | (go_at_call 5; refine HL.out.mono ?_; rintro e w1 ⟨rfl, hb1⟩; have HB1 := Lib.hid hb1; clear hb1)
            | (go_at_call 6; refine (PRL.out _ HB1.out).mono ?_; rintro e w' ⟨rfl, rfl⟩)
            | (go_at_call 7; refine (PC.out _ HB1.out).mono ?_; rintro e w' ⟨rfl, rfl⟩)
            | (go_at_call 8; refine (PRC.out _ HB1.out).mono ?_; rintro e w' ⟨rfl, rfl⟩)
            | (go_at_call 9; refine (wawake_any _).mono ?_; rintro e w5 ⟨rfl, hb5⟩))
          all_goals
            go_ret
            exact ⟨rfl, HB1.out.trans (hb5.mono HB1.out.size)⟩
  refine fin ?_
  by_cases hr : 2 ≤ room
  · obtain ⟨s1, s2, s3⟩ := HSH.out hr
    refine .inr ⟨by omega, by omega, ?_⟩
    by_cases h : k < n
    · exact .inr (by have := s3 h; omega)
    · exact .inl (by omega)
  · exact .inl (by omega)
end Go.Proofs.Ythkdedoambmfkaa
