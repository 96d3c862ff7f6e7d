/-
  Walks: the document's Line and Column; the program's Column.
-/
import Derived.Test.YthkdedoambmfkaaWnFns
namespace Go.Proofs.Ythkdedoambmfkaa
open Go.RowKit
set_option linter.unusedVariables false
set_option linter.unusedSimpArgs false
set_option maxRecDepth 100000

set_option maxHeartbeats 4000000 in
theorem rline_win (cur room : Int) (L : List Int) (A : Option Addr) (n c : Nat) (w : World) (hn : n = L.length) (h4 : n ≤ 200) (hS : Sl w w.heap.size A (zi L)) :
    Calls Try.prog 6 #[.int .i64 cur, .int .i64 room, .slice A n c] w fun e w' => e = .returned (.tuple #[.int .i64 (lnA L (clampN cur n) room), .int .i64 (lnB L (clampN cur n) room)]) ∧ w = w' := by
  have hk := clampN_le cur n
  generalize hkk : clampN cur n = k at *
  have HKK := Lib.hid hkk
  have hrat := rat_any cur A n c w
  rw [hkk] at hrat
  have HRAT := Lib.hid hrat
  clear hrat hkk
  have HS := Lib.hid hS
  have HN := Lib.hid hn
  by_cases hr : room < 1
  · have ea : lnA L k room = k := by unfold lnA; rw [if_pos hr]
    have eb : lnB L k room = k := by unfold lnB; rw [if_pos hr]
    rw [ea, eb]
    clear ea eb hS hn
    go_enter Try.func6, Try.ntmps6
    go_wp2_with (refine HRAT.out.mono ?_; rintro e w' ⟨rfl, rfl⟩)
    go_ret2
    exact ⟨rfl, rfl⟩
  · have hr1 : 1 ≤ room := by omega
    have hkL : k ≤ L.length := by omega
    have htk := tkW_bd L k
    have hA := lnA_le L k room
    have hB := lnB_le L k room hkL
    obtain ⟨a, ha⟩ : ∃ a, lnA L k room = a := ⟨_, rfl⟩
    obtain ⟨b, hb⟩ : ∃ b, lnB L k room = b := ⟨_, rfl⟩
    have hIA := lnA_iff L k room hr1 hkL
    have hIB := lnB_iff L k room hr1 hkL
    rw [ha] at hA hB hIA hIB
    rw [hb] at hB hIB
    rw [ha, hb]
    have HIA := Lib.hid hIA
    have HIB := Lib.hid hIB
    obtain ⟨t, ht⟩ : ∃ t, tkW L k = t := ⟨_, rfl⟩
    rw [ht] at HIA htk
    have hrt := rtakes_any k L A n c w hn hk hS
    rw [ht] at hrt
    have HRT := Lib.hid hrt
    clear hrt ht ha hb hIA hIB hS hn
    go_enter Try.func6, Try.ntmps6
    go_wp2_with (refine HRAT.out.mono ?_; rintro e w' ⟨rfl, rfl⟩)
    go_loop [9] (fun v => ∃ f : Nat, f ≤ a ∧ v = .int .i64 f) (fun v => a - (intOf v).toNat)
    case atStart => exact ⟨0, by omega, rfl⟩
    case round =>
      obtain ⟨f, hf, rfl⟩ := hrel
      have hbd := smR_bd L f k
      rw [← HN.out] at hbd
      obtain ⟨s, hs⟩ : ∃ s, smR L f k = s := ⟨_, rfl⟩
      have hi := HIA.out f hf
      rw [hs] at hi hbd
      have hsum := fun (h : f ≤ k) => rsum_any f k L A n c w HN.out (by omega) h hk HS.out
      rw [hs] at hsum
      have HSUM := Lib.hid (hsum (by omega))
      have HI := Lib.hid hi
      clear hsum hs hi
      by_cases hfa : f < a
      · have h1 : (f : Int) < k := by omega
        have h2 : room < s + t := by have := (HI.out.2 hfa).2; omega
        go_wp2_with (first
          | (go_at_call 16; refine HSUM.out.mono ?_; rintro e w' ⟨rfl, rfl⟩)
          | (go_at_call 17; refine HRT.out.mono ?_; rintro e w' ⟨rfl, rfl⟩))
        go_round
        case rel => exact ⟨f + 1, by omega, by go_num⟩
        case measure => simp [intOf]; omega
      · have e : f = a := by omega
        subst e
        have h0 : ¬ (f < k ∧ s + t > room) := fun h => by have := HI.out.1 h; omega
        have HH0 := Lib.hid h0
        clear h0 hfa
        by_cases h1 : (f : Int) < k
        all_goals
          (first
            | (have h2 : ¬ room < s + t := fun h => HH0.out ⟨by omega, h⟩
               go_wp2_with (first
                 | (go_at_call 16; refine HSUM.out.mono ?_; rintro e w' ⟨rfl, rfl⟩)
                 | (go_at_call 17; refine HRT.out.mono ?_; rintro e w' ⟨rfl, rfl⟩)))
            | go_wp2_with (fail))
        all_goals
          clear HSUM HI HH0
          go_loop [10] (fun v => ∃ g : Nat, f ≤ g ∧ g ≤ b ∧ v = .int .i64 g) (fun v => b - (intOf v).toNat)
          case atStart => exact ⟨f, Nat.le_refl _, by omega, rfl⟩
          case round =>
            obtain ⟨g, hg1, hg2, rfl⟩ := hrel
            have hbd2 := smR_bd L f (g + 1)
            rw [← HN.out] at hbd2
            obtain ⟨s2, hs2⟩ : ∃ s2, smR L f (g + 1) = s2 := ⟨_, rfl⟩
            have hi2 := HIB.out g hg1 hg2
            rw [hs2] at hi2 hbd2
            have hsum2 := fun (h : g + 1 ≤ n) => rsum_any f (g + 1) L A n c w HN.out (by omega) (by omega) h HS.out
            rw [hs2] at hsum2
            have HI2 := Lib.hid hi2
            have HSUM2 := Lib.hid hsum2
            have hNL := HN.out
            by_cases hgb : g < b
            · have h3 : (g : Int) < n := by omega
              have h4' : s2 ≤ room := (HI2.out.2 hgb).2
              have HS3 := Lib.hid (HSUM2.out (by omega))
              have hcast : ((g + 1 : Nat) : Int) = (g : Int) + 1 := by omega
              rw [hcast] at HS3
              clear hsum2 hs2 hi2 hNL hcast HSUM2
              go_wp2_with (refine HS3.out.mono ?_; rintro e w' ⟨rfl, rfl⟩)
              go_round
              case rel => exact ⟨g + 1, by omega, by omega, by go_num⟩
              case measure => simp [intOf]; omega
            · have e : g = b := by omega
              subst e
              by_cases h3 : (g : Int) < n
              · have h4' : ¬ s2 ≤ room := fun h => by have := HI2.out.1 ⟨by omega, h⟩; omega
                have HS3 := Lib.hid (HSUM2.out (by omega))
                have hcast : ((g + 1 : Nat) : Int) = (g : Int) + 1 := by omega
                rw [hcast] at HS3
                clear hsum2 hs2 hi2 hNL hcast HSUM2
                go_wp2_with (refine HS3.out.mono ?_; rintro e w' ⟨rfl, rfl⟩)
                go_ret2
                exact ⟨rfl, rfl⟩
              · clear hsum2 hs2 hi2 hNL HSUM2
                go_wp2_with (fail)
                go_ret2
                exact ⟨rfl, rfl⟩
/-- what Column answers -/
def colW (L : List Int) (c : Nat) (from_ : Int) : Int := if from_ < 0 ∨ from_ > c then 0 else smR L from_.toNat c
set_option maxHeartbeats 2000000 in
theorem rcolumn_any (cur fr : Int) (L : List Int) (A : Option Addr) (n c : Nat) (w : World) (hn : n = L.length) (h4 : n ≤ 200) (hS : Sl w w.heap.size A (zi L)) :
    Calls Try.prog 8 #[.int .i64 cur, .int .i64 fr, .slice A n c] w fun e w' => e = .returned (.int .i64 (colW L (clampN cur n) fr)) ∧ w = w' := by
  have hk := clampN_le cur n
  generalize hkk : clampN cur n = k at *
  have hrat := rat_any cur A n c w
  rw [hkk] at hrat
  have HRAT := Lib.hid hrat
  clear hrat hkk
  by_cases h : fr < 0 ∨ fr > k
  · have e : colW L k fr = 0 := by unfold colW; rw [if_pos h]
    rw [e]
    clear e hS hn
    by_cases h1 : fr < 0
    · go_enter Try.func8, Try.ntmps8
      go_wp2_with (refine HRAT.out.mono ?_; rintro e w' ⟨rfl, rfl⟩)
      go_ret
      exact ⟨rfl, rfl⟩
    · have h2 : (k : Int) < fr := by omega
      clear h
      go_enter Try.func8, Try.ntmps8
      go_wp2_with (refine HRAT.out.mono ?_; rintro e w' ⟨rfl, rfl⟩)
      go_ret
      exact ⟨rfl, rfl⟩
  · obtain ⟨f, rfl⟩ : ∃ f : Nat, fr = f := ⟨fr.toNat, by omega⟩
    have e : colW L k f = smR L f k := by unfold colW; rw [if_neg h]; simp
    rw [e]
    have HSUM := Lib.hid (rsum_any f k L A n c w hn (by omega) (by omega) hk hS)
    have h1 : ¬ (f : Int) < 0 := by omega
    have h2 : ¬ (k : Int) < f := by omega
    clear e hS hn h
    go_enter Try.func8, Try.ntmps8
    go_wp2_with (first
      | (go_at_call 15; refine HRAT.out.mono ?_; rintro e w' ⟨rfl, rfl⟩)
      | (go_at_call 16; refine HSUM.out.mono ?_; rintro e w' ⟨rfl, rfl⟩))
    go_ret
    exact ⟨rfl, rfl⟩
end Go.Proofs.Ythkdedoambmfkaa
