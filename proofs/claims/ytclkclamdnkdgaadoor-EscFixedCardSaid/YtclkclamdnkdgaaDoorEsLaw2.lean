/-
  The law EscFixed, walked.
-/
import Derived.Test.YtclkclamdnkdgaaDoorEsLaw1
namespace Go.Proofs.YtclkclamdnkdgaaDoor
open Go.RowKit
set_option linter.unusedVariables false
set_option linter.unusedSimpArgs false

theorem dec25 : Lib.itoa 25 = [50, 53] := by decide +kernel
theorem dec2004 : Lib.itoa 2004 = [50, 48, 48, 52] := by decide +kernel
theorem modeB25 (on : Bool) : modeB 25 on = [27, 91, 63] ++ [50, 53] ++ [if on = true then 104 else 108] := by unfold modeB; rw [dec25]; rfl
theorem modeB2004 (on : Bool) : modeB 2004 on = [27, 91, 63] ++ [50, 48, 48, 52] ++ [if on = true then 104 else 108] := by unfold modeB; rw [dec2004]; rfl

set_option maxRecDepth 100000 in
set_option maxHeartbeats 8000000 in
theorem escFixed_walk (on : Bool) (n : Int) (hn : i64b n) (w : World) (hT : Pow w) :
    Calls Tryd.prog 4 #[.bool on, .int .i64 n] w fun e w' => e = .returned (.bool true) ∧ Below w.heap.size w w' := by
  have HT := Lib.hid hT
  have E1 := Lib.hid eraseL_any
  have E2 := Lib.hid eraseB_any
  have E3 := Lib.hid (seen_any on)
  have E4 := Lib.hid (paste_any on)
  have R1 := Lib.hid (rerase_any 75)
  have R2 := Lib.hid (rerase_any 74)
  have R3 := Lib.hid (rmode_any [50, 53] (by simp) on)
  have R4 := Lib.hid (rmode_any [50, 48, 48, 52] (by simp) on)
  rw [← modeB25] at R3
  rw [← modeB2004] at R4
  have hl3 : (modeB 25 on).length ≤ 50 := by rw [modeB25]; simp
  have hl4 : (modeB 2004 on).length ≤ 50 := by rw [modeB2004]; simp
  have hS := strip_fixB on
  have hF : fixB on = ((([27, 91, 75] ++ [27, 91, 74]) ++ modeB 25 on) ++ modeB 2004 on) ++ [7] := by unfold fixB; simp
  obtain ⟨l1, hl1⟩ : ∃ l : List UInt8, l = [27, 91, 75] := ⟨_, rfl⟩
  obtain ⟨l2, hl2⟩ : ∃ l : List UInt8, l = [27, 91, 74] := ⟨_, rfl⟩
  rw [← hl1] at E1 R1 hF
  rw [← hl2] at E2 R2 hF
  have hn1 : l1.length ≤ 50 := by rw [hl1]; simp
  have hn2 : l2.length ≤ 50 := by rw [hl2]; simp
  clear hl1 hl2
  generalize modeB 25 on = m1 at *
  generalize modeB 2004 on = m2 at *
  generalize fixB on = F at *
  obtain ⟨p1, hp1⟩ : ∃ p, p = l1 ++ l2 := ⟨_, rfl⟩
  obtain ⟨p2, hp2⟩ : ∃ p, p = p1 ++ m1 := ⟨_, rfl⟩
  obtain ⟨p3, hp3⟩ : ∃ p, p = p2 ++ m2 := ⟨_, rfl⟩
  have g1 : p1.length ≤ 100 := by rw [hp1, List.length_append]; omega
  have g2 : p2.length ≤ 150 := by rw [hp2, List.length_append]; omega
  have g3 : p3.length ≤ 200 := by rw [hp3, List.length_append]; omega
  have hF' : F = p3 ++ [7] := by rw [hF, hp3, hp2, hp1]
  have g4 : F.length ≤ 201 := by rw [hF', List.length_append]; simp; omega
  have a1 : (⟨l1.toArray⟩ : ByteArray) ++ ⟨l2.toArray⟩ = ⟨p1.toArray⟩ := by rw [es_add, hp1]
  have a2 : (⟨p1.toArray⟩ : ByteArray) ++ ⟨m1.toArray⟩ = ⟨p2.toArray⟩ := by rw [es_add, hp2]
  have a3 : (⟨p2.toArray⟩ : ByteArray) ++ ⟨m2.toArray⟩ = ⟨p3.toArray⟩ := by rw [es_add, hp3]
  have a4 : (⟨p3.toArray⟩ : ByteArray) ++ ⟨#[7]⟩ = ⟨F.toArray⟩ := by rw [hF']; exact es_add p3 [7]
  have S1 := Lib.hid (strip_any F (by omega))
  rw [hS] at S1
  clear hp1 hp2 hp3 hF hF' hS
  have U1 := Lib.hid (up_any n hn)
  have C1 := Lib.hid (col_any n hn)
  have M1 := Lib.hid (move_any 0 0 n n ⟨by omega, by omega⟩ ⟨by omega, by omega⟩ hn hn)
  have hS2 := strip_moves n 0 0 n n
  have b1 := stepB_len n 65
  have b2 := colB_len n
  have b3 : (moveB 0 0 n n).length ≤ 120 := by unfold moveB; rw [List.length_append]; have := alongC_len (plc 0) (plc n); have := alongR_len (plc 0) (plc n); omega
  generalize stepB n 65 = u at *
  generalize colB n = c at *
  generalize moveB 0 0 n n = m at *
  obtain ⟨q1, hq1⟩ : ∃ q, q = u ++ c := ⟨_, rfl⟩
  obtain ⟨q2, hq2⟩ : ∃ q, q = q1 ++ m := ⟨_, rfl⟩
  have d1 : q1.length ≤ 60 := by rw [hq1, List.length_append]; omega
  have d2 : q2.length ≤ 180 := by rw [hq2, List.length_append]; omega
  have a5 : (⟨u.toArray⟩ : ByteArray) ++ ⟨c.toArray⟩ = ⟨q1.toArray⟩ := by rw [es_add, hq1]
  have a6 : (⟨q1.toArray⟩ : ByteArray) ++ ⟨m.toArray⟩ = ⟨q2.toArray⟩ := by rw [es_add, hq2]
  have hq : q2 = u ++ (c ++ m) := by rw [hq2, hq1, List.append_assoc]
  rw [← hq] at hS2
  have S2 := Lib.hid (strip_any q2 (by omega))
  rw [hS2] at S2
  clear hq1 hq2 hq hS2 hT hn
  go_enter Tryd.func4, Tryd.ntmps4
  go_wp2_with (fail)
  refine (E1.out _ HT.out).mono ?_
  rintro e w1 ⟨rfl, hb⟩
  have HB1 := Lib.hid (hb)
  clear hb
  go_wp2_with (fail)
  refine (E2.out _ (HT.out.below HB1.out)).mono ?_
  rintro e w2 ⟨rfl, hb⟩
  have HB2 := Lib.hid (HB1.out.trans (hb.mono HB1.out.size))
  clear hb
  go_wp2_with (fail)
  refine (E3.out _ (HT.out.below HB2.out)).mono ?_
  rintro e w3 ⟨rfl, hb⟩
  have HB3 := Lib.hid (HB2.out.trans (hb.mono HB2.out.size))
  clear hb
  go_wp2_with (fail)
  refine (E4.out _ (HT.out.below HB3.out)).mono ?_
  rintro e w4 ⟨rfl, hb⟩
  have HB4 := Lib.hid (HB3.out.trans (hb.mono HB3.out.size))
  clear hb
  go_wp2_with (fail)
  refine (bell_any _).mono ?_
  rintro e w' ⟨rfl, rfl⟩
  go_wp2_with (fail)
  refine (R1.out _ ).mono ?_
  rintro e w5 ⟨rfl, hb⟩
  have HB5 := Lib.hid (HB4.out.trans (hb.mono HB4.out.size))
  clear hb
  go_wp2_with (fail)
  refine (R2.out _ ).mono ?_
  rintro e w6 ⟨rfl, hb⟩
  have HB6 := Lib.hid (HB5.out.trans (hb.mono HB5.out.size))
  clear hb
  go_wp2_with (fail)
  refine (R3.out _ ).mono ?_
  rintro e w7 ⟨rfl, hb⟩
  have HB7 := Lib.hid (HB6.out.trans (hb.mono HB6.out.size))
  clear hb
  go_wp2_with (fail)
  refine (R4.out _ ).mono ?_
  rintro e w8 ⟨rfl, hb⟩
  have HB8 := Lib.hid (HB7.out.trans (hb.mono HB7.out.size))
  clear hb
  go_wp2_with (fail)
  refine (S1.out _ ).mono ?_
  rintro e w9 ⟨rfl, hb⟩
  have HB9 := Lib.hid (HB8.out.trans (hb.mono HB8.out.size))
  clear hb
  go_wp2_with (fail)
  refine (U1.out _ (HT.out.below HB9.out)).mono ?_
  rintro e w10 ⟨rfl, hb⟩
  have HB10 := Lib.hid (HB9.out.trans (hb.mono HB9.out.size))
  clear hb
  go_wp2_with (fail)
  refine (C1.out _ (HT.out.below HB10.out)).mono ?_
  rintro e w11 ⟨rfl, hb⟩
  have HB11 := Lib.hid (HB10.out.trans (hb.mono HB10.out.size))
  clear hb
  go_wp2_with (fail)
  refine (M1.out _ (HT.out.below HB11.out)).mono ?_
  rintro e w12 ⟨rfl, hb⟩
  have HB12 := Lib.hid (HB11.out.trans (hb.mono HB11.out.size))
  clear hb
  go_wp2_with (fail)
  refine (S2.out _ ).mono ?_
  rintro e w13 ⟨rfl, hb⟩
  have HB13 := Lib.hid (HB12.out.trans (hb.mono HB12.out.size))
  clear hb
  go_wp2_with (fail)
  refine (es_awake _ (HT.out.below HB13.out)).mono ?_
  rintro e w14 ⟨rfl, hb⟩
  have HB14 := Lib.hid (HB13.out.trans (hb.mono HB13.out.size))
  clear hb
  go_wp2_with (fail)
  go_ret
  exact ⟨rfl, HB14.out⟩
end Go.Proofs.YtclkclamdnkdgaaDoor
