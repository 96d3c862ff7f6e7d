/-
  The laws EscMoves and EscStrips, walked, and the page's example.
-/
import Derived.Test.YtclkclamdnkdgaaDoorEsStyle
import Derived.Test.YtclkclamdnkdgaaDoorEsRef2
namespace Go.Proofs.YtclkclamdnkdgaaDoor
open Go.RowKit
set_option linter.unusedVariables false
set_option linter.unusedSimpArgs false

theorem aw_move : moveB 2 5 0 0 = [27, 91, 50, 65, 13] := by decide +kernel
theorem aw_style : styleB Sty.zero ⟨true, false, false, 2, 0⟩ = [27, 91, 49, 59, 51, 49, 109] := by decide +kernel
theorem aw_strip : stripB [97, 27, 91, 51, 49, 109, 98, 10] = [97, 98] := by decide +kernel
theorem aw_up : stepB 0 65 = [] := rfl

set_option maxRecDepth 100000 in
set_option maxHeartbeats 8000000 in
theorem es_awake (w : World) (hT : Pow w) :
    Calls Tryd.prog 16 #[] w fun e w' => e = .returned (.bool true) ∧ Below w.heap.size w w' := by
  have HT := Lib.hid hT
  have M := Lib.hid (fun w => move_any 2 5 0 0 ⟨by omega, by omega⟩ ⟨by omega, by omega⟩ ⟨by omega, by omega⟩ ⟨by omega, by omega⟩ w)
  have Y := Lib.hid (style_any Sty.zero ⟨true, false, false, 2, 0⟩)
  have U := Lib.hid (up_any 0 ⟨by omega, by omega⟩)
  have P := Lib.hid (strip_any [97, 27, 91, 51, 49, 109, 98, 10] (by simp))
  rw [aw_move] at M
  rw [aw_style] at Y
  rw [aw_strip] at P
  rw [aw_up] at U
  clear hT
  go_enter Tryd.func16, Tryd.ntmps16
  go_wp2_with (fail)
  refine (M.out _ HT.out).mono ?_
  rintro e w1 ⟨rfl, hb⟩
  have HB1 := Lib.hid (hb)
  clear hb
  go_wp2_with (fail)
  refine (Y.out _ (HT.out.below HB1.out)).mono ?_
  rintro e w2 ⟨rfl, hb⟩
  have HB2 := Lib.hid (HB1.out.trans (hb.mono HB1.out.size))
  clear hb
  go_wp2_with (fail)
  refine (U.out _ (HT.out.below HB2.out)).mono ?_
  rintro e w3 ⟨rfl, hb⟩
  have HB3 := Lib.hid (HB2.out.trans (hb.mono HB2.out.size))
  clear hb
  go_wp2_with (fail)
  refine (P.out _).mono ?_
  rintro e w4 ⟨rfl, hb⟩
  have HB4 := Lib.hid (HB3.out.trans (hb.mono HB3.out.size))
  clear hb
  go_wp2_with (fail)
  go_ret
  exact ⟨rfl, HB4.out⟩

set_option maxRecDepth 100000 in
set_option maxHeartbeats 8000000 in
theorem escMoves_walk (n r c t u : Int) (hn : i64b n) (hr : i64b r) (hc : i64b c) (ht : i64b t) (hu : i64b u) (w : World) (hT : Pow w) :
    Calls Tryd.prog 3 #[.int .i64 n, .int .i64 r, .int .i64 c, .int .i64 t, .int .i64 u] w fun e w' => e = .returned (.bool true) ∧ Below w.heap.size w w' := by
  have HT := Lib.hid hT
  have U1 := Lib.hid (up_any n hn)
  have U2 := Lib.hid (by_any n 65)
  have D1 := Lib.hid (down_any n hn)
  have D2 := Lib.hid (by_any n 66)
  have R1 := Lib.hid (right_any n hn)
  have R2 := Lib.hid (by_any n 67)
  have L1 := Lib.hid (left_any n hn)
  have L2 := Lib.hid (by_any n 68)
  have C1 := Lib.hid (col_any n hn)
  have C2 := Lib.hid (rcol_any n hn)
  have M1 := Lib.hid (move_any r c t u hr hc ht hu)
  have M2 := Lib.hid (rmove_any r c t u)
  generalize stepB n 65 = x1 at *
  generalize stepB n 66 = x2 at *
  generalize stepB n 67 = x3 at *
  generalize stepB n 68 = x4 at *
  generalize colB n = x5 at *
  generalize moveB r c t u = x6 at *
  clear hT hn hr hc ht hu
  go_enter Tryd.func3, Tryd.ntmps3
  go_wp2_with (fail)
  refine (U1.out _ HT.out).mono ?_
  rintro e w1 ⟨rfl, hb⟩
  have HB1 := Lib.hid (hb)
  clear hb
  go_wp2_with (fail)
  refine (U2.out _ ).mono ?_
  rintro e w2 ⟨rfl, hb⟩
  have HB2 := Lib.hid (HB1.out.trans (hb.mono HB1.out.size))
  clear hb
  go_wp2_with (fail)
  refine (D1.out _ (HT.out.below HB2.out)).mono ?_
  rintro e w3 ⟨rfl, hb⟩
  have HB3 := Lib.hid (HB2.out.trans (hb.mono HB2.out.size))
  clear hb
  go_wp2_with (fail)
  refine (D2.out _ ).mono ?_
  rintro e w4 ⟨rfl, hb⟩
  have HB4 := Lib.hid (HB3.out.trans (hb.mono HB3.out.size))
  clear hb
  go_wp2_with (fail)
  refine (R1.out _ (HT.out.below HB4.out)).mono ?_
  rintro e w5 ⟨rfl, hb⟩
  have HB5 := Lib.hid (HB4.out.trans (hb.mono HB4.out.size))
  clear hb
  go_wp2_with (fail)
  refine (R2.out _ ).mono ?_
  rintro e w6 ⟨rfl, hb⟩
  have HB6 := Lib.hid (HB5.out.trans (hb.mono HB5.out.size))
  clear hb
  go_wp2_with (fail)
  refine (L1.out _ (HT.out.below HB6.out)).mono ?_
  rintro e w7 ⟨rfl, hb⟩
  have HB7 := Lib.hid (HB6.out.trans (hb.mono HB6.out.size))
  clear hb
  go_wp2_with (fail)
  refine (L2.out _ ).mono ?_
  rintro e w8 ⟨rfl, hb⟩
  have HB8 := Lib.hid (HB7.out.trans (hb.mono HB7.out.size))
  clear hb
  go_wp2_with (fail)
  refine (C1.out _ (HT.out.below HB8.out)).mono ?_
  rintro e w9 ⟨rfl, hb⟩
  have HB9 := Lib.hid (HB8.out.trans (hb.mono HB8.out.size))
  clear hb
  go_wp2_with (fail)
  refine (C2.out _ ).mono ?_
  rintro e w10 ⟨rfl, hb⟩
  have HB10 := Lib.hid (HB9.out.trans (hb.mono HB9.out.size))
  clear hb
  go_wp2_with (fail)
  refine (M1.out _ (HT.out.below HB10.out)).mono ?_
  rintro e w11 ⟨rfl, hb⟩
  have HB11 := Lib.hid (HB10.out.trans (hb.mono HB10.out.size))
  clear hb
  go_wp2_with (fail)
  refine (M2.out _ ).mono ?_
  rintro e w12 ⟨rfl, hb⟩
  have HB12 := Lib.hid (HB11.out.trans (hb.mono HB11.out.size))
  clear hb
  go_wp2_with (fail)
  refine (es_awake _ (HT.out.below HB12.out)).mono ?_
  rintro e w13 ⟨rfl, hb⟩
  have HB13 := Lib.hid (HB12.out.trans (hb.mono HB12.out.size))
  clear hb
  go_wp2_with (fail)
  go_ret
  exact ⟨rfl, HB13.out⟩

theorem ex1000 (l : List UInt8) : (⟨l.toArray⟩ : ByteArray).extract 0 1000 = ⟨(l.take 1000).toArray⟩ := by
  apply ByteArray.ext
  simp [ByteArray.data_extract]

set_option maxRecDepth 100000 in
set_option maxHeartbeats 8000000 in
theorem escStrips_walk (s : ByteArray) (w : World) (hs : s.size ≤ maxLen) (hT : Pow w) :
    Calls Tryd.prog 6 #[.string s] w fun e w' => e = .returned (.bool true) ∧ Below w.heap.size w w' := by
  unfold maxLen at hs
  have HT := Lib.hid hT
  clear hT
  by_cases h : s.size ≤ 1000
  · have hi : ¬ (1000 : Int) < (s.size : Int) := by omega
    have hl : s.data.toList.length ≤ 1000 := h
    have P := Lib.hid (strip_any s.data.toList (by omega))
    have Q := Lib.hid (rstrip_any s.data.toList (by omega))
    have e : (⟨s.data.toList.toArray⟩ : ByteArray) = s := by apply ByteArray.ext; simp
    rw [e] at P Q
    generalize stripB s.data.toList = x at *
    clear hl e
    go_enter Tryd.func6, Tryd.ntmps6
    go_wp2_with (fail)
    refine (P.out _).mono ?_
    rintro e w1 ⟨rfl, hb⟩
    have HB1 := Lib.hid (hb)
    clear hb
    go_wp2_with (fail)
    refine (Q.out _).mono ?_
    rintro e w2 ⟨rfl, hb⟩
    have HB2 := Lib.hid (HB1.out.trans (hb.mono HB1.out.size))
    clear hb
    go_wp2_with (fail)
    refine (es_awake _ (HT.out.below HB2.out)).mono ?_
    rintro e w3 ⟨rfl, hb⟩
    have HB3 := Lib.hid (HB2.out.trans (hb.mono HB2.out.size))
    clear hb
    go_wp2_with (fail)
    go_ret
    exact ⟨rfl, HB3.out⟩
  · have hi : (1000 : Int) < (s.size : Int) := by omega
    have hk : 1000 ≤ s.size := by omega
    have P := Lib.hid (strip_any (s.data.toList.take 1000) (by simp; omega))
    have Q := Lib.hid (rstrip_any (s.data.toList.take 1000) (by simp; omega))
    have e : s.extract 0 1000 = ⟨(s.data.toList.take 1000).toArray⟩ := by
      have := ex1000 s.data.toList
      have e : (⟨s.data.toList.toArray⟩ : ByteArray) = s := by apply ByteArray.ext; simp
      rw [e] at this
      exact this
    rw [← e] at P Q
    generalize stripB (s.data.toList.take 1000) = x at *
    clear e
    go_enter Tryd.func6, Tryd.ntmps6
    go_wp2_with (fail)
    refine (P.out _).mono ?_
    rintro e w1 ⟨rfl, hb⟩
    have HB1 := Lib.hid (hb)
    clear hb
    go_wp2_with (fail)
    refine (Q.out _).mono ?_
    rintro e w2 ⟨rfl, hb⟩
    have HB2 := Lib.hid (HB1.out.trans (hb.mono HB1.out.size))
    clear hb
    go_wp2_with (fail)
    refine (es_awake _ (HT.out.below HB2.out)).mono ?_
    rintro e w3 ⟨rfl, hb⟩
    have HB3 := Lib.hid (HB2.out.trans (hb.mono HB2.out.size))
    clear hb
    go_wp2_with (fail)
    go_ret
    exact ⟨rfl, HB3.out⟩
end Go.Proofs.YtclkclamdnkdgaaDoor
