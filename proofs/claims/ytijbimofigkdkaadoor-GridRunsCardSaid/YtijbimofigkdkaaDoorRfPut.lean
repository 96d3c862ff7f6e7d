/-
  Walk: the reference's Put.
-/
import Derived.Test.YtijbimofigkdkaaDoorRfGrid
import Derived.Test.YtijbimofigkdkaaDoorQuietB
import Derived.Deep.RegionHeld3
namespace Go.Proofs.YtijbimofigkdkaaDoor
open Go.RowKit
set_option linter.unusedVariables false
set_option linter.unusedSimpArgs false

theorem RfV.below {w w' : World} {D : Nat → Prop} {V : Value} {W : Nat} {L : List (List Cl)} (h : RfV w D V W L) (hb : Below w.heap.size w w') : RfV w' D V W L := by
  obtain ⟨A, c, rfl, h⟩ := h
  exact ⟨A, c, rfl, h.below hb⟩
theorem RfV.mono {w : World} {D D' : Nat → Prop} {V : Value} {W : Nat} {L : List (List Cl)} (h : RfV w D V W L) (hd : ∀ b, b < w.heap.size → D b → D' b) : RfV w D' V W L := by
  obtain ⟨A, c, rfl, h⟩ := h
  exact ⟨A, c, rfl, h.mono hd⟩
theorem RfV.chg {S : Nat → Prop} {w w' : World} {D : Nat → Prop} {V : Value} {W : Nat} {L : List (List Cl)} (h : RfV w D V W L) (hc : Chg S w w') (hn : ∀ b, b < w.heap.size → D b → ¬ S b) : RfV w' D V W L := by
  obtain ⟨A, c, rfl, h⟩ := h
  exact ⟨A, c, rfl, h.chg hc hn⟩
theorem RfAt.v {w : World} {D : Nat → Prop} {A : Option Addr} {c W : Nat} {L : List (List Cl)} (h : RfAt w D A c L) : RfV w D (.agg (rgC W L.length A c).toArray) W L := ⟨A, c, rfl, h⟩

/-- the worlds in which Put begins -/
def putW0 (w : World) (W n : Nat) (A : Option Addr) (c : Nat) (y : Sty) : World := ((w.alloc (.cells #[.int .i64 W, .int .i64 n, .slice A n c] 29)).alloc (.cells y.cells.toArray 34)).alloc (.cells #[.int .i64 0, .int .i64 0, .slice none 0 0] 29)
theorem putW0_is (w : World) (W n : Nat) (A : Option Addr) (c : Nat) (y : Sty) : Below w.heap.size w (putW0 w W n A c y) ∧ Blk (putW0 w W n A c y) w.heap.size 29 (rgC W n A c) ∧ Blk (putW0 w W n A c y) (w.heap.size + 1) 34 y.cells ∧ Blk (putW0 w W n A c y) (w.heap.size + 1 + 1) 29 (rgC 0 0 none 0) := by
  unfold putW0
  exact ⟨(((Below.refl _ _).alloc (Nat.le_refl _) _).alloc (by simp) _).alloc (by simp; omega) _, ((Blk.new w _ (rgC W n A c)).alloc _).alloc _, (Blk.new1 w _ _ y.cells).alloc _, Blk.new2 w _ _ _ (rgC 0 0 none 0)⟩

set_option maxRecDepth 100000 in
set_option maxHeartbeats 8000000 in
theorem rput_no {w : World} {W n : Nat} {A : Option Addr} {c : Nat} (row col : Int) (s : List UInt8) (m : Int) (y : Sty) (hs : s.length ≤ 1000000) (q : Int) (hw5 : W ≤ 500)
    (hbad : ((s = [] ∨ 64 < s.length ∨ (m ≠ 1 ∧ m ≠ 2)) ∧ q = 1) ∨ ((s ≠ [] ∧ s.length ≤ 64 ∧ (m = 1 ∨ m = 2)) ∧ (inB row col W n = false ∨ inB row (col + m - 1) W n = false) ∧ q = 5)) :
    Calls Tryd.prog 41 #[.agg #[.int .i64 W, .int .i64 n, .slice A n c], .int .i64 row, .int .i64 col, .string ⟨s.toArray⟩, .int .i64 m, .agg y.cells.toArray] w fun e w' => e = .returned (.tuple #[.agg (rgC W n A c).toArray, .int .i64 q]) ∧ Below w.heap.size w w' := by
  obtain ⟨hb0, h1, h2, h3⟩ := putW0_is w W n A c y
  have hW0 : putW0 w W n A c y = ((w.alloc (.cells #[.int .i64 W, .int .i64 n, .slice A n c] 29)).alloc (.cells y.cells.toArray 34)).alloc (.cells #[.int .i64 0, .int .i64 0, .slice none 0 0] 29) := rfl
  generalize putW0 w W n A c y = W0 at hb0 h1 h2 h3 hW0
  have hsz : (⟨s.toArray⟩ : ByteArray).size = s.length := by show s.toArray.size = _; simp
  have HSZ := Lib.hid hsz
  have HB0 := Lib.hid hb0
  have H1 := Lib.hid h1
  have H3 := Lib.hid h3
  have HW0 := Lib.hid hW0
  clear hsz hb0 h1 h2 h3 hW0
  rcases hbad with ⟨hbad, rfl⟩ | ⟨⟨hs0, hs64, hm⟩, hbad, rfl⟩
  · by_cases h1 : s = []
    · subst h1
      clear hbad
      go_enter Tryd.func41, Tryd.ntmps41
      go_upto_region 2 with fail
      rw [← HW0.out]
      obtain ⟨e0, e1, e2⟩ := blk3 H1.out
      go_wp2_with ((with_reducible refine at_store 12 ?_); refine wpList_store_blk rfl _ _ _ rfl rfl (w.heap.size + 1 + 1) 0 _ (rgC 0 0 none 0) (rgC W n A c) rfl rfl H3.out (by simp [rgC]) rg_size (rgC_one _ _ _ _) ?_; intro w2 hn2 hg2; have hn2' : Blk w2 (w.heap.size + 1 + 1) 29 (rgC W n A c) := hn2)
      exact bodyPost_ret (results_ct rfl rfl rfl hn2'.whole Tryd.underlying29 rfl rg_size) rfl ⟨rfl, HB0.out.grown hg2 HB0.out.size (fun j hj => by injection hj with hj; omega)⟩
    · have hse : s.isEmpty = false := by cases s with
        | nil => exact absurd rfl h1
        | cons _ _ => rfl
      by_cases h2 : 64 < s.length
      · have h64 : decide (64 < (s.length : Int)) = true := by simp; omega
        clear h1 hbad h2
        go_enter Tryd.func41, Tryd.ntmps41
        go_upto_region 2 with fail
        rw [← HW0.out]
        obtain ⟨e0, e1, e2⟩ := blk3 H1.out
        go_wp2_with ((with_reducible refine at_store 12 ?_); refine wpList_store_blk rfl _ _ _ rfl rfl (w.heap.size + 1 + 1) 0 _ (rgC 0 0 none 0) (rgC W n A c) rfl rfl H3.out (by simp [rgC]) rg_size (rgC_one _ _ _ _) ?_; intro w2 hn2 hg2; have hn2' : Blk w2 (w.heap.size + 1 + 1) 29 (rgC W n A c) := hn2)
        exact bodyPost_ret (results_ct rfl rfl rfl hn2'.whole Tryd.underlying29 rfl rg_size) rfl ⟨rfl, HB0.out.grown hg2 HB0.out.size (fun j hj => by injection hj with hj; omega)⟩
      · have h64 : decide (64 < (s.length : Int)) = false := by simp; omega
        obtain ⟨hm1, hm2⟩ : m ≠ 1 ∧ m ≠ 2 := by
          rcases hbad with h | h | h
          · exact absurd h h1
          · exact absurd h h2
          · exact h
        have hm1' : (m != 1) = true := by simp [hm1]
        have hm2' : (m != 2) = true := by simp [hm2]
        clear h1 hbad h2 hm1 hm2
        go_enter Tryd.func41, Tryd.ntmps41
        go_upto_region 2 with fail
        rw [← HW0.out]
        obtain ⟨e0, e1, e2⟩ := blk3 H1.out
        go_wp2_with ((with_reducible refine at_store 12 ?_); refine wpList_store_blk rfl _ _ _ rfl rfl (w.heap.size + 1 + 1) 0 _ (rgC 0 0 none 0) (rgC W n A c) rfl rfl H3.out (by simp [rgC]) rg_size (rgC_one _ _ _ _) ?_; intro w2 hn2 hg2; have hn2' : Blk w2 (w.heap.size + 1 + 1) 29 (rgC W n A c) := hn2)
        exact bodyPost_ret (results_ct rfl rfl rfl hn2'.whole Tryd.underlying29 rfl rg_size) rfl ⟨rfl, HB0.out.grown hg2 HB0.out.size (fun j hj => by injection hj with hj; omega)⟩
  · have hse : s.isEmpty = false := by cases s with
      | nil => exact absurd rfl hs0
      | cons _ _ => rfl
    have h64 : decide (64 < (s.length : Int)) = false := by simp; omega
    by_cases hin : inB row col W n = false
    · have HIN := Lib.hid hin
      clear hin hbad hs0 hs64
      rcases hm with rfl | rfl
      all_goals
        go_enter Tryd.func41, Tryd.ntmps41
        go_upto_region 3 with fail
        rw [← HW0.out]
        obtain ⟨e0, e1, e2⟩ := blk3 H1.out
        go_wp2_with (fail)
        refine (rthere_any W n A n c row col W0).mono ?_
        rintro e w1 ⟨rfl, hb1⟩
        rw [HIN.out]
        obtain ⟨f0, f1, f2⟩ := blk3 (H1.out.below hb1 H1.out.lt)
        have H3' := Lib.hid (H3.out.below hb1 H3.out.lt)
        have HB1 := Lib.hid (HB0.out.trans (hb1.mono HB0.out.size))
        clear e0 e1 e2 hb1
        go_wp2_with ((with_reducible refine at_store 12 ?_); refine wpList_store_blk rfl _ _ _ rfl rfl (w.heap.size + 1 + 1) 0 _ (rgC 0 0 none 0) (rgC W n A c) rfl rfl H3'.out (by simp [rgC]) rg_size (rgC_one _ _ _ _) ?_; intro w2 hn2 hg2; have hn2' : Blk w2 (w.heap.size + 1 + 1) 29 (rgC W n A c) := hn2)
        exact bodyPost_ret (results_ct rfl rfl rfl hn2'.whole Tryd.underlying29 rfl rg_size) rfl ⟨rfl, HB1.out.grown hg2 HB1.out.size (fun j hj => by injection hj with hj; omega)⟩
    · have hin1 : inB row col W n = true := by simpa using hin
      have hin2 : inB row (col + m - 1) W n = false := hbad.resolve_left hin
      obtain rfl : m = 2 := by
        rcases hm with rfl | rfl
        · rw [show col + 1 - 1 = col by omega] at hin2
          rw [hin2] at hin1
          cases hin1
        · rfl
      obtain ⟨_, _, h2, h3⟩ : 0 ≤ row ∧ row < n ∧ 0 ≤ col ∧ col < W := by simpa [inB] using hin1
      have hcb : col < 500 := by omega
      have HIN := Lib.hid hin1
      have HIN2 : Hid (inB row (col + 1) W n = false) := by rw [show col + 2 - 1 = col + 1 by omega] at hin2; exact hin2
      clear hin hin1 hin2 hbad hs0 hs64 hm
      go_enter Tryd.func41, Tryd.ntmps41
      go_upto_region 3 with fail
      rw [← HW0.out]
      obtain ⟨e0, e1, e2⟩ := blk3 H1.out
      go_wp2_with (fail)
      refine (rthere_any W n A n c row col W0).mono ?_
      rintro e w1 ⟨rfl, hb1⟩
      rw [HIN.out]
      obtain ⟨f0, f1, f2⟩ := blk3 (H1.out.below hb1 H1.out.lt)
      have H1' := Lib.hid (H1.out.below hb1 H1.out.lt)
      have H3' := Lib.hid (H3.out.below hb1 H3.out.lt)
      have HB1 := Lib.hid (HB0.out.trans (hb1.mono HB0.out.size))
      clear e0 e1 e2 hb1
      go_wp2_with (fail)
      refine (rthere_any W n A n c row (col + 1) w1).mono ?_
      rintro e w3 ⟨rfl, hb3⟩
      rw [HIN2.out]
      obtain ⟨g0, g1, g2⟩ := blk3 (H1'.out.below hb3 H1'.out.lt)
      have H3'' := Lib.hid (H3'.out.below hb3 H3'.out.lt)
      have HB3 := Lib.hid (HB1.out.trans (hb3.mono HB1.out.size))
      clear f0 f1 f2 hb3
      go_wp2_with ((with_reducible refine at_store 12 ?_); refine wpList_store_blk rfl _ _ _ rfl rfl (w.heap.size + 1 + 1) 0 _ (rgC 0 0 none 0) (rgC W n A c) rfl rfl H3''.out (by simp [rgC]) rg_size (rgC_one _ _ _ _) ?_; intro w2 hn2 hg2; have hn2' : Blk w2 (w.heap.size + 1 + 1) 29 (rgC W n A c) := hn2)
      exact bodyPost_ret (results_ct rfl rfl rfl hn2'.whole Tryd.underlying29 rfl rg_size) rfl ⟨rfl, HB3.out.grown hg2 HB3.out.size (fun j hj => by injection hj with hj; omega)⟩
end Go.Proofs.YtijbimofigkdkaaDoor
