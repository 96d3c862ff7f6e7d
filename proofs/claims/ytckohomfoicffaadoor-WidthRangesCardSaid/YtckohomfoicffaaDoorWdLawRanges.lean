/-
  The law WidthRanges, walked.
-/
import Derived.Test.YtckohomfoicffaaDoorWdLaws
import Derived.Deep.RegionHeld3
import Derived.Deep.DeepCutAuto
import Derived.BigRegion
import Derived.IntWalk
namespace Go.Proofs.YtckohomfoicffaaDoor
open Go.RowKit Go.Shelf
set_option linter.unusedVariables false

set_option maxRecDepth 100000 in
set_option maxHeartbeats 2000000 in
theorem widthRanges_walk (k b : Int) (h0 : 0 ≤ k) (h1 : k ≤ 255) (h2 : -128 ≤ b) (h3 : b ≤ 127) (w : World) (hT : Tabs w) :
    Calls Tryd.prog 4 #[.int .u8 k, .int .i8 b] w fun e w' => e = .returned (.bool true) ∧ Below w.heap.size w w' := by
  have H := Lib.hid hT
  clear hT
  obtain ⟨q1, hq1, hq1l⟩ : ∃ q : Nat, k % 28 = (q : Int) ∧ q < 28 := ⟨(k % 28).toNat, by omega, by omega⟩
  obtain ⟨q2, hq2, hq2l⟩ : ∃ q : Nat, k % 51 = (q : Int) ∧ q < 51 := ⟨(k % 51).toNat, by omega, by omega⟩
  have hx : mkT[q1]? = some (mkT[q1]'(by show q1 < 28; omega)) := List.getElem?_eq_getElem (by show q1 < 28; omega)
  have hy : wdT[q2]? = some (wdT[q2]'(by show q2 < 51; omega)) := List.getElem?_eq_getElem (by show q2 < 51; omega)
  have hxr : ∀ x ∈ mkT, 0 ≤ x.1 ∧ x.1 ≤ 2000000 ∧ 0 ≤ x.2 ∧ x.2 ≤ 2000000 := by decide +kernel
  have hyr : ∀ x ∈ wdT, 0 ≤ x.1 ∧ x.1 ≤ 2000000 ∧ 0 ≤ x.2 ∧ x.2 ≤ 2000000 := by decide +kernel
  have hx1 := hxr _ (List.getElem_mem (by show q1 < 28; omega))
  have hy1 := hyr _ (List.getElem_mem (by show q2 < 51; omega))
  generalize mkT[q1]'(by show q1 < 28; omega) = x at hx hx1
  generalize wdT[q2]'(by show q2 < 51; omega) = y at hy hy1
  clear hxr hyr
  have HX := Lib.hid hx
  have HY := Lib.hid hy
  clear hx hy
  go_enter Tryd.func4, Tryd.ntmps4
  go_wp2_with (fail)
  refine (rmarks_any w).mono ?_
  rintro e w1 ⟨rfl, b1, t1, s1⟩
  go_wp2_with (fail)
  refine (rwides_any w1).mono ?_
  rintro e w2 ⟨rfl, b2, t2, s2⟩
  have t1' := t1.below b2 s1
  obtain ⟨c1, c2⟩ := t1' q1 x HX.out
  obtain ⟨c3, c4⟩ := t2 q2 y HY.out
  rw [Nat.mul_comm] at c1 c2 c3 c4
  have bw := b1.trans (b2.mono b1.size)
  have hs2 : w1.heap.size < w2.heap.size := s2
  have BW := Lib.hid bw
  clear t1 t2 t1' b1 b2 bw
  have n1 := World.new_ne w2 _ c1
  have n2 := World.new_ne w2 _ c2
  have n3 := World.new_ne w2 _ c3
  have n4 := World.new_ne w2 _ c4
  have m1 : k.tmod 28 = (q1 : Int) := by rw [Int.tmod_eq_emod_of_nonneg h0]; exact hq1
  have m2 : k.tmod 51 = (q2 : Int) := by rw [Int.tmod_eq_emod_of_nonneg h0]; exact hq2
  have m3 : IntKind.i64.wrap k = k := IntWalk.i64_in _ (by omega)
  have m4 : IntKind.i64.wrap (q1 : Int) = (q1 : Int) := IntWalk.i64_in _ (by omega)
  have m5 : IntKind.i64.wrap (q2 : Int) = (q2 : Int) := IntWalk.i64_in _ (by omega)
  have m6 : (q1 : Int) < 28 := by omega
  have m7 : (q2 : Int) < 51 := by omega
  clear hq1 hq2
  go_upto_region 2 with fail
  go_cut [7, 8] (fun s7 s8 wx => ∃ g h : Nat, s7 = .pointer (some ⟨g, 0, none⟩) ∧ s8 = .pointer (some ⟨h, 0, none⟩) ∧ wx.cell? ⟨g, 0, none⟩ = some (.int .i32 x.1) ∧ wx.cell? ⟨g, 1, none⟩ = some (.int .i32 x.2) ∧ wx.cell? ⟨h, 0, none⟩ = some (.int .i32 y.1) ∧ wx.cell? ⟨h, 1, none⟩ = some (.int .i32 y.2) ∧ Below w2.heap.size w2 wx)
  case first =>
    go_region_held3 (fun w' => w'.cell? ⟨w.heap.size, q1 * 2, none⟩ = some (.int .i32 x.1) ∧ w'.cell? ⟨w.heap.size, q1 * 2 + 1, none⟩ = some (.int .i32 x.2) ∧ w'.cell? ⟨w1.heap.size, q2 * 2, none⟩ = some (.int .i32 y.1) ∧ w'.cell? ⟨w1.heap.size, q2 * 2 + 1, none⟩ = some (.int .i32 y.2)) (go_keep) (fail)
    all_goals
      go_wp2_with fail
      go_meet
    all_goals
      first
        | exact ⟨w2.heap.size, w2.heap.size + 1, rfl, rfl, by simp, by simp, by simp, by simp, (((Below.refl _ _).alloc (Nat.le_refl _) _).alloc (by simp) _).drew⟩
        | exact ⟨w2.heap.size + 1, w2.heap.size, rfl, rfl, by simp, by simp, by simp, by simp, (((Below.refl _ _).alloc (Nat.le_refl _) _).alloc (by simp) _).drew⟩
  case rest =>
    obtain ⟨g, h, rfl, rfl, d1, d2, d3, d4, hbc⟩ := hcut
    clear n1 n2 n3 n4 m1 m2 m3 m4 m5 c1 c2 c3 c4
    have hbw := BW.out.trans (hbc.mono BW.out.size)
    have HBW := Lib.hid hbw
    clear hbw hbc
    have hSn := Sl.new wc #[.int .i32 x.1, .int .i32 x.2, .int .i32 y.1, .int .i32 y.2] 21
    have hcells : ∀ j, j < 4 → ∃ z : Int, (wc.alloc (.cells #[.int .i32 x.1, .int .i32 x.2, .int .i32 y.1, .int .i32 y.2] 21)).cell? ⟨wc.heap.size, j, none⟩ = some (.int .i32 z) ∧ 0 ≤ z ∧ z ≤ 2000000 := by
      intro j hj
      match j, hj with
      | 0, _ => exact ⟨x.1, by rw [World.cell?_alloc_new]; rfl, by omega, by omega⟩
      | 1, _ => exact ⟨x.2, by rw [World.cell?_alloc_new]; rfl, by omega, by omega⟩
      | 2, _ => exact ⟨y.1, by rw [World.cell?_alloc_new]; rfl, by omega, by omega⟩
      | 3, _ => exact ⟨y.2, by rw [World.cell?_alloc_new]; rfl, by omega, by omega⟩
      | (j + 4), h => omega
    have HCE := Lib.hid hcells
    have hb0 : Below w.heap.size w (wc.alloc (.cells #[.int .i32 x.1, .int .i32 x.2, .int .i32 y.1, .int .i32 y.2] 21)) := HBW.out.alloc HBW.out.size _
    have HB0 := Lib.hid hb0
    clear hcells hSn hb0
    go_wp2
    clear d1 d2 d3 d4 hx1 hy1
    generalize hw0 : wc.alloc (.cells #[.int .i32 x.1, .int .i32 x.2, .int .i32 y.1, .int .i32 y.2] 21) = w0 at HCE HB0 ⊢
    have hsz : wc.heap.size < w0.heap.size := by rw [← hw0]; simp
    clear hw0
    go_loopw [10] (fun i wr => ∃ k : Nat, k ≤ 4 ∧ i = .int .i64 k ∧ Below w0.heap.size w0 wr) (fun i _ => 4 - (intOf i).toNat)
    case atStart => exact ⟨0, by omega, rfl, Below.refl _ _⟩
    case round =>
      obtain ⟨j, hj, rfl, hbr⟩ := hrel
      have hT : Tabs wr := (H.out.below HB0.out).below hbr
      have hbw := HB0.out.trans (hbr.mono HB0.out.size)
      by_cases hlt : j < 4
      · obtain ⟨z, hz, hz0, hz1⟩ := HCE.out j hlt
        have hz' : wr.cell? ⟨wc.heap.size, j, none⟩ = some (.int .i32 z) := (hbr.cell (p := ⟨wc.heap.size, j, none⟩) hsz).trans hz
        have hlt' : (j : Int) < 4 := by omega
        have hzb : -2147483648 ≤ z + b := by omega
        have hzb2 : z + b ≤ 2147483647 := by omega
        clear hz
        go_wp2_with (first
          | (go_at_call 7; refine (of_any (z + b) wr hT).mono ?_; rintro e wA ⟨rfl, bA⟩)
          | (go_at_call 8; refine (rof_any (z + b) wA).mono ?_; rintro e wB ⟨rfl, bB⟩))
        go_roundw
        case rel => exact ⟨j + 1, by omega, by go_num, hbr.trans ((bA.trans (bB.mono bA.size)).mono hbr.size)⟩
        case measure => simp [intOf]; omega
      · have hlt' : ¬ (j : Int) < 4 := by omega
        go_wp2_with (go_at_call 15; refine (awake_any wr hT).mono ?_; rintro e wA ⟨rfl, bA⟩)
        go_ret
        exact ⟨rfl, hbw.trans (bA.mono hbw.size)⟩
end Go.Proofs.YtckohomfoicffaaDoor
