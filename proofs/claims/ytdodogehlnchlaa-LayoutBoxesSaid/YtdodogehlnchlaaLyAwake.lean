/-
  Walk: the law's awake.
-/
import Derived.Test.YtdodogehlnchlaaLyLawA
namespace Go.Proofs.Ytdodogehlnchlaa
open Go.RowKit Go.Shelf Go.Sort
attribute [local go_sem] Oper.semAt_some
set_option linter.unusedVariables false
set_option linter.unusedSimpArgs false

def P0 : Nat → Pt := fun i => if i = 0 then ⟨2, 4, 1, 0⟩ else ⟨0, 9, 1, 0⟩
theorem exS1 : chkV 10 1 2 P0 = 0 ∧ rw1 (fun i => Value.int .i64 (l3 1 10 0 P0 2 i).sz) 2 = [.int .i64 4, .int .i64 5] := by
  have a : (l3 1 10 0 P0 2 0).sz = 4 := by decide +kernel
  have b : (l3 1 10 0 P0 2 1).sz = 5 := by decide +kernel
  refine ⟨by decide +kernel, ?_⟩
  show [Value.int .i64 _, Value.int .i64 _] = _
  rw [a, b]
theorem exS2 : chkV 2 1 2 P0 = 0 ∧ rw1 (fun i => Value.int .i64 (l3 1 2 0 P0 2 i).sz) 2 = [.int .i64 2, .int .i64 0] := by
  have a : (l3 1 2 0 P0 2 0).sz = 2 := by decide +kernel
  have b : (l3 1 2 0 P0 2 1).sz = 0 := by decide +kernel
  refine ⟨by decide +kernel, ?_⟩
  show [Value.int .i64 _, Value.int .i64 _] = _
  rw [a, b]
theorem exP1 : rw1 (fun i => Value.int .i64 (l3 1 10 0 P0 2 i).a) 2 = [.int .i64 0, .int .i64 5] := by
  have a : (l3 1 10 0 P0 2 0).a = 0 := by decide +kernel
  have b : (l3 1 10 0 P0 2 1).a = 5 := by decide +kernel
  show [Value.int .i64 _, Value.int .i64 _] = _
  rw [a, b]
def p0C : Array Value := #[.int .i64 2, .int .i64 4, .int .i64 1, .int .i64 0, .int .i64 0, .int .i64 9, .int .i64 1, .int .i64 0]
theorem p0_sl (w : World) : Sl (w.alloc (.cells p0C 43)) (w.alloc (.cells p0C 43)).heap.size (some ⟨w.heap.size, 0, none⟩) (ptB P0 2) := (Blk.new w 43 (ptB P0 2)).sl
/-- an answer of two ints -/
def Two (w : World) (x y : Int) (e : Ending) (w' : World) : Prop := ∃ S, e = .returned (.tuple #[.slice (some ⟨S, 0, none⟩) 2 2, .int .i64 0]) ∧ S < w'.heap.size ∧ w'.cell? ⟨S, 0, none⟩ = some (.int .i64 x) ∧ w'.cell? ⟨S, 1, none⟩ = some (.int .i64 y) ∧ Below w.heap.size w w'
theorem exSizes1 (w : World) : Calls Try.prog 14 #[.int .i64 10, .int .i64 1, .slice (some ⟨w.heap.size, 0, none⟩) 2 2] (w.alloc (.cells p0C 43)) (Two w 4 5) :=
  (sizes_any 10 1 _ 2 2 P0 _ (by omega) (p0_sl w)).mono fun e w' ⟨h, hb⟩ => by
    rcases h with h | ⟨h, S, hS, he, hbl⟩
    · exact absurd exS1.1 h.1
    · rw [exS1.2] at hbl
      exact ⟨S, he, hbl.lt, hbl.cell 0, hbl.cell 1, ((Below.refl _ w).alloc (Nat.le_refl _) _).trans (hb.mono (by simp))⟩
theorem exSizes2 (w : World) : Calls Try.prog 14 #[.int .i64 2, .int .i64 1, .slice (some ⟨w.heap.size, 0, none⟩) 2 2] (w.alloc (.cells p0C 43)) (Two w 2 0) :=
  (sizes_any 2 1 _ 2 2 P0 _ (by omega) (p0_sl w)).mono fun e w' ⟨h, hb⟩ => by
    rcases h with h | ⟨h, S, hS, he, hbl⟩
    · exact absurd exS2.1 h.1
    · rw [exS2.2] at hbl
      exact ⟨S, he, hbl.lt, hbl.cell 0, hbl.cell 1, ((Below.refl _ w).alloc (Nat.le_refl _) _).trans (hb.mono (by simp))⟩
theorem exPlaces1 (w : World) : Calls Try.prog 21 #[.int .i64 10, .int .i64 1, .int .i64 0, .slice (some ⟨w.heap.size, 0, none⟩) 2 2] (w.alloc (.cells p0C 43)) (Two w 0 5) :=
  (places_any 10 1 0 _ 2 2 P0 _ (by omega) (p0_sl w)).mono fun e w' ⟨h, hb⟩ => by
    rcases h with h | ⟨_, h, _⟩ | ⟨h, _, S, hS, he, hbl⟩
    · exact absurd exS1.1 h.1
    · exact absurd ⟨Int.le_refl _, by omega⟩ h
    · rw [exP1] at hbl
      exact ⟨S, he, hbl.lt, hbl.cell 0, hbl.cell 1, ((Below.refl _ w).alloc (Nat.le_refl _) _).trans (hb.mono (by simp))⟩

set_option maxRecDepth 100000 in
set_option maxHeartbeats 4000000 in
theorem lawake_any (w : World) : Calls Try.prog 20 #[] w fun e w' => e = .returned (.bool true) ∧ Below w.heap.size w w' := by
  have hb2 : Below w.heap.size w ((w.alloc (.cells #[.int .i64 2, .int .i64 4, .int .i64 1, .int .i64 0] 43)).alloc (.cells #[.int .i64 0, .int .i64 9, .int .i64 1, .int .i64 0] 43)) := ((Below.refl _ w).alloc (Nat.le_refl _) _).alloc (by simp) _
  have b1 : Blk ((w.alloc (.cells #[.int .i64 2, .int .i64 4, .int .i64 1, .int .i64 0] 43)).alloc (.cells #[.int .i64 0, .int .i64 9, .int .i64 1, .int .i64 0] 43)) w.heap.size 43 (ptC ⟨2, 4, 1, 0⟩) := (Blk.new w 43 (ptC ⟨2, 4, 1, 0⟩)).alloc _
  have b2 := Blk.new (w.alloc (.cells #[.int .i64 2, .int .i64 4, .int .i64 1, .int .i64 0] 43)) 43 (ptC ⟨0, 9, 1, 0⟩)
  rw [World.size_alloc] at b2
  obtain ⟨W0, hW0⟩ : ∃ W0, W0 = ((w.alloc (.cells #[.int .i64 2, .int .i64 4, .int .i64 1, .int .i64 0] 43)).alloc (.cells #[.int .i64 0, .int .i64 9, .int .i64 1, .int .i64 0] 43)) := ⟨_, rfl⟩
  have b2' : Blk W0 (w.heap.size + 1) 43 (ptC ⟨0, 9, 1, 0⟩) := by rw [hW0]; exact b2
  rw [← hW0] at b1 hb2
  have HW0 := Lib.hid hW0
  have HB1 := Lib.hid b1
  have HB2 := Lib.hid b2'
  have HB := Lib.hid hb2
  clear b1 b2 b2' hb2 hW0
  go_enter Try.func20, Try.ntmps20
  go_upto_region 3 with (fail)
  rw [← HW0.out]
  clear HW0
  go_upto_region 4 with (first
    | ((with_reducible refine at_dst 12 ?_); refine wpList_load_mid rfl _ _ rfl w.heap.size 0 rfl [.int .i64 2, .int .i64 4, .int .i64 1, .int .i64 0] _ (HB1.out.range 0 _ (fun j v hv => by rw [Nat.zero_add]; exact hv)) Try.underlying43 rfl part_size ?_)
    | ((with_reducible refine at_dst 13 ?_); refine wpList_load_mid rfl _ _ rfl (w.heap.size + 1) 0 rfl [.int .i64 0, .int .i64 9, .int .i64 1, .int .i64 0] _ (HB2.out.range 0 _ (fun j v hv => by rw [Nat.zero_add]; exact hv)) Try.underlying43 rfl part_size ?_)
    | (go_at_call 14; refine (exSizes1 _).mono ?_; rintro e w1 ⟨S1, rfl, hl1, hx1, hy1, hq1⟩))
  have HX1 := Lib.hid hx1
  have HY1 := Lib.hid hy1
  have HL1 := Lib.hid hl1
  have HQ1 := Lib.hid hq1
  replace HB1 := Lib.hid (HB1.out.below hq1 HB1.out.lt)
  replace HB2 := Lib.hid (HB2.out.below hq1 HB2.out.lt)
  replace HB := Lib.hid (HB.out.trans (hq1.mono HB.out.size))
  clear hx1 hy1 hl1 hq1
  go_upto_region 5 with (first
    | ((with_reducible refine at_dst 19 ?_); refine wpList_load_mid rfl _ _ rfl w.heap.size 0 rfl [.int .i64 2, .int .i64 4, .int .i64 1, .int .i64 0] _ (HB1.out.range 0 _ (fun j v hv => by rw [Nat.zero_add]; exact hv)) Try.underlying43 rfl part_size ?_)
    | ((with_reducible refine at_dst 20 ?_); refine wpList_load_mid rfl _ _ rfl (w.heap.size + 1) 0 rfl [.int .i64 0, .int .i64 9, .int .i64 1, .int .i64 0] _ (HB2.out.range 0 _ (fun j v hv => by rw [Nat.zero_add]; exact hv)) Try.underlying43 rfl part_size ?_)
    | (go_at_call 14; refine (exSizes2 _).mono ?_; rintro e w2 ⟨S2, rfl, hl2, hx2, hy2, hq2⟩))
  have HX2 := Lib.hid hx2
  have HY2 := Lib.hid hy2
  have HL2 := Lib.hid hl2
  have HQ2 := Lib.hid hq2
  replace HB1 := Lib.hid (HB1.out.below hq2 HB1.out.lt)
  replace HB2 := Lib.hid (HB2.out.below hq2 HB2.out.lt)
  replace HB := Lib.hid (HB.out.trans (hq2.mono HB.out.size))
  clear hx2 hy2 hl2 hq2
  go_upto_region 6 with (first
    | ((with_reducible refine at_dst 26 ?_); refine wpList_load_mid rfl _ _ rfl w.heap.size 0 rfl [.int .i64 2, .int .i64 4, .int .i64 1, .int .i64 0] _ (HB1.out.range 0 _ (fun j v hv => by rw [Nat.zero_add]; exact hv)) Try.underlying43 rfl part_size ?_)
    | ((with_reducible refine at_dst 27 ?_); refine wpList_load_mid rfl _ _ rfl (w.heap.size + 1) 0 rfl [.int .i64 0, .int .i64 9, .int .i64 1, .int .i64 0] _ (HB2.out.range 0 _ (fun j v hv => by rw [Nat.zero_add]; exact hv)) Try.underlying43 rfl part_size ?_)
    | (go_at_call 21; refine (exPlaces1 _).mono ?_; rintro e w3 ⟨S3, rfl, hl3, hx3, hy3, hq3⟩))
  have HX3 := Lib.hid hx3
  have HY3 := Lib.hid hy3
  have HL3 := Lib.hid hl3
  have HQ3 := Lib.hid hq3
  replace HB1 := Lib.hid (HB1.out.below hq3 HB1.out.lt)
  replace HB2 := Lib.hid (HB2.out.below hq3 HB2.out.lt)
  replace HB := Lib.hid (HB.out.trans (hq3.mono HB.out.size))
  clear hx3 hy3 hl3 hq3
  have x1 := HQ3.out.cell (p := ⟨S1, 0, none⟩) (Nat.lt_of_lt_of_le HL1.out HQ2.out.size) |>.trans ((HQ2.out.cell (p := ⟨S1, 0, none⟩) HL1.out).trans HX1.out)
  have y1 := HQ3.out.cell (p := ⟨S1, 1, none⟩) (Nat.lt_of_lt_of_le HL1.out HQ2.out.size) |>.trans ((HQ2.out.cell (p := ⟨S1, 1, none⟩) HL1.out).trans HY1.out)
  have x2 := (HQ3.out.cell (p := ⟨S2, 0, none⟩) HL2.out).trans HX2.out
  have y2 := (HQ3.out.cell (p := ⟨S2, 1, none⟩) HL2.out).trans HY2.out
  have y3 := HY3.out
  clear HB1 HB2 HX1 HX2 HX3 HY1 HY2 HY3 HL1 HL2 HL3 HQ1 HQ2 HQ3
  go_wp2_with (fail)
  go_ret
  exact ⟨rfl, HB.out⟩
end Go.Proofs.Ytdodogehlnchlaa
