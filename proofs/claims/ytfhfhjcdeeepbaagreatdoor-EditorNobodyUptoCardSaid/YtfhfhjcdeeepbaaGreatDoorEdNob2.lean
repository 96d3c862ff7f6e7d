/-
  Walks: what a line without a buffer does: is, enter.
-/
import Derived.Test.YtfhfhjcdeeepbaaGreatDoorEdNob1
namespace Go.Proofs.YtfhfhjcdeeepbaaGreatDoor
open Go.RowKit Go.Shelf Go.Sort
attribute [local go_sem] Oper.semAt_some
set_option linter.unusedVariables false
set_option linter.unusedSimpArgs false

theorem glenN (W : World) : Calls Tryz.prog 32 #[.pointer none] W fun e w' => e = .returned (.int .i64 0) ∧ Below W.heap.size W w' := by
  refine (glen_not (gno W)).mono ?_
  rintro e w' ⟨rfl, rfl⟩
  exact ⟨rfl, Below.refl _ _⟩
set_option maxRecDepth 100000 in
set_option maxHeartbeats 8000000 in
theorem lis_none {w : World} (X : Option Addr) (c : Nat) :
    Calls Tryz.prog 49 #[.agg #[.pointer none], .slice X 0 c] w fun e w' => e = .returned (.bool true) ∧ Below w.heap.size w w' := by
  have hb0 : Below w.heap.size w ((w.alloc (.cells #[.pointer none] 45)).alloc (.cells #[.slice X 0 c] 38)) := ((Below.refl _ w).alloc (Nat.le_refl _) _).alloc (by simp) _
  have y0 := (Boxed.new w 45 (.pointer none)).alloc (.cells #[.slice X 0 c] 38)
  have y1 := Boxed.new (w.alloc (.cells #[.pointer none] 45)) 38 (.slice X 0 c)
  have hs1 : ((w.alloc (.cells #[.pointer none] 45)).alloc (.cells #[.slice X 0 c] 38)).heap.size = w.heap.size + 2 := by simp
  simp only [World.size_alloc] at y1
  obtain ⟨W1, hW1⟩ : ∃ W1, W1 = (w.alloc (.cells #[.pointer none] 45)).alloc (.cells #[.slice X 0 c] 38) := ⟨_, rfl⟩
  rw [← hW1] at hb0 y0 y1 hs1
  have HB1 := Lib.hid hb0
  have HY0 := Lib.hid y0
  have HY1 := Lib.hid y1
  have HS1 := Lib.hid hs1
  have k0 := y0.cell
  have k1 := y1.cell
  clear hb0 y0 y1 hs1
  refine (callsIn_wide (n := 9)).1 ?_
  refine callsIn_of_wp_marks Tryz.func49 rfl trivial ?_ rfl
  simp only [Tryz.ntmps49, List.size_toArray, List.length_cons, List.length_nil, Nat.reduceAdd, Nat.reduceSub, Array.replicate_succ, Array.replicate_zero, List.push_toArray, List.append_toArray, List.nil_append, List.cons_append]
  refine wpIn_wide.2 ?_
  go_wp2_with (fail)
  go_step3
  go_wp2_with (fail)
  rw [← hW1]
  clear hW1
  go_cut [5] from 8 to 13 (fun v5 wr => ∃ a : Nat, v5 = .pointer (some ⟨a, 0, none⟩) ∧ w.heap.size + 2 ≤ a ∧ Boxed wr a 4 (.bool true) ∧ Below W1.heap.size W1 wr)
  case first =>
    refine wp_noPanic ?_
    have GB : Hid (Below W1.heap.size W1 (W1.alloc (.cells #[.bool false] 4)).drew) := Lib.hid (((Below.refl _ W1).alloc (Nat.le_refl _) _).drew)
    have a0 : (W1.alloc (.cells #[.bool false] 4)).cell? ⟨w.heap.size, 0, none⟩ = some (.pointer none) := (GB.out.cell (p := ⟨w.heap.size, 0, none⟩) HY0.out.lt).trans k0
    have a1 : (W1.alloc (.cells #[.bool false] 4)).cell? ⟨w.heap.size + 1, 0, none⟩ = some (.slice X 0 c) := (GB.out.cell (p := ⟨w.heap.size + 1, 0, none⟩) HY1.out.lt).trans k1
    go_region_law (first
      | (refine step_call rfl 32 _ _ rfl (enters_of Tryz.func32 (by kernel_rfl) rfl) #[.pointer none] (by simp [Act.eval, Act.put]) (glenN W1.drew) ?_; rintro e w2 ⟨rfl, hb2⟩; refine ⟨_, rfl, ?_⟩; have hb12 : Below W1.heap.size W1 w2 := ((Below.refl _ W1).drew).trans hb2; have k2 : w2.cell? ⟨w.heap.size + 1, 0, none⟩ = some (.slice X 0 c) := (hb12.cell (p := ⟨w.heap.size + 1, 0, none⟩) HY1.out.lt).trans k1; have HB12 := Lib.hid hb12; have CA : Hid True := Lib.hid trivial; have k2a : (w2.alloc (.cells #[.bool false] 4)).cell? ⟨w.heap.size + 1, 0, none⟩ = some (.slice X 0 c) := (((Below.refl _ w2).alloc (Nat.le_refl _) (.cells #[.bool false] 4)).cell (p := ⟨w.heap.size + 1, 0, none⟩) (show w.heap.size + 1 < w2.heap.size by have h1 := HB12.out.size; have h2 := HY1.out.lt; omega)).trans k2; clear hb2 hb12)
      | (refine step_call rfl 32 _ _ rfl (enters_of Tryz.func32 (by kernel_rfl) rfl) #[.pointer none] (by simp [Act.eval, Act.put]) (glenN (W1.alloc (.cells #[.bool false] 4)).drew) ?_; rintro e w2 ⟨rfl, hb2⟩; refine ⟨_, rfl, ?_⟩; have hb12 : Below W1.heap.size W1 w2 := GB.out.trans (hb2.mono GB.out.size); have hbx : Boxed w2 W1.heap.size 4 (.bool false) := box_bel (w := (W1.alloc (.cells #[.bool false] 4)).drew) (Boxed.new W1 4 (.bool false)) hb2; have ka := hbx.cell; have kf := hbx.frozen; have k2 : w2.cell? ⟨w.heap.size + 1, 0, none⟩ = some (.slice X 0 c) := (hb12.cell (p := ⟨w.heap.size + 1, 0, none⟩) HY1.out.lt).trans k1; have HB12 := Lib.hid hb12; have CA := Lib.hid hbx; clear hb2 hb12 hbx))
    all_goals (simp only [NoPanic]; go_wp2_with (fail); go_meet)
    all_goals first
      | exact ⟨_, rfl, by have h1 := HB12.out.size; have h2 := HS1.out; omega, Boxed.new w2 4 _, HB12.out.alloc HB12.out.size _⟩
      | exact ⟨_, rfl, by have h2 := HS1.out; omega, CA.out.set _, HB12.out.setCell (p := ⟨W1.heap.size, 0, none⟩) (Nat.le_refl _) _⟩
  case rest =>
    obtain ⟨a, rfl, ha, hba, hbel⟩ := hcut
    have kc := (box_bel HY0.out hbel).cell
    have hyc := box_bel HY1.out hbel
    have hwc : w.heap.size + 2 ≤ wc.heap.size := by have h1 := hbel.size; have h2 := HS1.out; omega
    have hal := hba.lt
    have HBC := Lib.hid (HB1.out.trans (hbel.mono HB1.out.size))
    have HBEL := Lib.hid hbel
    clear k0 k1 hbel
    go_wp2_with (fail)
    go_step3
    go_wp2_with (go_at_call 37; refine (gall_any _ _).mono ?_; rintro e w' ⟨rfl, rfl⟩)
    refine (wpIn_wide (n := 9)).1 ?_
    have yg := Boxed.new wc 43 (.pointer none)
    have hb3 : Below wc.heap.size wc (wc.alloc (.cells #[.pointer none] 43)) := (Below.refl _ _).alloc (Nat.le_refl _) _
    have hyc3 := box_bel hyc hb3
    have hba3 := box_bel hba hb3
    have hsz : (wc.alloc (.cells #[.pointer none] 43)).heap.size = wc.heap.size + 1 := by simp
    have hB3 : Below w.heap.size w (wc.alloc (.cells #[.pointer none] 43)) := HBC.out.trans (hb3.mono HBC.out.size)
    have hseq := gall_none none wc.heap.size (wc.alloc (.cells #[.pointer none] 43)) (gno _) yg (fun k => k = wc.heap.size) (fun k hk => Or.elim (show k = wc.heap.size ∨ blk none = some k from hk) id (fun h => by simp [blk] at h))
    generalize hX1 : wc.alloc (.cells #[.pointer none] 43) = X1 at *
    clear hX1
    refine range_priv rfl (by omega) (gf := 64) (lb := #[.pointer (some ⟨wc.heap.size, 0, none⟩)]) rfl trivial (enters_of Tryz.func64 (by kernel_rfl) rfl)
      hseq (Nat.le_refl _) (fun k hk => ⟨by have h9 : k = wc.heap.size := hk; omega, rfl⟩) (fun _ => rfl)
      (fun pre f W => (Boxed W (w.heap.size + 1) 38 (.slice X 0 c) ∧ Boxed W a 4 (.bool true)) ∧ Below w.heap.size w W)
      (fun _ _ _ _ => False)
      (AbP.and (AbP.and (AbP.boxed (fun (_ : List (Nat × List UInt8)) => .slice X 0 c) (by omega)) (AbP.boxed (fun _ => .bool true) (by omega))) (AbP.below (by omega) (Nat.le_refl _)))
      (fun _ => AbP.none _)
      ⟨⟨hyc3, hba3⟩, hB3⟩
      (fun x => { tmps := #[.agg #[.pointer none], .slice X 0 c, .pointer (some ⟨w.heap.size, 0, none⟩), .pointer (some ⟨w.heap.size + 1, 0, none⟩), .bool false, .pointer (some ⟨a, 0, none⟩), .int .i64 x.1, .string ⟨x.2.toArray⟩, u8, u9, u10, u11, u12, u13, .pointer (some ⟨w.heap.size, 0, none⟩), .pointer none, .func (.func 64) #[] #[.pointer (some ⟨wc.heap.size, 0, none⟩)], .int .i64 x.1, .string ⟨x.2.toArray⟩, undef, undef, undef, undef, undef, undef, undef, undef, undef, undef, undef], defers := [] }) ?assign ?body ?done ?stop
    case assign =>
      intro l x W K hK
      simp only [encG]
      rw [put_two]
      gi_wp2
      exact hK
    case body =>
      rintro l pre x f W hf hz hI hlen hel
      exact hel.elim
    case done =>
      rintro D ys f W hD rfl ⟨⟨b0, b1⟩, hB⟩ hK
      have hc := b1.cell
      have HB := Lib.hid hB
      clear b0 b1 hB hseq yg hb3 hyc hyc3 hba hba3 hB3
      go_wp2
      refine ⟨by simp, .inl ⟨_, _, rfl, run_takeDeferred hK, ?_⟩⟩
      exact ⟨_, results_tmp rfl _ _ _, rfl, HB.out.trans (belowK_b (w := w) (Nat.le_refl _) W D _ _ (by omega) hK rfl rfl)⟩
    case stop =>
      rintro D c pre f W _ h _ _
      exact h.elim

set_option maxRecDepth 100000 in
set_option maxHeartbeats 4000000 in
theorem enter_none {w : World} (hT : Tabs w) (x : ByteArray) (hx : x.size ≤ 4000000) (hfl : (flatB x.data.toList).length ≤ 4000000) :
    Calls Tryz.prog 45 #[.agg #[.pointer none], .string x] w fun e w' => e = .returned (.bool false) ∧ Below w.heap.size w w' := by
  obtain ⟨hb0, hx0⟩ := line_box (w := w) (v := .pointer none)
  have HB0 := Lib.hid hb0
  have HX0 := Lib.hid hx0
  have HT := Lib.hid (hT.below hb0)
  have hq := fun (W : World) (hW : Tabs W) => ccut_any ⟨(flatB x.data.toList).toArray⟩ (by rw [size_of]; exact hfl) W hW
  rw [show (⟨(flatB x.data.toList).toArray⟩ : ByteArray).data.toList = flatB x.data.toList from rfl] at hq
  have hq2 := fun (W : World) (hTW : Tabs W) => ljoin_none hTW x hx
  have HQ2 := Lib.hid hq2
  generalize hk : (cls (rs (flatB x.data.toList))).length = m at hq
  have HQ := Lib.hid hq
  clear hT hb0 hx0 hq hq2 hfl hk
  by_cases hm : 0 < m
  · have hri : (m : Int) > 0 := by omega
    clear hm
    go_enter Tryz.func45, Tryz.ntmps45
    go_wp2_with (first
      | (go_at_call 47; refine (cflat_any x hx _ HT.out).mono ?_; rintro e w1 ⟨rfl, hb1⟩; have HB1 := Lib.hid hb1; clear hb1)
      | (go_at_call 46; refine (HQ.out _ (HT.out.below HB1.out)).mono ?_; rintro e w2 ⟨A2, c2, rfl, ho2, hb2⟩; have hk2 := Boxed.cell (box_bel (box_bel HX0.out HB1.out) hb2); have HB2 := Lib.hid hb2; clear hb2 ho2)
      | (go_at_call 68; refine (groom_not (gno _)).mono ?_; rintro e w3 ⟨rfl, rfl⟩))
    go_ret
    exact ⟨rfl, HB0.out.trans ((HB1.out.trans (HB2.out.mono HB1.out.size)).mono HB0.out.size)⟩
  · obtain rfl : m = 0 := by omega
    clear hm
    go_enter Tryz.func45, Tryz.ntmps45
    go_wp2_with (first
      | (go_at_call 47; refine (cflat_any x hx _ HT.out).mono ?_; rintro e w1 ⟨rfl, hb1⟩; have HB1 := Lib.hid hb1; clear hb1)
      | (go_at_call 46; refine (HQ.out _ (HT.out.below HB1.out)).mono ?_; rintro e w2 ⟨A2, c2, rfl, ho2, hb2⟩; have hk2 := Boxed.cell (box_bel (box_bel HX0.out HB1.out) hb2); have HX2 := Lib.hid (box_bel (box_bel HX0.out HB1.out) hb2); have HB2 := Lib.hid (HB1.out.trans (hb2.mono HB1.out.size)); clear hb2 ho2)
      | (go_at_call 68; refine (groom_not (gno _)).mono ?_; rintro e w3 ⟨rfl, rfl⟩)
      | (go_at_call 69; refine (HQ2.out _ (HT.out.below HB2.out)).mono ?_; rintro e w4 ⟨rfl, hb4⟩; have hk4 := Boxed.cell (box_bel HX2.out hb4); have HB4 := Lib.hid hb4; clear hb4)
      | (go_at_call 70; refine (ginsert_not (gno _) _).mono ?_; rintro e w5 ⟨rfl, rfl⟩))
    go_ret
    exact ⟨rfl, HB0.out.trans ((HB2.out.trans (HB4.out.mono HB2.out.size)).mono HB0.out.size)⟩
end Go.Proofs.YtfhfhjcdeeepbaaGreatDoor
