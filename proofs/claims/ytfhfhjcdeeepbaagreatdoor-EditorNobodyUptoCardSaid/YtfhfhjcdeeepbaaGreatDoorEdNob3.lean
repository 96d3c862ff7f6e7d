/-
  Walks: the words of a line without a buffer.
-/
import Derived.Test.YtfhfhjcdeeepbaaGreatDoorEdNob2
namespace Go.Proofs.YtfhfhjcdeeepbaaGreatDoor
open Go.RowKit Go.Shelf Go.Sort
attribute [local go_sem] Oper.semAt_some
set_option linter.unusedVariables false
set_option linter.unusedSimpArgs false

set_option maxRecDepth 100000 in
set_option maxHeartbeats 4000000 in
theorem thru_none (gf : Nat) (bd : Nat) (w : World) (f0 : Nat → Prop) (hf : ∀ k, f0 k → k < w.heap.size)
    (eg : ∀ args w, (callFunc gf args).run Tryz.prog w = .ok (.enter gf args) w)
    (hseq : ∀ W, Below w.heap.size w W → SeqP Fence.wide 8 Tryz.prog gf #[.pointer (some ⟨bd, 0, none⟩)] encG f0 (fun _ => False) (fun xs => xs = []) (fun _ => False) 0 W) :
    Calls Tryz.prog 75 #[.func (.func gf) #[] #[.pointer (some ⟨bd, 0, none⟩)]] w fun e w' => e = .returned (.int .i64 0) ∧ Below w.heap.size w w' := by
  have HSEQ := Lib.hid hseq
  have HF := Lib.hid hf
  have HEG := Lib.hid eg
  clear hseq hf eg
  refine (callsIn_wide (n := 9)).1 ?_
  refine callsIn_of_wp_marks Tryz.func75 rfl trivial ?_ rfl
  simp only [Tryz.ntmps75, List.size_toArray, List.length_cons, List.length_nil, Nat.reduceAdd, Nat.reduceSub, Array.replicate_succ, Array.replicate_zero, List.push_toArray, List.append_toArray, List.nil_append, List.cons_append]
  refine wpIn_wide.2 ?_
  go_wp2_with (fail)
  refine (wpIn_wide (n := 9)).1 ?_
  have y0 := (Boxed.new w 3 (.int .i64 0)).alloc (.cells #[.bool false] 4)
  have y1 := Boxed.new (w.alloc (.cells #[.int .i64 0] 3)) 4 (.bool false)
  simp only [World.size_alloc] at y1
  have hb0 : Below w.heap.size w ((w.alloc (.cells #[.int .i64 0] 3)).alloc (.cells #[.bool false] 4)) := ((Below.refl _ w).alloc (Nat.le_refl _) _).alloc (by simp) _
  have hsz : ((w.alloc (.cells #[.int .i64 0] 3)).alloc (.cells #[.bool false] 4)).heap.size = w.heap.size + 2 := by simp
  generalize hX1 : (w.alloc (.cells #[.int .i64 0] 3)).alloc (.cells #[.bool false] 4) = X1 at *
  clear hX1
  refine range_priv rfl (by omega) (gf := gf) (lb := #[.pointer (some ⟨bd, 0, none⟩)]) rfl trivial HEG.out
    (HSEQ.out X1 hb0)
    (Nat.le_refl _) (fun k hk => ⟨by have := HF.out k hk; omega, rfl⟩) (fun _ => rfl)
    (fun pre f W => (Boxed W w.heap.size 3 (.int .i64 0) ∧ Boxed W (w.heap.size + 1) 4 (.bool false)) ∧ Below w.heap.size w W)
    (fun _ _ _ _ => False)
    (AbP.and (AbP.and (AbP.boxed (fun (_ : List (Nat × List UInt8)) => .int .i64 0) (by omega)) (AbP.boxed (fun _ => .bool false) (by omega))) (AbP.below (by omega) (Nat.le_refl _)))
    (fun _ => AbP.none _)
    ⟨⟨y0, y1⟩, hb0⟩
    (fun x => { tmps := #[.func (.func gf) #[] #[.pointer (some ⟨bd, 0, none⟩)], undef, .int .i64 0, .pointer (some ⟨w.heap.size, 0, none⟩), .pointer (some ⟨w.heap.size + 1, 0, none⟩), undef, .string ⟨x.2.toArray⟩, .func (.func gf) #[] #[.pointer (some ⟨bd, 0, none⟩)], .int .i64 x.1, .string ⟨x.2.toArray⟩, undef, undef, undef, undef, undef, undef, undef, undef, undef, undef, undef], defers := [] }) ?assign ?body ?done ?stop
  case assign =>
    intro l x W K hK
    simp only [encG]
    rw [put_two]
    gi_wp2
    exact hK
  case body =>
    rintro l pre x f W hf hz hI hlen hel
    exact hel.elim
  case done =>
    rintro D ys f W hD rfl ⟨⟨b0, b1⟩, hB⟩ hK
    have hc := b0.cell
    have HB := Lib.hid hB
    clear b0 b1 hB y0 y1 hb0
    go_wp2
    refine ⟨by simp, .inl ⟨_, _, rfl, run_takeDeferred hK, ?_⟩⟩
    exact ⟨_, results_tmp rfl _ _ _, rfl, HB.out.trans (belowK_b (w := w) (Nat.le_refl _) W D _ _ (by omega) hK rfl rfl)⟩
  case stop =>
    rintro D c pre f W _ h _ _
    exact h.elim

theorem gcursN (W : World) : Calls Tryz.prog 26 #[.pointer none] W fun e w' => e = .returned (.int .i64 0) ∧ Below W.heap.size W w' := by
  refine (gcursor_not (gno W)).mono ?_
  rintro e w' ⟨rfl, rfl⟩
  exact ⟨rfl, Below.refl _ _⟩
theorem glineN (W : World) : Calls Tryz.prog 30 #[.pointer none] W fun e w' => e = .returned (.slice none 0 0) ∧ Below W.heap.size W w' := by
  refine (gline_not (gno W)).mono ?_
  rintro e w' ⟨rfl, rfl⟩
  exact ⟨rfl, Below.refl _ _⟩
set_option maxRecDepth 100000 in
set_option maxHeartbeats 4000000 in
theorem lwordl_none (w : World) :
    Calls Tryz.prog 53 #[.agg #[.pointer none]] w fun e w' => e = .returned (.int .i64 0) ∧ Below w.heap.size w w' := by
  obtain ⟨hb0, hx0⟩ := line_box (w := w) (v := .pointer none)
  obtain ⟨W1, hW1⟩ : ∃ W1, W1 = w.alloc (.cells #[.pointer none] 45) := ⟨_, rfl⟩
  have HB1 : Hid (Below w.heap.size w W1) := Lib.hid (by rw [hW1]; exact hb0)
  have hcd1 : W1.cell? ⟨w.heap.size, 0, none⟩ = some (.pointer none) := by rw [hW1]; exact hx0.cell
  have HBL : Hid (w.heap.size < W1.heap.size) := Lib.hid (by rw [hW1]; simp)
  clear hb0 hx0
  go_enter Tryz.func53, Tryz.ntmps53
  go_upto_region 1 with (fail)
  rw [← hW1]
  clear hW1
  go_region_law (first
    | (refine step_call rfl 26 _ _ rfl (enters_of Tryz.func26 (by kernel_rfl) rfl) #[.pointer none] (by simp [Act.eval, Act.put]) (gcursN W1.drew) ?_; rintro e w2 ⟨rfl, hb2⟩; refine ⟨_, rfl, ?_⟩; have hb12 : Below W1.heap.size W1 w2 := ((Below.refl _ W1).drew).trans hb2; have hcd2 : w2.cell? ⟨w.heap.size, 0, none⟩ = some (.pointer none) := (hb12.cell (p := ⟨w.heap.size, 0, none⟩) HBL.out).trans hcd1; have HB12 := Lib.hid hb12; clear hb2 hb12)
    | (refine step_call rfl 76 _ _ rfl (enters_of Tryz.func76 (by kernel_rfl) rfl) #[.pointer none] (by simp [Act.eval, Act.put]) (gback_any _ w2) ?_; rintro e w3 ⟨rfl, hw3⟩; refine ⟨_, rfl, ?_⟩; have HW3 := Lib.hid hw3; clear hw3)
    | (refine step_call rfl 75 _ _ rfl (enters_of Tryz.func75 (by kernel_rfl) rfl) #[.func (.func 103) #[] #[.pointer (some ⟨w2.heap.size, 0, none⟩)]] (by simp [Act.eval, Act.put])
        (thru_none 103 w2.heap.size w3 (fun k => k = w2.heap.size) (fun k hk => by have h9 : k = w2.heap.size := hk; rw [HW3.out]; simp; omega)
          (enters_of Tryz.func103 (by kernel_rfl) rfl)
          (fun V hV => gback_none none w2.heap.size V (gno _) (box_bel (by rw [HW3.out]; exact Boxed.new _ _ _) hV) _ (fun k hk => Or.elim (show k = w2.heap.size ∨ blk none = some k from hk) id (fun h => by simp [blk] at h)) (fun k hk => by have h9 : k = w2.heap.size := hk; have h8 := hV.size; rw [HW3.out] at h8; simp at h8; omega))) ?_
       rintro e w4 ⟨rfl, hb4⟩; refine ⟨_, rfl, ?_⟩; have HB4 := Lib.hid hb4; clear hb4))
  all_goals
    clear hcd1 hcd2
    go_wp2_with (fail)
    go_ret
    exact ⟨rfl, HB1.out.trans ((HB12.out.trans (((by rw [HW3.out]; exact (Below.refl _ _).alloc (Nat.le_refl _) _ : Below w2.heap.size w2 w3).trans (HB4.out.mono (by rw [HW3.out]; simp))).mono HB12.out.size)).mono HB1.out.size)⟩
set_option maxRecDepth 100000 in
set_option maxHeartbeats 8000000 in
theorem lwordr_none (w : World) :
    Calls Tryz.prog 54 #[.agg #[.pointer none]] w fun e w' => e = .returned (.int .i64 0) ∧ Below w.heap.size w w' := by
  obtain ⟨hb0, hx0⟩ := line_box (w := w) (v := .pointer none)
  obtain ⟨W1, hW1⟩ : ∃ W1, W1 = w.alloc (.cells #[.pointer none] 45) := ⟨_, rfl⟩
  have HB1 : Hid (Below w.heap.size w W1) := Lib.hid (by rw [hW1]; exact hb0)
  have hcd1 : W1.cell? ⟨w.heap.size, 0, none⟩ = some (.pointer none) := by rw [hW1]; exact hx0.cell
  have HBL : Hid (w.heap.size < W1.heap.size) := Lib.hid (by rw [hW1]; simp)
  have t1 : True := trivial
  clear hb0 hx0
  go_enter Tryz.func54, Tryz.ntmps54
  go_upto_region 1 with (fail)
  rw [← hW1]
  clear hW1
  go_region_law (first
    | (have _t := t1; refine step_call rfl 26 _ _ rfl (enters_of Tryz.func26 (by kernel_rfl) rfl) #[.pointer none] (by simp [Act.eval, Act.put]) (gcursN W1.drew) ?_; clear _t t1; rintro e w2 ⟨rfl, hb2⟩; refine ⟨_, rfl, ?_⟩; have hb12 : Below W1.heap.size W1 w2 := ((Below.refl _ W1).drew).trans hb2; have hcd2 : w2.cell? ⟨w.heap.size, 0, none⟩ = some (.pointer none) := (hb12.cell (p := ⟨w.heap.size, 0, none⟩) HBL.out).trans hcd1; have HB12 := Lib.hid hb12; clear hb2 hb12)
    | (refine step_call rfl 30 _ _ rfl (enters_of Tryz.func30 (by kernel_rfl) rfl) #[.pointer none] (by simp [Act.eval, Act.put]) (glineN w2) ?_; rintro e w3 ⟨rfl, hb3⟩; refine ⟨_, rfl, ?_⟩; have hcd3 : w3.cell? ⟨w.heap.size, 0, none⟩ = some (.pointer none) := (hb3.cell (p := ⟨w.heap.size, 0, none⟩) (show w.heap.size < w2.heap.size by have := HB12.out.size; have := HBL.out; omega)).trans hcd2; have HB3 := Lib.hid hb3; clear hb3; have t2 : True := trivial)
    | (have _t := t2; refine step_call rfl 26 _ _ rfl (enters_of Tryz.func26 (by kernel_rfl) rfl) #[.pointer none] (by simp [Act.eval, Act.put]) (gcursN w3) ?_; clear _t t2; rintro e w4 ⟨rfl, hb4⟩; refine ⟨_, rfl, ?_⟩; have HB4 := Lib.hid hb4; clear hb4)
    | (refine step_call rfl 77 _ _ rfl (enters_of Tryz.func77 (by kernel_rfl) rfl) #[.slice none 0 0] (by simp [Act.eval, Act.put]) (salls_any none 0 0 w4) ?_; rintro e w5 ⟨rfl, hw5⟩; refine ⟨_, rfl, ?_⟩; have HW5 := Lib.hid hw5; clear hw5)
    | (refine step_call rfl 75 _ _ rfl (enters_of Tryz.func75 (by kernel_rfl) rfl) #[.func (.func 105) #[] #[.pointer (some ⟨w4.heap.size, 0, none⟩)]] (by simp [Act.eval, Act.put])
        (thru_seq 105 w4.heap.size w5 (fun k => k = w4.heap.size) (ats []) 0 (by omega) (fun x => ([] : List (List UInt8))[x.1]? = some x.2) (fun x hx => by simp at hx)
          (fun k hk => by have h9 : k = w4.heap.size := hk; rw [HW5.out]; simp; omega) (enters_of Tryz.func105 (by kernel_rfl) rfl)
          (fun V hV => salls_stops [] 0 0 none 6 w4.heap.size V rfl (by omega) (.inl rfl) (box_bel (by rw [HW5.out]; exact Boxed.new _ _ _) hV) _ rfl (fun k hk => by simp [blk] at hk))) ?_
       rintro e w6 ⟨rfl, hb6⟩; refine ⟨_, rfl, ?_⟩; have HB6 := Lib.hid hb6; clear hb6; rw [ats_snd, show thruN false [] = 0 from rfl]))
  all_goals
    clear hcd1 hcd2 hcd3
    go_wp2_with (fail)
    go_ret
    exact ⟨rfl, HB1.out.trans ((HB12.out.trans ((HB3.out.trans ((HB4.out.trans (((by rw [HW5.out]; exact (Below.refl _ _).alloc (Nat.le_refl _) _ : Below w4.heap.size w4 w5).trans (HB6.out.mono (by rw [HW5.out]; simp))).mono HB4.out.size)).mono HB3.out.size)).mono HB12.out.size)).mono HB1.out.size)⟩
end Go.Proofs.YtfhfhjcdeeepbaaGreatDoor
