/-
  Walk: fill where the gap must be made wider first.
-/
import Derived.Test.YtfhfhjcdeeepbaaGreatDoorGpFill
namespace Go.Proofs.YtfhfhjcdeeepbaaGreatDoor
open Go.RowKit Go.Sort
set_option linter.unusedVariables false
set_option linter.unusedSimpArgs false

set_option maxRecDepth 100000 in
set_option maxHeartbeats 4000000 in
theorem fill_wide {w : World} {lo g n C most f t : Nat} {A : Option Addr} {p s : List (List UInt8)} (h : GpAt w lo g A n C most f t p s) (l : List (List UInt8)) (X : Option Addr) (m d : Nat) (hm : m = l.length) (hX : Sl w w.heap.size X (sv l)) (hXg : ∀ b off, X = some ⟨b, off, none⟩ → b ≠ g) (hc : ∀ c ∈ l, isC c = true) (hr : t - f < m) (hmost : ln p s + m ≤ most) :
    Calls Tryz.prog 93 #[.pointer (some ⟨g, 2, none⟩), .slice X m d, .int .i64 most] w (FillP w lo g A most (p ++ l) s) := by
  have hft := h.ft
  have htn := h.tn
  have hnC := h.nC
  have hle := h.le
  have hm4 := h.m4
  have hfp := h.fp
  have htle : t ≤ n := by omega
  have hgt : ((m : Int) > (t : Int) - f) := by omega
  have h2 := h.c2
  have h3 := h.c3
  have h4 := h.c4
  have hln : ln p s ≤ 4096 := by omega
  obtain ⟨size, hsize⟩ : ∃ size, size = min most (max (ln p s + m) (2 * n)) := ⟨_, rfl⟩
  have hs1 : ln p s + m ≤ size := by omega
  have hs2 : size ≤ most := by omega
  have hsi : (if (if ((ln p s : Nat) : Int) + m < 2 * n then 2 * (n : Int) else ((ln p s : Nat) : Int) + m) < most then (if ((ln p s : Nat) : Int) + m < 2 * n then 2 * (n : Int) else ((ln p s : Nat) : Int) + m) else (most : Int)) = size := by split <;> split <;> omega
  have H := Lib.hid h
  have HM := Lib.hid hm
  have HX := Lib.hid hX
  have HXG := Lib.hid hXg
  have HC := Lib.hid hc
  have HFP := Lib.hid hfp
  have HTN := Lib.hid htn
  have HSI := Lib.hid hsi
  have HL := Lib.hid h.lnf
  clear h hm hX hXg hc hfp htn hsize hsi
  go_enter Tryz.func93, Tryz.ntmps93
  go_wp2_with (fail)
  go_quiet (fail)
  have HW0 := Lib.hid (H.out.drewN nq)
  have k2 := cell_regrown HW0.out.c2
  have Q1 := Lib.hid (fun d os => Calls.regrown_of (gcount_any (HW0.out.below (below_regrown (w.drewN nq) d os))))
  go_wp2_with (fail)
  refine wp_region_below_tail 15 (by kernel_rfl) (by kernel_rfl) ?_
  simp only [List.take_succ_cons, List.take_zero, List.drop_succ_cons, List.drop_zero]
  repeat (first
    | go_big_quiet_step (exact Q1.out _ _)
    | quiet_step (exact Q1.out _ _))
  refine wpQuiet_nil ?_
  intro _ hw'
  obtain ⟨⟨dq, osq⟩, hw''⟩ := hw'
  subst hw''
  rw [HSI.out]
  have HBQ := Lib.hid ((gp_drewN w nq).trans ((below_regrown (w.drewN nq) dq osq).mono (by rw [World.heap_drewN]; exact Nat.le_refl _)))
  have HQ := Lib.hid (H.out.below HBQ.out)
  clear Q1 k2 h2 h3 h4
  generalize grow (redrawn (w.drewN nq) dq) osq = wq at *
  go_upto_region 2 with (go_at_call 117; refine (widen_any HQ.out size (by omega) hs2 (by omega)).mono ?_; rintro e w1 ⟨ab, rfl, hab, hg1, hc1⟩)
  obtain ⟨u, hu⟩ : ∃ u, u = size - s.length := ⟨_, rfl⟩
  rw [← hu] at hg1
  have hfp1 := hg1.fp
  have hab2 : w.heap.size ≤ ab := Nat.le_trans HBQ.out.size hab
  have H1 := Lib.hid hg1
  have HC1 := Lib.hid ((Chg.of_below (S := one g) HBQ.out).trans hc1 (fun _ h => .inl h))
  have hHTN1 : u + s.length = size := hg1.tn
  have hfu : f ≤ u := hg1.ft
  have hlnu : ln p s = f + s.length := by have := HFP.out; unfold ln; omega
  have hr1 : m ≤ u - f := by omega
  have hus : u ≤ size := by omega
  have HTN1 := Lib.hid hHTN1
  have HX1 : Hid (Sl w1 w.heap.size X (sv l)) := Lib.hid (HC1.out.sl HX.out (Nat.le_refl _) (fun b off e => by
    have h := HXG.out b off e
    exact h))
  have E1 := fun w => sl_lh (some ⟨ab, 0, none⟩) size size f u hfu (by omega) w
  have g2 := hg1.c2
  have g3 := hg1.c3
  have g4 := hg1.c4
  obtain ⟨tl0, htl0, hblk⟩ : ∃ tl0 : List Value, tl0 = [] ∧ Blk w1 ab 9 (gc sz (sv p) (u - f) (sv s) tl0) := by
    rcases hg1.all with ⟨h, _⟩ | ⟨ab', tl', e, _, hC, hb, _⟩
    · cases h
    · have : ab = ab' := by injection e with e; injection e
      subst this
      exact ⟨tl', List.eq_nil_of_length_eq_zero (by omega), hb⟩
  subst htl0
  have hlo : lo ≤ ab := by have := (H.out.own_lt g (.inl rfl)); have := H.out.lo; have := H.out.head.lt; omega
  have HBK := Lib.hid hblk
  have HLL := Lib.hid (show (sv l).length = m by rw [sv_length, HM.out])
  have HF := Lib.hid (gc_fill sz (sv p) (sv l) (u - f) (sv s) [] f (by rw [sv_length, HFP.out]) (by rw [HLL.out]; exact hr1))
  have HG := Lib.hid (hg1.ne (ab := ab) rfl)
  have HLN : Hid ((gc sz (sv p) (u - f) (sv s) []).length = size) := Lib.hid (by rw [gc_length, sv_length, sv_length, HFP.out]; simp; omega)
  have HHD := Lib.hid hg1.head
  have HCT1 := Lib.hid (rfl : size = size)
  have hn11 : 1 ≤ size := by omega
  have hfm : (f : Int) + m ≤ 4096 := by omega
  clear hblk hg1 hc1 hHTN1 hu hfp1 hlnu HSI hs1
  have HSD : Hid ((fun W : World => W.cell? ⟨g, 2, none⟩ = some (.slice (some ⟨ab, 0, none⟩) size size) ∧ W.cell? ⟨g, 3, none⟩ = some (.int .i64 f) ∧ W.cell? ⟨g, 4, none⟩ = some (.int .i64 u)) w1.drew) := Lib.hid ⟨g2, g3, g4⟩
  refine wp_region_K (fun W : World => W.cell? ⟨g, 2, none⟩ = some (.slice (some ⟨ab, 0, none⟩) size size) ∧ W.cell? ⟨g, 3, none⟩ = some (.int .i64 f) ∧ W.cell? ⟨g, 4, none⟩ = some (.int .i64 u)) 22 (by kernel_rfl) ?_
  refine wpAnyK_takeP (i := 0) (v := ?v0) rfl (by kernel_rfl) (by kernel_rfl) (by kernel_rfl) (by kernel_rfl) (fun _ _ _ h => h) (Or.inl ⟨by rfl, fun w1 hSw => ?hy0⟩) (.inr HSD.out) ?rest0
  case hy0 =>
    go_simp
    try with_reducible rfl
  change wpAnyK _ _ _ _ _ _ _ _ (Act.put _ (some 34) _) _
  try simp only [Act.put, List.setIfInBounds_toArray, List.set_cons_zero, List.set_cons_succ]
  refine wpAnyK_takeP (i := 1) (v := ?v1) rfl (by kernel_rfl) (by kernel_rfl) (by kernel_rfl) (by kernel_rfl) (fun _ _ _ h => h) (Or.inl ⟨by rfl, fun w1 hSw => ?hy1⟩) (.inr HSD.out) ?rest1
  case hy1 =>
    go_simp
    try with_reducible rfl
  change wpAnyK _ _ _ _ _ _ _ _ (Act.put _ (some 35) _) _
  try simp only [Act.put, List.setIfInBounds_toArray, List.set_cons_zero, List.set_cons_succ]
  refine wpAnyK_takeP (i := 2) (v := ?v2) rfl (by kernel_rfl) (by kernel_rfl) (by kernel_rfl) (by kernel_rfl) (fun _ _ _ h => h) (Or.inl ⟨by rfl, fun w1 hSw => ?hy2⟩) (.inr HSD.out) ?rest2
  case hy2 =>
    go_simp
    try with_reducible rfl
  change wpAnyK _ _ _ _ _ _ _ _ (Act.put _ (some 36) _) _
  try simp only [Act.put, List.setIfInBounds_toArray, List.set_cons_zero, List.set_cons_succ]
  refine wpAnyK_take (i := 3) (v := .int .i64 f) rfl (by kernel_rfl) (by kernel_rfl) (by kernel_rfl) (by kernel_rfl) (fun _ _ _ h => h) (Or.inl ⟨by rfl, fun w1 hSw => ?hy3⟩) HSD.out ?rest3
  case hy3 =>
    have s1 := hSw.2.1
    clear hSw
    try dsimp only at s1
    go_simp
    try with_reducible rfl
  change wpAnyK _ _ _ _ _ _ _ _ (Act.put _ (some 37) _) _
  try simp only [Act.put, List.setIfInBounds_toArray, List.set_cons_zero, List.set_cons_succ]
  refine wpAnyK_takeP (i := 4) (v := ?v4) rfl (by kernel_rfl) (by kernel_rfl) (by kernel_rfl) (by kernel_rfl) (fun _ _ _ h => h) (Or.inl ⟨by rfl, fun w1 hSw => ?hy4⟩) (.inr HSD.out) ?rest4
  case hy4 =>
    go_simp
    try with_reducible rfl
  change wpAnyK _ _ _ _ _ _ _ _ (Act.put _ (some 38) _) _
  try simp only [Act.put, List.setIfInBounds_toArray, List.set_cons_zero, List.set_cons_succ]
  refine wpAnyK_takeP (i := 5) (v := ?v5) rfl (by kernel_rfl) (by kernel_rfl) (by kernel_rfl) (by kernel_rfl) (fun _ _ _ h => h) (Or.inl ⟨by rfl, fun w1 hSw => ?hy5⟩) (.inr HSD.out) ?rest5
  case hy5 =>
    go_simp
    try with_reducible rfl
  change wpAnyK _ _ _ _ _ _ _ _ (Act.put _ (some 39) _) _
  try simp only [Act.put, List.setIfInBounds_toArray, List.set_cons_zero, List.set_cons_succ]
  refine wpAnyK_takeP (i := 6) (v := ?v6) rfl (by kernel_rfl) (by kernel_rfl) (by kernel_rfl) (by kernel_rfl) (fun _ _ _ h => h) (Or.inl ⟨by rfl, fun w1 hSw => ?hy6⟩) (.inr HSD.out) ?rest6
  case hy6 =>
    go_simp
    try with_reducible rfl
  change wpAnyK _ _ _ _ _ _ _ _ (Act.put _ (some 40) _) _
  try simp only [Act.put, List.setIfInBounds_toArray, List.set_cons_zero, List.set_cons_succ]
  refine wpAnyK_take (i := 7) (v := .slice (some ⟨ab, 0, none⟩) size size) rfl (by kernel_rfl) (by kernel_rfl) (by kernel_rfl) (by kernel_rfl) (fun _ _ _ h => h) (Or.inl ⟨by rfl, fun w1 hSw => ?hy7⟩) HSD.out ?rest7
  case hy7 =>
    have s1 := hSw.1
    clear hSw
    try dsimp only at s1
    go_simp
    try with_reducible rfl
  change wpAnyK _ _ _ _ _ _ _ _ (Act.put _ (some 41) _) _
  try simp only [Act.put, List.setIfInBounds_toArray, List.set_cons_zero, List.set_cons_succ]
  refine wpAnyK_takeP (i := 8) (v := ?v8) rfl (by kernel_rfl) (by kernel_rfl) (by kernel_rfl) (by kernel_rfl) (fun _ _ _ h => h) (Or.inl ⟨by rfl, fun w1 hSw => ?hy8⟩) (.inr HSD.out) ?rest8
  case hy8 =>
    go_simp
    try with_reducible rfl
  change wpAnyK _ _ _ _ _ _ _ _ (Act.put _ (some 42) _) _
  try simp only [Act.put, List.setIfInBounds_toArray, List.set_cons_zero, List.set_cons_succ]
  refine wpAnyK_takeP (i := 9) (v := ?v9) rfl (by kernel_rfl) (by kernel_rfl) (by kernel_rfl) (by kernel_rfl) (fun _ _ _ h => h) (Or.inl ⟨by rfl, fun w1 hSw => ?hy9⟩) (.inr HSD.out) ?rest9
  case hy9 =>
    go_simp
    try with_reducible rfl
  change wpAnyK _ _ _ _ _ _ _ _ (Act.put _ (some 43) _) _
  try simp only [Act.put, List.setIfInBounds_toArray, List.set_cons_zero, List.set_cons_succ]
  refine wpAnyK_takeP (i := 10) (v := ?v10) rfl (by kernel_rfl) (by kernel_rfl) (by kernel_rfl) (by kernel_rfl) (fun _ _ _ h => h) (Or.inl ⟨by rfl, fun w1 hSw => ?hy10⟩) (.inr HSD.out) ?rest10
  case hy10 =>
    go_simp
    try with_reducible rfl
  change wpAnyK _ _ _ _ _ _ _ _ (Act.put _ (some 44) _) _
  try simp only [Act.put, List.setIfInBounds_toArray, List.set_cons_zero, List.set_cons_succ]
  refine wpAnyK_take (i := 11) (v := .int .i64 f) rfl (by kernel_rfl) (by kernel_rfl) (by kernel_rfl) (by kernel_rfl) (fun _ _ _ h => h) (Or.inl ⟨by rfl, fun w1 hSw => ?hy11⟩) HSD.out ?rest11
  case hy11 =>
    have s1 := hSw.2.1
    clear hSw
    try dsimp only at s1
    go_simp
    try with_reducible rfl
  change wpAnyK _ _ _ _ _ _ _ _ (Act.put _ (some 45) _) _
  try simp only [Act.put, List.setIfInBounds_toArray, List.set_cons_zero, List.set_cons_succ]
  refine wpAnyK_takeP (i := 12) (v := ?v12) rfl (by kernel_rfl) (by kernel_rfl) (by kernel_rfl) (by kernel_rfl) (fun _ _ _ h => h) (Or.inl ⟨by rfl, fun w1 hSw => ?hy12⟩) (.inr HSD.out) ?rest12
  case hy12 =>
    go_simp
    try with_reducible rfl
  change wpAnyK _ _ _ _ _ _ _ _ (Act.put _ (some 46) _) _
  try simp only [Act.put, List.setIfInBounds_toArray, List.set_cons_zero, List.set_cons_succ]
  refine wpAnyK_takeP (i := 13) (v := ?v13) rfl (by kernel_rfl) (by kernel_rfl) (by kernel_rfl) (by kernel_rfl) (fun _ _ _ h => h) (Or.inl ⟨by rfl, fun w1 hSw => ?hy13⟩) (.inr HSD.out) ?rest13
  case hy13 =>
    go_simp
    try with_reducible rfl
  change wpAnyK _ _ _ _ _ _ _ _ (Act.put _ (some 47) _) _
  try simp only [Act.put, List.setIfInBounds_toArray, List.set_cons_zero, List.set_cons_succ]
  refine wpAnyK_takeP (i := 14) (v := ?v14) rfl (by kernel_rfl) (by kernel_rfl) (by kernel_rfl) (by kernel_rfl) (fun _ _ _ h => h) (Or.inl ⟨by rfl, fun w1 hSw => ?hy14⟩) (.inr HSD.out) ?rest14
  case hy14 =>
    go_simp
    try with_reducible rfl
  change wpAnyK _ _ _ _ _ _ _ _ (Act.put _ (some 48) _) _
  try simp only [Act.put, List.setIfInBounds_toArray, List.set_cons_zero, List.set_cons_succ]
  refine wpAnyK_take (i := 15) (v := .int .i64 u) rfl (by kernel_rfl) (by kernel_rfl) (by kernel_rfl) (by kernel_rfl) (fun _ _ _ h => h) (Or.inl ⟨by rfl, fun w1 hSw => ?hy15⟩) HSD.out ?rest15
  case hy15 =>
    have s1 := hSw.2.2
    clear hSw
    try dsimp only at s1
    go_simp
    try with_reducible rfl
  change wpAnyK _ _ _ _ _ _ _ _ (Act.put _ (some 49) _) _
  try simp only [Act.put, List.setIfInBounds_toArray, List.set_cons_zero, List.set_cons_succ]
  refine wpAnyK_takeP (i := 16) (v := ?v16) rfl (by kernel_rfl) (by kernel_rfl) (by kernel_rfl) (by kernel_rfl) (fun _ _ _ h => h) (Or.inl ⟨by rfl, fun w1 hSw => ?hy16⟩) (.inr HSD.out) ?rest16
  case hy16 =>
    go_simp
    try with_reducible rfl
  change wpAnyK _ _ _ _ _ _ _ _ (Act.put _ (some 50) _) _
  try simp only [Act.put, List.setIfInBounds_toArray, List.set_cons_zero, List.set_cons_succ]
  refine wpAnyK_takeP (i := 17) (v := ?v17) rfl (by kernel_rfl) (by kernel_rfl) (by kernel_rfl) (by kernel_rfl) (fun _ _ _ h => h) (Or.inl ⟨by rfl, fun w1 hSw => ?hy17⟩) (.inr HSD.out) ?rest17
  case hy17 =>
    go_simp
    try with_reducible rfl
  change wpAnyK _ _ _ _ _ _ _ _ (Act.put _ (some 51) _) _
  try simp only [Act.put, List.setIfInBounds_toArray, List.set_cons_zero, List.set_cons_succ]
  refine wpAnyK_only (i := 18) (by kernel_rfl) rfl (fun K hK => ?_)
  refine step_copy_k rfl (.tmp 50) (.tmp 51) _ _ rfl 9 1 Tryz.underlying38 str_size (bh (some ⟨ab, 0, none⟩) size f) X (u - f) (size - f) m d (by simp [Act.eval, Act.put]) (by simp [Act.eval, Act.put]) ab f 9 _ HBK.out (sv l) m (by show m = min m (u - f); omega) (by rw [HLL.out, Nat.mul_one]) (fun h0 => ⟨bh_at h0 (by have := HCT1.out; omega), sl_src HX1.out (by rw [HLL.out]; exact h0)⟩) (by rw [HLL.out, HLN.out]; have := HCT1.out; omega) (sv_one _) ?_
  intro w4 hn4 hg4
  rw [HF.out] at hn4
  have hc4 : Chg (one ab) w1 w4 := chg_via (S := one ab) (w1 := w1.drew) ((Below.refl _ w1).drew) hg4 rfl
  have HSX : Hid ((fun W : World => W.cell? ⟨g, 2, none⟩ = some (.slice (some ⟨ab, 0, none⟩) size size) ∧ W.cell? ⟨g, 3, none⟩ = some (.int .i64 f) ∧ W.cell? ⟨g, 4, none⟩ = some (.int .i64 u)) w4) := Lib.hid ⟨hc4.cell g2 (fun e => HG.out e), hc4.cell g3 (fun e => HG.out e), hc4.cell g4 (fun e => HG.out e)⟩
  have HN4 := Lib.hid hn4
  have HD4 := Lib.hid (HHD.out.chg hc4 (fun e => HG.out e))
  have HC4 := Lib.hid hc4
  clear hn4 hg4 hc4
  refine hK.out _ _ (.inr HSX.out) ?_
  clear hK K
  change wpAnyK _ _ _ _ _ _ _ _ (Act.put _ (some 52) _) _
  try simp only [Act.put, List.setIfInBounds_toArray, List.set_cons_zero, List.set_cons_succ]
  have e2 : IntKind.i64.wrap ((f : Int) + (m : Int)) = ((f + m : Nat) : Int) := by rw [IntWalk.i64_in _ (by omega)]; omega
  refine wpAnyK_only (i := 19) (by kernel_rfl) rfl (fun K hK => ?_)
  go_simp
  refine hK.out _ _ (.inr HSX.out) ?_
  clear hK K
  try simp only [Act.put, List.setIfInBounds_toArray, List.set_cons_zero, List.set_cons_succ]
  refine wpAnyK_only (i := 20) (by kernel_rfl) rfl (fun K hK => ?_)
  go_simp
  refine hK.out _ _ (.inr HSX.out) ?_
  clear hK K
  try simp only [Act.put, List.setIfInBounds_toArray, List.set_cons_zero, List.set_cons_succ]
  refine wpAnyK_only (i := 21) (by kernel_rfl) rfl (fun K hK => ?_)
  go_simp
  refine hK.out _ _ (.inr HSX.out) ?_
  clear hK K
  try simp only [Act.put, List.setIfInBounds_toArray, List.set_cons_zero, List.set_cons_succ]
  refine wpAnyK_only (i := 22) (by kernel_rfl) rfl (fun K hK => ?_)
  have z2 := HSX.out.2.1
  have z3 := HD4.out.frozen 3
  try dsimp only at z2
  go_simp
  refine hK.out _ _ (.inl (by kernel_rfl)) ?_
  clear hK K
  try simp only [Act.put, List.setIfInBounds_toArray, List.set_cons_zero, List.set_cons_succ]
  refine wpAnyK_done (by kernel_rfl) ?_ _
  go_end0
  have hh := HD4.out.set_ 3 (.int .i64 ((f + m : Nat) : Int))
  have hlp : (p ++ l).length = f + m := by rw [List.length_append, HFP.out, ← HM.out]
  refine ⟨rfl, (some ⟨ab, 0, none⟩), size, size, u, ⟨by rw [hlp]; exact hh, rfl, by rw [hlp]; omega, HTN1.out, Nat.le_refl _, ?_, hs2, H1.out.m1, hm4, H1.out.lo, ?_⟩, ?_, fun k hk => .inr (by have e : ab = k := (by simpa [blk] using hk); omega)⟩
  · refine .inr ⟨ab, (([] : List Value)), rfl, hn11, HCT1.out, ?_, hlo⟩
    have hk := HN4.out
    rw [HLL.out, ← sv_append] at hk
    rw [hlp, show u - (f + m) = u - f - m by omega]
    exact hk.chg ((Chg.refl (one g) w4).setCell (p := ⟨g, 3, none⟩) (.inl rfl) _) (fun e => HG.out (by have e' : ab = g := e; exact e'.symm))
  · intro c hc
    simp only [List.mem_append] at hc
    rcases hc with (hc | hc) | hc
    · exact H1.out.is c (by simp [hc])
    · exact HC.out c hc
    · exact H1.out.is c (by simp [hc])
  · exact ((HC1.out.mono (S' := GpOwn g A) (fun j hj => .inl (.inl hj))).trans (HC4.out) (fun j hj => .inr (by have e : j = ab := hj; omega))).setCell (p := ⟨g, 3, none⟩) (.inl (.inl rfl)) _
end Go.Proofs.YtfhfhjcdeeepbaaGreatDoor
