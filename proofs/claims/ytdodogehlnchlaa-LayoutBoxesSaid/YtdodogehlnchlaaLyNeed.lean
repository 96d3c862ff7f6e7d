/-
  Walk: needed.
-/
import Derived.Test.YtdodogehlnchlaaLyIter
import Derived.Test.YtdodogehlnchlaaRegT
namespace Go.Proofs.Ytdodogehlnchlaa
open Go.RowKit Go.Shelf Go.Sort
attribute [local go_sem] Oper.semAt_some
set_option linter.unusedVariables false
set_option linter.unusedSimpArgs false

theorem put_one1 (a : Nat) (c : Value) (t : Array Value) : Array.foldl (fun (t : Array Value) (x : Nat × Value) => t.setIfInBounds x.1 x.2) t ((#[a] : Array Nat).zip #[c]) = t.setIfInBounds a c := by
  have e : ((#[a] : Array Nat).zip #[c]) = #[(a, c)] := by simp
  rw [e]
  rfl
theorem kpSz_bd {P : Nat → Pt} {n : Nat} {σ : Sts} (h : Inv1 P n σ) (hP : ∀ i, i < n → (P i).Ok) {i : Nat} (hi : i < n) (hk : (σ i).kp = true) : 0 ≤ (σ i).sz ∧ (σ i).sz ≤ 500 := by
  obtain ⟨_, h1, h2, _⟩ := h.y i hi hk
  have := hP i hi
  have h3 := this.a
  have h4 := this.c
  omega
/-- within a round of needed -/
structure NeB (h : Nat) (gap : Int) (f : Nat → Int) (pre : List Nat) (W : World) : Prop where
  b0 : Boxed W h 3 (.int .i64 gap)
  b1 : Boxed W (h + 1) 3 (.int .i64 (ndP gap f pre).1)
  b2 : Boxed W (h + 2) 3 (.int .i64 (ndP gap f pre).2)
  lo : 0 ≤ (ndP gap f pre).1
  hi : (ndP gap f pre).1 ≤ 509 * pre.length
  bt : 0 ≤ (ndP gap f pre).2 ∧ (ndP gap f pre).2 ≤ 9
theorem NeB.ab {h b : Nat} {gap : Int} {f : Nat → Int} (hb : h + 3 ≤ b) : AbP b (fun pre (_ : Nat → Prop) W => NeB h gap f pre W) := fun pre _ _ X Y q ht _ =>
  ⟨ht.block _ _ q.b0 (.inl (by omega)), ht.block _ _ q.b1 (.inl (by omega)), ht.block _ _ q.b2 (.inl (by omega)), q.lo, q.hi, q.bt⟩

set_option maxRecDepth 100000 in
set_option maxHeartbeats 8000000 in
theorem needed_any (gap : Int) (B n : Nat) (σ : Sts) (w : World) (hn : n ≤ 64) (hg0 : 0 ≤ gap) (hg9 : gap ≤ 9) (hS : Blk w B 62 (slB σ n)) (hsz : ∀ i, i < n → kpO σ i = true → 0 ≤ szO σ i ∧ szO σ i ≤ 500) :
    Calls Try.prog 26 #[.int .i64 gap, .slice (some ⟨B, 0, none⟩) n n] w fun e w' => e = .returned (.int .i64 (nd gap σ n)) ∧ Below w.heap.size w w' := by
  have z0 := (((Boxed.new w 3 (.int .i64 gap)).alloc (.cells #[.int .i64 0] 3)).alloc (.cells #[.int .i64 0] 3)).alloc (.cells #[.slice (some ⟨B, 0, none⟩) n n] 56)
  have z1 := ((Boxed.new (w.alloc (.cells #[.int .i64 gap] 3)) 3 (.int .i64 0)).alloc (.cells #[.int .i64 0] 3)).alloc (.cells #[.slice (some ⟨B, 0, none⟩) n n] 56)
  have z2 := (Boxed.new ((w.alloc (.cells #[.int .i64 gap] 3)).alloc (.cells #[.int .i64 0] 3)) 3 (.int .i64 0)).alloc (.cells #[.slice (some ⟨B, 0, none⟩) n n] 56)
  have z3 := Boxed.new (((w.alloc (.cells #[.int .i64 gap] 3)).alloc (.cells #[.int .i64 0] 3)).alloc (.cells #[.int .i64 0] 3)) 56 (.slice (some ⟨B, 0, none⟩) n n)
  simp only [World.size_alloc] at z1 z2 z3
  have hb : Below w.heap.size w ((((w.alloc (.cells #[.int .i64 gap] 3)).alloc (.cells #[.int .i64 0] 3)).alloc (.cells #[.int .i64 0] 3)).alloc (.cells #[.slice (some ⟨B, 0, none⟩) n n] 56)) :=
    ((((Below.refl _ w).alloc (Nat.le_refl _) _).alloc (by simp) _).alloc (by simp; omega) _).alloc (by simp; omega) _
  have hs4 : ((((w.alloc (.cells #[.int .i64 gap] 3)).alloc (.cells #[.int .i64 0] 3)).alloc (.cells #[.int .i64 0] 3)).alloc (.cells #[.slice (some ⟨B, 0, none⟩) n n] 56)).heap.size = w.heap.size + 4 := by simp
  have hBl : B < w.heap.size := hS.lt
  generalize hvr : nd gap σ n = vr
  have HVR := Lib.hid hvr
  have HS := Lib.hid hS
  have HSZ := Lib.hid hsz
  clear hvr hS hsz
  refine (callsIn_wide (n := 9)).1 ?_
  refine callsIn_of_wp_marks Try.func26 rfl trivial ?_ rfl
  simp only [Try.ntmps26, List.size_toArray, List.length_cons, List.length_nil, Nat.reduceAdd, Nat.reduceSub, Array.replicate_succ, Array.replicate_zero, List.push_toArray, List.append_toArray, List.nil_append, List.cons_append]
  refine wpIn_wide.2 ?_
  go_wp2_with (go_at_call 39; refine (kept_any _ _ _ _).mono ?_; rintro e w' ⟨rfl, rfl⟩)
  generalize hX1 : ((((w.alloc (.cells #[.int .i64 gap] 3)).alloc (.cells #[.int .i64 0] 3)).alloc (.cells #[.int .i64 0] 3)).alloc (.cells #[.slice (some ⟨B, 0, none⟩) n n] 56)) = X1 at *
  clear hX1
  have HB := Lib.hid hb
  refine (wpIn_wide (n := 9)).1 ?_
  refine range_q rfl (by omega) (gf := 46) (lb := #[.pointer (some ⟨w.heap.size + 3, 0, none⟩)]) rfl trivial (enters_of Try.func46 (by kernel_rfl) rfl)
    (kept_stops B n (kpO σ) 6 (w.heap.size + 3) X1 hn z3 (fun k => k = w.heap.size + 3) rfl)
    (Nat.le_refl _) (fun k hk => ⟨by omega, rfl⟩) (fun _ => rfl)
    (fun pre f W => NeB w.heap.size gap (szO σ) pre W ∧ Below w.heap.size w W)
    (fun _ _ _ _ => False)
    (fun pre f W h => RdK.blk (HS.out.below h.2 hBl))
    (AbP.and (NeB.ab (by omega)) (AbP.below (by omega) (Nat.le_refl _)))
    (fun _ => AbP.none _)
    ⟨⟨z0, z1, z2, by simp [ndP_nil], by simp [ndP_nil], by simp [ndP_nil]⟩, hb⟩
    ?a1 ?assign ?body ?done ?stop
  case assign =>
    intro l x W K hK
    simp only [encK]
    rw [put_one1]
    gi_wp2
    exact hK
  case body =>
    rintro lo' pre x f W hff hz ⟨hB, hbW⟩ hlen hel
    have hSW := HS.out.below hbW hBl
    have hcx : W.cell? ⟨B, x * 7 + 6, none⟩ = some (.int .i64 (szO σ x)) := by rw [hSW.cell, slB_get hel.1 (by omega)]; rfl
    have hbd := HSZ.out x hel.1 hel.2
    have h1 := hB.lo
    have h2 := hB.hi
    have h3 := hB.bt
    have k0 := cell_regrown hB.b0.cell
    have k1 := cell_regrown hB.b1.cell
    have k2 := cell_regrown hB.b2.cell
    have k3 := cell_regrown hcx
    have HQ : Hid ((ndP gap (szO σ) (pre ++ [x])) = ((ndP gap (szO σ) pre).1 + ((ndP gap (szO σ) pre).2 + szO σ x), gap)) := ndP_snoc gap (szO σ) pre x
    obtain ⟨s1, e1⟩ : ∃ s, (ndP gap (szO σ) pre).1 = s := ⟨_, rfl⟩
    obtain ⟨s2, e2⟩ : ∃ s, (ndP gap (szO σ) pre).2 = s := ⟨_, rfl⟩
    obtain ⟨s3, e3⟩ : ∃ s, szO σ x = s := ⟨_, rfl⟩
    rw [e1] at h1 h2 k1 HQ
    rw [e2] at h3 k2 HQ
    rw [e3] at hbd k3 HQ
    obtain ⟨h3a, h3b⟩ := h3
    obtain ⟨hbda, hbdb⟩ := hbd
    have hl2 : (pre.length : Int) ≤ 64 := by omega
    have hnf : ∀ k, w.heap.size ≤ k → k < w.heap.size + 3 → ¬ f k := fun k h1 h2 hk => by
      rcases hff _ hk with h' | h' <;> omega
    have HBB := Lib.hid hB
    have HBW := Lib.hid hbW
    have HNF := Lib.hid hnf
    have HFF := Lib.hid hff
    have HZ := Lib.hid hz
    clear hB hbW hnf hff hcx hSW hel z0 z1 z2 z3 hb e1 e2 e3 hz
    gi_wp2_with (fail)
    refine wpIn_region_below_tail 8 (by kernel_rfl) (by kernel_rfl) (by kernel_rfl) ?_
    simp only [List.take_succ_cons, List.take_zero, List.drop_succ_cons, List.drop_zero]
    repeat (first
      | gi_big_quiet_step (fail)
      | quiet_step_in (fail))
    refine wpQuietIn_nil ?_
    intro _ hw'
    obtain ⟨⟨dq, osq⟩, hw''⟩ := hw'
    subst hw''
    have hbx := below_regrown W dq osq
    have z0 : Boxed (grow (redrawn W dq) osq) w.heap.size 3 (.int .i64 gap) := (hbx.block _ (Boxed.lt HBB.out.b0)).trans HBB.out.b0
    have z1 := (hbx.block _ (Boxed.lt HBB.out.b1)).trans HBB.out.b1
    have z2 := (hbx.block _ (Boxed.lt HBB.out.b2)).trans HBB.out.b2
    have hbw2 : Below w.heap.size w (grow (redrawn W dq) osq) := HBW.out.trans (hbx.mono HBW.out.size)
    have hkp : Rk X1.heap.size f W (grow (redrawn W dq) osq) := Rk.of_below hbx (fun k hk => by
      have hz := HZ.out
      rcases HFF.out k hk with h' | h' <;> omega)
    clear k0 k1 k2 k3 hbx
    generalize grow (redrawn W dq) osq = W2 at *
    have r0 := Boxed.cell z0
    have r1 := Boxed.cell (v := _) z1
    have r2 := Boxed.cell (v := _) z2
    have fr1 := Boxed.frozen z1
    have fr2 := Boxed.frozen z2
    have Z0 := Lib.hid z0
    have Z1 := Lib.hid z1
    have Z2 := Lib.hid z2
    have HBW2 := Lib.hid hbw2
    have HKP := Lib.hid hkp
    have HS4 := Lib.hid hs4
    clear z0 z1 z2 hbw2 hkp hs4
    gi_wp2
    refine ⟨(HKP.out.setCell (HNF.out _ (by omega) (by omega)) _).setCell (HNF.out _ (by omega) (by omega)) _, ⟨?_, ?_, ?_, ?_, ?_, ?_⟩, (HBW2.out.setCell (p := ⟨w.heap.size + 1, 0, none⟩) (by simp) _).setCell (p := ⟨w.heap.size + 2, 0, none⟩) (by simp) _⟩
    · exact Boxed.other (Boxed.other Z0.out (B' := w.heap.size + 1) (by omega) _) (B' := w.heap.size + 2) (by omega) _
    · rw [HQ.out]
      exact Boxed.other (Boxed.set _ Z1.out) (B' := w.heap.size + 2) (by omega) _
    · rw [HQ.out]
      exact Boxed.set _ (Boxed.other Z2.out (B' := w.heap.size + 1) (by omega) _)
    · rw [HQ.out]; show 0 ≤ s1 + (s2 + s3); omega
    · rw [HQ.out, List.length_append, List.length_singleton]; show s1 + (s2 + s3) ≤ _; omega
    · rw [HQ.out]; exact ⟨hg0, hg9⟩
  case done =>
    rintro D ys f W hD rfl ⟨hB, hbW⟩ hK
    have r1 := hB.b1.cell
    have HE := Lib.hid (show Below w.heap.size w (W.putObj D (.deferred none)) from hbW.trans (belowK_b (w := w) (Nat.le_refl _) W D _ _ (by omega) hK rfl rfl))
    have hv : (ndP gap (szO σ) (ki (kpO σ) n)).1 = vr := HVR.out
    rw [hv] at r1
    clear hB hbW hv z0 z1 z2 z3 hb
    go_wp2
    refine ⟨by simp, .inl ⟨_, _, rfl, run_takeDeferred hK, ?_⟩⟩
    exact ⟨_, results_tmp rfl _ _ _, rfl, HE.out⟩
  case stop =>
    rintro D c pre f W _ _ h _
    exact h.elim
end Go.Proofs.Ytdodogehlnchlaa
