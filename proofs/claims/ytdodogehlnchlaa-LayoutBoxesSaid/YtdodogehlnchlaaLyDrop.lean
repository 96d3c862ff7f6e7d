/-
  Walk: drop.
-/
import Derived.Test.YtdodogehlnchlaaLyNeed
namespace Go.Proofs.Ytdodogehlnchlaa
open Go.RowKit Go.Shelf Go.Sort
attribute [local go_sem] Oper.semAt_some
set_option linter.unusedVariables false
set_option linter.unusedSimpArgs false

theorem slot_size : (Try.prog.info? 62).map (·.size) = some 7 := by kernel_rfl
theorem slC_one (s : Slt) : ∀ v ∈ slC s, v.oneCell' = true := by
  intro v hv
  simp only [slC, List.mem_cons, List.not_mem_nil, or_false] at hv
  rcases hv with rfl | rfl | rfl | rfl | rfl | rfl | rfl <;> rfl
/-- a slot's address -/
def oA (B : Nat) (o : Option Nat) : Option Addr := o.map fun j => ⟨B, j * 7, none⟩
/-- within a round of drop -/
structure DrB (h B n : Nat) (b : Nat → Bool) (o : Option Nat) (W : World) : Prop where
  b0 : Boxed W h 78 (.pointer (oA B o))
  lt : ∀ j, o = some j → j < n ∧ b j = true
theorem DrB.ab {h b B n : Nat} {kb : Nat → Bool} {f : List Nat → Option Nat} (hb : h + 1 ≤ b) : AbP b (fun pre (_ : Nat → Prop) W => DrB h B n kb (f pre) W) := fun pre _ _ X Y q ht _ =>
  ⟨ht.block _ _ q.b0 (.inl (by omega)), q.lt⟩

set_option maxRecDepth 100000 in
set_option maxHeartbeats 8000000 in
theorem drop_any (B n : Nat) (σ : Sts) (w : World) (hn : n ≤ 64) (hS : Blk w B 62 (slB σ n)) (j₀ : Nat) (hj : lst σ n = some j₀) :
    Calls Try.prog 40 #[.slice (some ⟨B, 0, none⟩) n n] w fun e w' => (∃ v, e = .returned v) ∧ Blk w' B 62 (slB (drp σ j₀) n) ∧ Chg (one B) w w' := by
  have z0 := (Boxed.new w 78 (.pointer none)).alloc (.cells #[.slice (some ⟨B, 0, none⟩) n n] 56)
  have z3 := Boxed.new (w.alloc (.cells #[.pointer none] 78)) 56 (.slice (some ⟨B, 0, none⟩) n n)
  simp only [World.size_alloc] at z3
  have hb : Below w.heap.size w ((w.alloc (.cells #[.pointer none] 78)).alloc (.cells #[.slice (some ⟨B, 0, none⟩) n n] 56)) :=
    ((Below.refl _ w).alloc (Nat.le_refl _) _).alloc (by simp) _
  have hs4 : ((w.alloc (.cells #[.pointer none] 78)).alloc (.cells #[.slice (some ⟨B, 0, none⟩) n n] 56)).heap.size = w.heap.size + 2 := by simp
  have hBl : B < w.heap.size := hS.lt
  have HVR := Lib.hid hj
  have HS := Lib.hid hS
  clear hj hS
  refine (callsIn_wide (n := 9)).1 ?_
  refine callsIn_of_wp_marks Try.func40 rfl trivial ?_ rfl
  simp only [Try.ntmps40, List.size_toArray, List.length_cons, List.length_nil, Nat.reduceAdd, Nat.reduceSub, Array.replicate_succ, Array.replicate_zero, List.push_toArray, List.append_toArray, List.nil_append, List.cons_append]
  refine wpIn_wide.2 ?_
  go_wp2_with (go_at_call 39; refine (kept_any _ _ _ _).mono ?_; rintro e w' ⟨rfl, rfl⟩)
  generalize hX1 : ((w.alloc (.cells #[.pointer none] 78)).alloc (.cells #[.slice (some ⟨B, 0, none⟩) n n] 56)) = X1 at *
  clear hX1
  have HB := Lib.hid hb
  refine (wpIn_wide (n := 9)).1 ?_
  refine range_q rfl (by omega) (gf := 46) (lb := #[.pointer (some ⟨w.heap.size + 1, 0, none⟩)]) rfl trivial (enters_of Try.func46 (by kernel_rfl) rfl)
    (kept_stops B n (kpO σ) 6 (w.heap.size + 1) X1 hn z3 (fun k => k = w.heap.size + 1) rfl)
    (Nat.le_refl _) (fun k hk => ⟨by omega, rfl⟩) (fun _ => rfl)
    (fun pre f W => DrB w.heap.size B n (kpO σ) (lstL (keO σ) pre) W ∧ Below w.heap.size w W)
    (fun _ _ _ _ => False)
    (fun pre f W h => RdK.blk (HS.out.below h.2 hBl))
    (AbP.and (DrB.ab (by omega)) (AbP.below (by omega) (Nat.le_refl _)))
    (fun _ => AbP.none _)
    ⟨⟨z0, by simp [lstL]⟩, hb⟩
    ?a1 ?assign ?body ?done ?stop
  case assign =>
    intro l x W K hK
    simp only [encK]
    rw [put_one1]
    gi_wp2
    exact hK
  case body =>
    rintro lo' pre x f W hff hz ⟨hB, hbW⟩ hlen hel
    have hSW := HS.out.below hbW hBl
    have hcx : W.cell? ⟨B, x * 7 + 3, none⟩ = some (.int .i64 (keO σ x)) := by rw [hSW.cell, slB_get hel.1 (by omega)]; rfl
    have HQ : Hid (lstL (keO σ) (pre ++ [x]) = lsF (keO σ) (lstL (keO σ) pre) x) := lstL_snoc (keO σ) pre x
    have hlt := hB.lt
    have k1 := cell_regrown hB.b0.cell
    have k3 := cell_regrown hcx
    obtain ⟨kx, e3⟩ : ∃ s, keO σ x = s := ⟨_, rfl⟩
    have hnf : ∀ k, w.heap.size ≤ k → k < w.heap.size + 1 → ¬ f k := fun k h1 h2 hk => by
      rcases hff _ hk with h' | h' <;> omega
    have HBB := Lib.hid hB
    have HBW := Lib.hid hbW
    have HNF := Lib.hid hnf
    have HFF := Lib.hid hff
    have HZ := Lib.hid hz
    have HEL := Lib.hid hel
    have endR : ∀ (dq : Nat) (osq : Array Obj), Rk X1.heap.size f W (grow (redrawn W dq) osq) ∧ Below w.heap.size w (grow (redrawn W dq) osq) ∧ Boxed (grow (redrawn W dq) osq) w.heap.size 78 (.pointer (oA B (lstL (keO σ) pre))) := fun dq osq => by
      have hbx := below_regrown W dq osq
      refine ⟨Rk.of_below hbx (fun k hk => by
        have hz := HZ.out
        rcases HFF.out k hk with h' | h' <;> omega), HBW.out.trans (hbx.mono HBW.out.size), (hbx.block _ (Boxed.lt HBB.out.b0)).trans HBB.out.b0⟩
    have ENDR := Lib.hid endR
    clear hB hbW hnf hff hcx hel z0 z3 hb hz endR
    cases ho : lstL (keO σ) pre with
    | none =>
      rw [ho] at k1 HQ ENDR
      simp only [oA, Option.map] at k1 ENDR
      clear hSW hlt ho k3
      gi_wp2_with (fail)
      refine wpIn_region_below_tail 14 (by kernel_rfl) (by kernel_rfl) (by kernel_rfl) ?_
      simp only [List.take_succ_cons, List.take_zero, List.drop_succ_cons, List.drop_zero]
      repeat (first
        | gi_big_quiet_step (fail)
        | quiet_step_in (fail))
      refine wpQuietIn_nil ?_
      intro _ hw'
      obtain ⟨⟨dq, osq⟩, hw''⟩ := hw'
      subst hw''
      obtain ⟨hkp, hbw2, z1⟩ := ENDR.out dq osq
      clear k1
      generalize grow (redrawn W dq) osq = W2 at *
      have r1 := Boxed.cell z1
      have fr1 := Boxed.frozen z1
      have Z1 := Lib.hid z1
      have HBW2 := Lib.hid hbw2
      have HKP := Lib.hid hkp
      clear z1 hbw2 hkp
      gi_wp2
      refine ⟨HKP.out.setCell (HNF.out _ (by omega) (by omega)) _, ⟨?_, ?_⟩, HBW2.out.setCell (p := ⟨w.heap.size, 0, none⟩) (by simp) _⟩
      · rw [HQ.out]; exact Boxed.set _ Z1.out
      · rw [HQ.out]; intro j hj; injection hj with hj; subst hj; exact HEL.out
    | some j =>
      obtain ⟨hj1, hj2⟩ := hlt j ho
      have hcj : W.cell? ⟨B, j * 7 + 3, none⟩ = some (.int .i64 (keO σ j)) := by rw [hSW.cell, slB_get hj1 (by omega)]; rfl
      have k4 := cell_regrown hcj
      rw [ho] at k1 HQ ENDR
      simp only [oA, Option.map] at k1 ENDR
      obtain ⟨kj, e4⟩ : ∃ s, keO σ j = s := ⟨_, rfl⟩
      rw [e4] at k4
      rw [e3] at k3
      have HJ : Hid (j < n ∧ kpO σ j = true) := ⟨hj1, hj2⟩
      have E3 := Lib.hid e3
      have E4 := Lib.hid e4
      clear hSW hlt ho hcj e3 e4 hj2
      by_cases hle : kx ≤ kj
      · gi_wp2_with (fail)
        refine wpIn_region_below_tail 14 (by kernel_rfl) (by kernel_rfl) (by kernel_rfl) ?_
        simp only [List.take_succ_cons, List.take_zero, List.drop_succ_cons, List.drop_zero]
        repeat (first
          | gi_big_quiet_step (fail)
          | quiet_step_in (fail))
        refine wpQuietIn_nil ?_
        intro _ hw'
        obtain ⟨⟨dq, osq⟩, hw''⟩ := hw'
        subst hw''
        obtain ⟨hkp, hbw2, z1⟩ := ENDR.out dq osq
        clear k1 k3 k4
        generalize grow (redrawn W dq) osq = W2 at *
        have r1 := Boxed.cell z1
        have fr1 := Boxed.frozen z1
        have Z1 := Lib.hid z1
        have HBW2 := Lib.hid hbw2
        have HKP := Lib.hid hkp
        clear z1 hbw2 hkp
        gi_wp2
        have e : lsF (keO σ) (some j) x = some x := by simp only [lsF]; rw [E3.out, E4.out, if_pos hle]
        refine ⟨HKP.out.setCell (HNF.out _ (by omega) (by omega)) _, ⟨?_, ?_⟩, HBW2.out.setCell (p := ⟨w.heap.size, 0, none⟩) (by simp) _⟩
        · rw [HQ.out, e]; exact Boxed.set _ Z1.out
        · rw [HQ.out, e]; intro j hj; injection hj with hj; subst hj; exact HEL.out
      · gi_wp2_with (fail)
        refine wpIn_region_below_tail 14 (by kernel_rfl) (by kernel_rfl) (by kernel_rfl) ?_
        simp only [List.take_succ_cons, List.take_zero, List.drop_succ_cons, List.drop_zero]
        repeat (first
          | gi_big_quiet_step (fail)
          | quiet_step_in (fail))
        refine wpQuietIn_nil ?_
        intro _ hw'
        obtain ⟨⟨dq, osq⟩, hw''⟩ := hw'
        subst hw''
        obtain ⟨hkp, hbw2, z1⟩ := ENDR.out dq osq
        clear k1 k3 k4
        generalize grow (redrawn W dq) osq = W2 at *
        have Z1 := Lib.hid z1
        have HBW2 := Lib.hid hbw2
        have HKP := Lib.hid hkp
        clear z1 hbw2 hkp
        gi_wp2
        have e : lsF (keO σ) (some j) x = some j := by simp only [lsF]; rw [E3.out, E4.out, if_neg (by omega)]
        refine ⟨HKP.out, ⟨?_, ?_⟩, HBW2.out⟩
        · rw [HQ.out, e]; exact Z1.out
        · rw [HQ.out, e]; intro j hj; injection hj with hj; subst hj; exact HJ.out
  case done =>
    rintro D ys f W hD rfl ⟨hB, hbW⟩ hK
    have r1 := hB.b0.cell
    have hjn := hB.lt
    have hv : lstL (keO σ) (ki (kpO σ) n) = some j₀ := HVR.out
    rw [hv] at r1 hjn
    obtain ⟨hj1, _⟩ := hjn j₀ rfl
    simp only [oA, Option.map] at r1
    have hSW := HS.out.below hbW hBl
    have HSW := Lib.hid hSW
    have HBW := Lib.hid hbW
    have hfit : j₀ * 7 + (slC slZ).length ≤ (slB σ n).length := by rw [slB_len, slC_len]; omega
    have HFIT := Lib.hid hfit
    have HK := Lib.hid hK
    clear hB hbW hv z0 z3 hb hjn hSW hfit
    go_wp2_with (first
      | ((with_reducible refine at_store 25 ?_); refine wpList_store_blk rfl _ _ _ rfl rfl B (j₀ * 7) 62 (slB σ n) (slC slZ) rfl rfl HSW.out HFIT.out slot_size (slC_one slZ) ?_; intro W4 hb4 hg4))
    have hb4' : Blk W4 B 62 (slB (drp σ j₀) n) := by rw [slB_splice hj1] at hb4; exact hb4
    have HB4 := Lib.hid hb4'
    have hc4 : Chg (one B) w W4 := (Chg.of_below' HBW.out (Nat.le_refl _)).trans (chg_of_grown hg4) (fun j hj => .inl hj)
    have HC4 := Lib.hid hc4
    have hDB : D ≠ B := by omega
    have hK4 : W4.heap[D]? = some (.deferred (some [])) := (hg4.block D (Array.getElem?_eq_some_iff.1 HK.out).1 (fun e => hDB (by injection e))).trans HK.out
    clear hb4 hb4' hg4 hc4
    go_wp2
    refine ⟨by simp, .inl ⟨_, _, rfl, run_takeDeferred hK4, ?_⟩⟩
    refine ⟨_, results_none rfl _ _ _, ⟨_, rfl⟩, (World.putObj_heap_other (by omega)).trans HB4.out, ?_⟩
    exact HC4.out.trans (S' := one D) ⟨rfl, rfl, rfl, by simp, fun k _ hk => World.putObj_heap_other (fun e => hk e)⟩ (fun k hk => .inr (by rw [show k = D from hk]; omega))
  case stop =>
    rintro D c pre f W _ _ h _
    exact h.elim
end Go.Proofs.Ytdodogehlnchlaa
