/-
  Walk: next.
-/
import Derived.Test.YtdodogehlnchlaaLyBef
namespace Go.Proofs.Ytdodogehlnchlaa
open Go.RowKit Go.Shelf Go.Sort
attribute [local go_sem] Oper.semAt_some
set_option linter.unusedVariables false
set_option linter.unusedSimpArgs false

section
variable {F : Fence} {n : Nat} {P : Program} {ops : Array Oper} {C : World → Prop}
/-- A guarded call that is wanted, inside a fence that lets every function be called. -/
theorem wpQuietIn_callG {o : Oper} {rest : List Oper} {a : Act} {Q : Act → Prop} (hw : Region.wanted o (yielded ops a.tmps) = true) (hF : ∀ f, F.fn f) (f : FuncId) (xs : Array Operand) (ts : Array TypeId)
    (ho : o.op = .call { callee := .value (.func f), args := xs, argTypes := ts }) (eg : ∀ args w, (callFunc f args).run P w = .ok (.enter f args) w) (args : Array Value) (ha : xs.map a.eval = args) (v : Value)
    (hd : F.depth.isSome = true → 1 ≤ n) (hc : ∀ w, C w → CallsIn F (n - 1) P f args w fun e w'' => e = .returned v ∧ C w'') (h : wpQuietIn F n P ops C Q rest (a.put o.dst v)) : wpQuietIn F n P ops C Q (o :: rest) a := by
  refine wpQuietIn_step (fun w _ f _ => hF f) (fun K hK => ?_)
  rw [if_pos hw]
  refine ⟨v, fun w hw => ?_, hK _ h⟩
  have hrun : (execOp a.eval o).run P w = .ok (.enter f args) w := by
    unfold execOp
    subst ha
    simp [ho, resolve, invoke, Act.eval, Deferred.ofValue, eg]
  unfold Oper.quietAtIn
  rw [hrun]
  exact ⟨rfl, hd, hc w hw⟩
/-- Is this a call? -/
theorem at_callQ {rest : List Oper} {a : Act} {Q : Act → Prop} {d : Option Tmp} {c : Call} {ty : TypeId} {pos : String} {af : Array Edge} {gd : Option (Nat × Bool)} (h : wpQuietIn F n P ops C Q (⟨d, .call c, ty, pos, af, gd⟩ :: rest) a) : wpQuietIn F n P ops C Q (⟨d, .call c, ty, pos, af, gd⟩ :: rest) a := h
end

set_option maxRecDepth 100000 in
set_option maxHeartbeats 8000000 in
theorem next_any (B n : Nat) (σ : Sts) (w : World) (hn : n ≤ 64) (hS : Blk w B 62 (slB σ n)) (hbd : ∀ i, i < n → kpO σ i = true → SlBd (σ i)) :
    Calls Try.prog 47 #[.slice (some ⟨B, 0, none⟩) n n] w fun e w' => e = .returned (.pointer (oA B (nxt σ n))) ∧ Below w.heap.size w w' := by
  have z0 := (Boxed.new w 78 (.pointer none)).alloc (.cells #[.slice (some ⟨B, 0, none⟩) n n] 56)
  have z3 := Boxed.new (w.alloc (.cells #[.pointer none] 78)) 56 (.slice (some ⟨B, 0, none⟩) n n)
  simp only [World.size_alloc] at z3
  have hb : Below w.heap.size w ((w.alloc (.cells #[.pointer none] 78)).alloc (.cells #[.slice (some ⟨B, 0, none⟩) n n] 56)) :=
    ((Below.refl _ w).alloc (Nat.le_refl _) _).alloc (by simp) _
  have hs4 : ((w.alloc (.cells #[.pointer none] 78)).alloc (.cells #[.slice (some ⟨B, 0, none⟩) n n] 56)).heap.size = w.heap.size + 2 := by simp
  have hBl : B < w.heap.size := hS.lt
  have HS := Lib.hid hS
  have HBD := Lib.hid hbd
  clear hS hbd
  generalize hvr : nxt σ n = vr
  have HVR := Lib.hid hvr
  clear hvr
  refine (callsIn_wide (n := 9)).1 ?_
  refine callsIn_of_wp_marks Try.func47 rfl trivial ?_ rfl
  simp only [Try.ntmps47, List.size_toArray, List.length_cons, List.length_nil, Nat.reduceAdd, Nat.reduceSub, Array.replicate_succ, Array.replicate_zero, List.push_toArray, List.append_toArray, List.nil_append, List.cons_append]
  refine wpIn_wide.2 ?_
  go_wp2_with (go_at_call 39; refine (kept_any _ _ _ _).mono ?_; rintro e w' ⟨rfl, rfl⟩)
  generalize hX1 : ((w.alloc (.cells #[.pointer none] 78)).alloc (.cells #[.slice (some ⟨B, 0, none⟩) n n] 56)) = X1 at *
  clear hX1
  have HB := Lib.hid hb
  refine (wpIn_wide (n := 9)).1 ?_
  refine range_q rfl (by omega) (gf := 46) (lb := #[.pointer (some ⟨w.heap.size + 1, 0, none⟩)]) rfl trivial (enters_of Try.func46 (by kernel_rfl) rfl)
    (kept_stops B n (kpO σ) 6 (w.heap.size + 1) X1 hn z3 (fun k => k = w.heap.size + 1) rfl)
    (Nat.le_refl _) (fun k hk => ⟨by omega, rfl⟩) (fun _ => rfl)
    (fun pre f W => DrB w.heap.size B n (kpO σ) (nxL σ pre) W ∧ Below w.heap.size w W)
    (fun _ _ _ _ => False)
    (fun pre f W h => RdK.blk (HS.out.below h.2 hBl))
    (AbP.and (DrB.ab (by omega)) (AbP.below (by omega) (Nat.le_refl _)))
    (fun _ => AbP.none _)
    ⟨⟨z0, by simp [nxL]⟩, hb⟩
    ?a1 ?assign ?body ?done ?stop
  case assign =>
    intro l x W K hK
    simp only [encK]
    rw [put_one1]
    gi_wp2
    exact hK
  case body =>
    rintro lo' pre x f W hff hz ⟨hB, hbW⟩ hlen hel
    have hSW := HS.out.below hbW hBl
    have hcx : W.cell? ⟨B, x * 7 + 6, none⟩ = some (.int .i64 (σ x).sz) := by rw [hSW.cell, slB_get hel.1 (by omega)]; rfl
    have hcm : W.cell? ⟨B, x * 7 + 1, none⟩ = some (.int .i64 (σ x).p.mx) := by rw [hSW.cell, slB_get hel.1 (by omega)]; rfl
    have hcw : W.cell? ⟨B, x * 7 + 2, none⟩ = some (.int .i64 (σ x).p.wt) := by rw [hSW.cell, slB_get hel.1 (by omega)]; rfl
    have HQ : Hid (nxL σ (pre ++ [x]) = nxF σ (nxL σ pre) x) := nxL_snoc σ pre x
    have hlt := hB.lt
    have k1 := cell_regrown hB.b0.cell
    have k3 := cell_regrown hcx
    have k4 := cell_regrown hcm
    have k5 := cell_regrown hcw
    have hnf : ∀ k, w.heap.size ≤ k → k < w.heap.size + 1 → ¬ f k := fun k h1 h2 hk => by
      rcases hff _ hk with h' | h' <;> omega
    have HBB := Lib.hid hB
    have HBW := Lib.hid hbW
    have HNF := Lib.hid hnf
    have HFF := Lib.hid hff
    have HZ := Lib.hid hz
    have HEL : Hid (x < n ∧ kpO σ x = true) := hel
    have HSW := Lib.hid hSW
    have endR : ∀ (dq : Nat) (osq : Array Obj), Rk X1.heap.size f W (grow (redrawn W dq) osq) ∧ Below w.heap.size w (grow (redrawn W dq) osq) ∧ Boxed (grow (redrawn W dq) osq) w.heap.size 78 (.pointer (oA B (nxL σ pre))) := fun dq osq => by
      have hbx := below_regrown W dq osq
      refine ⟨Rk.of_below hbx (fun k hk => by
        have hz := HZ.out
        rcases HFF.out k hk with h' | h' <;> omega), HBW.out.trans (hbx.mono HBW.out.size), (hbx.block _ (Boxed.lt HBB.out.b0)).trans HBB.out.b0⟩
    have ENDR := Lib.hid endR
    have HLT := Lib.hid hlt
    have HELG : Hid (elg (σ x) = (decide ((σ x).sz < (σ x).p.mx) && decide (0 < (σ x).p.wt))) := rfl
    clear hB hbW hnf hff hcx hcm hcw hel z0 z3 hb hz endR hSW hlt
    have hb1 := (HBD.out x HEL.out.1 HEL.out.2).f
    have hb2 := (HBD.out x HEL.out.1 HEL.out.2).d
    obtain ⟨sx, e1⟩ : ∃ s, (σ x).sz = s := ⟨_, rfl⟩
    obtain ⟨mx, e2⟩ : ∃ s, (σ x).p.mx = s := ⟨_, rfl⟩
    obtain ⟨wx, e3⟩ : ∃ s, (σ x).p.wt = s := ⟨_, rfl⟩
    rw [e1] at k3 HELG hb1
    rw [e2] at k4 HELG hb1
    rw [e3] at k5 HELG hb2
    clear e1 e2 e3
    obtain ⟨o, ho⟩ : ∃ o, nxL σ pre = o := ⟨_, rfl⟩
    have HO := Lib.hid ho
    clear ho
    by_cases h1 : sx < mx
    · by_cases h2 : 0 < wx
      · have helg : elg (σ x) = true := by rw [HELG.out]; simp [h1, h2]
        have HEL1 := Lib.hid helg
        clear helg HELG hb1 hb2
        cases o with
        | none =>
          rw [HO.out] at k1 ENDR
          simp only [oA, Option.map] at k1 ENDR
          gi_wp2_with (fail)
          refine wpIn_region_below_tail 26 (by kernel_rfl) (by kernel_rfl) (by kernel_rfl) ?_
          simp only [List.take_succ_cons, List.take_zero, List.drop_succ_cons, List.drop_zero]
          repeat (first
                | ((with_reducible refine at_callQ ?_); refine Go.BigFrame.wpQuietIn_skip (fun _ _ _ _ => trivial) rfl ?_)
                | gi_big_quiet_step (fail)
                | quiet_step_in (fail))
          refine wpQuietIn_nil ?_
          intro _ hw'
          obtain ⟨⟨dq, osq⟩, hw''⟩ := hw'
          subst hw''
          obtain ⟨hkp, hbw2, z1⟩ := ENDR.out dq osq
          clear k1 k3 k4 k5
          generalize grow (redrawn W dq) osq = W2 at *
          have r1 := Boxed.cell z1
          have fr1 := Boxed.frozen z1
          have Z1 := Lib.hid z1
          have HBW2 := Lib.hid hbw2
          have HKP := Lib.hid hkp
          clear z1 hbw2 hkp
          gi_wp2
          have e : nxF σ (nxL σ pre) x = some x := by simp [nxF, HEL1.out, HO.out]
          refine ⟨HKP.out.setCell (HNF.out _ (by omega) (by omega)) _, ⟨?_, ?_⟩, HBW2.out.setCell (p := ⟨w.heap.size, 0, none⟩) (by simp) _⟩
          · rw [HQ.out, e]; exact Boxed.set _ Z1.out
          · rw [HQ.out, e]; intro j hj; injection hj with hj; subst hj; exact HEL.out


        | some j =>
          obtain ⟨hj1, hj2⟩ := HLT.out j HO.out
          obtain ⟨vb, hvb⟩ : ∃ v, bef (σ x) (σ j) = v := ⟨_, rfl⟩
          have HC : Hid (∀ d os, CallsIn (Fence.wide.inRound lo') (9 - 1 - 1 - 1) Try.prog 48 #[.pointer (some ⟨B, x * 7, none⟩), .pointer (some ⟨B, j * 7, none⟩)] (grow (redrawn W d) os) fun e w'' => e = .returned (.bool vb) ∧ ∃ p : Regrown, w'' = grow (redrawn W p.d) p.os) :=
            Lib.hid (fun d os => CallsIn.inRound lo' (callsIn_wide.2 (Calls.regrown_of (by
              have := before_any B n σ (grow (redrawn W d) os) (HSW.out.below (below_regrown W d os) HSW.out.lt) x j HEL.out.1 hj1 (HBD.out x HEL.out.1 HEL.out.2) (HBD.out j hj1 hj2)
              rw [hvb] at this
              exact this))))
          have HVB := Lib.hid hvb
          rw [HO.out] at k1
          simp only [oA, Option.map] at k1
          clear hvb
          cases vb with
          | true =>
            gi_wp2_with (fail)
            refine wpIn_region_below_tail 26 (by kernel_rfl) (by kernel_rfl) (by kernel_rfl) ?_
            simp only [List.take_succ_cons, List.take_zero, List.drop_succ_cons, List.drop_zero]
            repeat (first
                  | (refine wpQuietIn_callG rfl (fun _ => trivial) 48 _ _ rfl (enters_of Try.func48 (by kernel_rfl) rfl) #[.pointer (some ⟨B, x * 7, none⟩), .pointer (some ⟨B, j * 7, none⟩)] (by simp [Act.eval, Act.put]) (.bool true) (fun _ => by decide) (by rintro W2 ⟨p, rfl⟩; exact HC.out _ _) ?_)
                  | gi_big_quiet_step (fail)
                  | quiet_step_in (fail))
            refine wpQuietIn_nil ?_
            intro _ hw'
            obtain ⟨⟨dq, osq⟩, hw''⟩ := hw'
            subst hw''
            obtain ⟨hkp, hbw2, z1⟩ := ENDR.out dq osq
            clear k1 k3 k4 k5
            generalize grow (redrawn W dq) osq = W2 at *
            have r1 := Boxed.cell z1
            have fr1 := Boxed.frozen z1
            have Z1 := Lib.hid z1
            have HBW2 := Lib.hid hbw2
            have HKP := Lib.hid hkp
            clear z1 hbw2 hkp
            gi_wp2
            have e : nxF σ (nxL σ pre) x = some x := by simp [nxF, HEL1.out, HO.out, HVB.out]
            refine ⟨HKP.out.setCell (HNF.out _ (by omega) (by omega)) _, ⟨?_, ?_⟩, HBW2.out.setCell (p := ⟨w.heap.size, 0, none⟩) (by simp) _⟩
            · rw [HQ.out, e]; exact Boxed.set _ Z1.out
            · rw [HQ.out, e]; intro j hj; injection hj with hj; subst hj; exact HEL.out

          | false =>
            gi_wp2_with (fail)
            refine wpIn_region_below_tail 26 (by kernel_rfl) (by kernel_rfl) (by kernel_rfl) ?_
            simp only [List.take_succ_cons, List.take_zero, List.drop_succ_cons, List.drop_zero]
            repeat (first
                  | (refine wpQuietIn_callG rfl (fun _ => trivial) 48 _ _ rfl (enters_of Try.func48 (by kernel_rfl) rfl) #[.pointer (some ⟨B, x * 7, none⟩), .pointer (some ⟨B, j * 7, none⟩)] (by simp [Act.eval, Act.put]) (.bool false) (fun _ => by decide) (by rintro W2 ⟨p, rfl⟩; exact HC.out _ _) ?_)
                  | gi_big_quiet_step (fail)
                  | quiet_step_in (fail))
            refine wpQuietIn_nil ?_
            intro _ hw'
            obtain ⟨⟨dq, osq⟩, hw''⟩ := hw'
            subst hw''
            obtain ⟨hkp, hbw2, z1⟩ := ENDR.out dq osq
            clear k1 k3 k4 k5
            generalize grow (redrawn W dq) osq = W2 at *
            have Z1 := Lib.hid z1
            have HBW2 := Lib.hid hbw2
            have HKP := Lib.hid hkp
            clear z1 hbw2 hkp
            gi_wp2
            have e : nxF σ (nxL σ pre) x = nxL σ pre := by rw [HO.out]; simp [nxF, HEL1.out, HVB.out]
            refine ⟨HKP.out, ⟨?_, ?_⟩, HBW2.out⟩
            · rw [HQ.out, e]; exact Z1.out
            · rw [HQ.out, e]; exact HLT.out

      · have helg : elg (σ x) = false := by rw [HELG.out]; simp [h2]
        have HEL1 := Lib.hid helg
        clear helg HELG
        obtain rfl : wx = 0 := by omega
        clear hb1 hb2 h2
        gi_wp2_with (fail)
        refine wpIn_region_below_tail 26 (by kernel_rfl) (by kernel_rfl) (by kernel_rfl) ?_
        simp only [List.take_succ_cons, List.take_zero, List.drop_succ_cons, List.drop_zero]
        repeat (first
              | ((with_reducible refine at_callQ ?_); refine Go.BigFrame.wpQuietIn_skip (fun _ _ _ _ => trivial) rfl ?_)
              | gi_big_quiet_step (fail)
              | quiet_step_in (fail))
        refine wpQuietIn_nil ?_
        intro _ hw'
        obtain ⟨⟨dq, osq⟩, hw''⟩ := hw'
        subst hw''
        obtain ⟨hkp, hbw2, z1⟩ := ENDR.out dq osq
        clear k1 k3 k4 k5
        generalize grow (redrawn W dq) osq = W2 at *
        have Z1 := Lib.hid z1
        have HBW2 := Lib.hid hbw2
        have HKP := Lib.hid hkp
        clear z1 hbw2 hkp
        gi_wp2
        have e : nxF σ (nxL σ pre) x = nxL σ pre := by simp [nxF, HEL1.out]
        refine ⟨HKP.out, ⟨?_, ?_⟩, HBW2.out⟩
        · rw [HQ.out, e]; exact Z1.out
        · rw [HQ.out, e]; exact HLT.out


    · have helg : elg (σ x) = false := by rw [HELG.out]; simp [h1]
      have HEL1 := Lib.hid helg
      clear helg HELG
      obtain rfl : sx = mx := by omega
      clear hb1 hb2 h1
      gi_wp2_with (fail)
      refine wpIn_region_below_tail 26 (by kernel_rfl) (by kernel_rfl) (by kernel_rfl) ?_
      simp only [List.take_succ_cons, List.take_zero, List.drop_succ_cons, List.drop_zero]
      repeat (first
            | ((with_reducible refine at_callQ ?_); refine Go.BigFrame.wpQuietIn_skip (fun _ _ _ _ => trivial) rfl ?_)
            | gi_big_quiet_step (fail)
            | quiet_step_in (fail))
      refine wpQuietIn_nil ?_
      intro _ hw'
      obtain ⟨⟨dq, osq⟩, hw''⟩ := hw'
      subst hw''
      obtain ⟨hkp, hbw2, z1⟩ := ENDR.out dq osq
      clear k1 k3 k4 k5
      generalize grow (redrawn W dq) osq = W2 at *
      have Z1 := Lib.hid z1
      have HBW2 := Lib.hid hbw2
      have HKP := Lib.hid hkp
      clear z1 hbw2 hkp
      gi_wp2
      have e : nxF σ (nxL σ pre) x = nxL σ pre := by simp [nxF, HEL1.out]
      refine ⟨HKP.out, ⟨?_, ?_⟩, HBW2.out⟩
      · rw [HQ.out, e]; exact Z1.out
      · rw [HQ.out, e]; exact HLT.out


  case done =>
    rintro D ys f W hD rfl ⟨hB, hbW⟩ hK
    have r1 := hB.b0.cell
    have hv : nxL σ (ki (kpO σ) n) = vr := HVR.out
    rw [hv] at r1
    have HE := Lib.hid (show Below w.heap.size w (W.putObj D (.deferred none)) from hbW.trans (belowK_b (w := w) (Nat.le_refl _) W D _ _ (by omega) hK rfl rfl))
    obtain ⟨va, hva⟩ : ∃ va, oA B vr = va := ⟨_, rfl⟩
    rw [hva] at r1
    have HVA := Lib.hid hva
    clear hva
    clear hB hbW hv z0 z3 hb
    go_wp2
    refine ⟨by simp, .inl ⟨_, _, rfl, run_takeDeferred hK, ?_⟩⟩
    exact ⟨_, results_tmp rfl _ _ _, by rw [HVA.out]; rfl, HE.out⟩
  case stop =>
    rintro D c pre f W _ _ h _
    exact h.elim
end Go.Proofs.Ytdodogehlnchlaa
