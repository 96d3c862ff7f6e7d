/-
  Walk: fitting, over any iterator of widths.
-/
import Derived.Test.YthkdedoambmfkaaWnIter
import Derived.Test.YthkdedoambmfkaaRegT
import Derived.Test.YthkdedoambmfkaaQuietB
namespace Go.Proofs.Ythkdedoambmfkaa
open Go.RowKit Go.Shelf Go.Sort
attribute [local go_sem] Oper.semAt_some
set_option linter.unusedVariables false
set_option linter.unusedSimpArgs false

/-- the widths of what an iterator has told -/
def wsn (l : List (Nat × Int)) : List Int := l.map (·.2)
theorem wsn_snoc (l : List (Nat × Int)) (x : Nat × Int) : wsn (l ++ [x]) = wsn l ++ [x.2] := by simp [wsn]
theorem wsn_length (l : List (Nat × Int)) : (wsn l).length = l.length := by simp [wsn]
theorem fit_all {R : Int} {l : List Int} (h : l = [] ∨ sm l ≤ R) : fitN R l = l.length := by
  have h1 := fit_le R l
  rcases h with rfl | h
  · rfl
  · have := (fit_iff l R l.length).2 (.inr ⟨Nat.le_refl _, by rw [List.take_length]; exact h⟩); omega
theorem fit_stop {R : Int} {p T : List Int} {x : Int} (h : p = [] ∨ sm p ≤ R) (hx : R - sm p - wd x < 0) (hT : p ++ [x] <+: T) : fitN R T = p.length := by
  obtain ⟨b, rfl⟩ := hT
  have e : p ++ [x] ++ b = p ++ x :: b := by simp
  rw [e]
  refine (fit_snoc R p x b ?_).2 hx
  refine (fit_iff _ R p.length).2 ?_
  rcases h with rfl | h
  · exact .inl rfl
  · exact .inr ⟨by simp, by rw [List.take_left]; exact h⟩
/-- within a round: the boxes of fitting -/
structure FiB (h : Nat) (R : Int) (pre : List (Nat × Int)) (W : World) : Prop where
  b0 : Boxed W h 3 (.int .i64 (R - sm (wsn pre)))
  b1 : Boxed W (h + 1) 3 (.int .i64 pre.length)
  ok : wsn pre = [] ∨ sm (wsn pre) ≤ R
theorem FiB.ab {h b : Nat} {R : Int} (hb : h + 2 ≤ b) : AbP b (fun pre (_ : Nat → Prop) W => FiB h R pre W) := fun pre f f' X Y q ht hf =>
  ⟨ht.block _ _ q.b0 (.inl (by omega)), ht.block _ _ q.b1 (.inl (by omega)), q.ok⟩
def FiX (w : World) (R : Int) (co : Code) (pre : List (Nat × Int)) (f : Nat → Prop) (W : World) : Prop :=
  co = .exit 0 ∧ ∃ p x, pre = p ++ [x] ∧ (wsn p = [] ∨ sm (wsn p) ≤ R) ∧ R - sm (wsn p) - wd x.2 < 0 ∧ Boxed W (w.heap.size + 1) 3 (.int .i64 p.length) ∧ Below w.heap.size w W
theorem FiX.ab {w : World} {R : Int} {b₀ : Nat} (h1 : w.heap.size + 2 ≤ b₀) (co : Code) : AbP b₀ (FiX w R co) := fun pre f f' X Y q ht hf => by
  obtain ⟨hc, p, x, e1, e2, e3, e5, e7⟩ := q
  exact ⟨hc, p, x, e1, e2, e3, ht.block _ _ e5 (.inl (by omega)), AbP.below (n₀ := w.heap.size) (β := Unit) (by omega) (Nat.le_refl _) () f f' X Y e7 ht hf⟩
theorem fi_end {w W : World} {D : Nat} {u : Value} (hK : W.heap[D]? = some (.deferred (some []))) (z2 : Boxed W (w.heap.size + 1) 3 u) (hc : Below w.heap.size w W) (hD : w.heap.size ≤ D) :
    Below w.heap.size w (W.putObj D (.deferred none)) := hc.trans (belowK_b (w := w) (Nat.le_refl _) W D _ _ hD hK rfl rfl)

set_option maxRecDepth 100000 in
set_option maxHeartbeats 8000000 in
theorem fitting_seq (R : Int) (hR0 : -10 ≤ R) (hR1 : R ≤ 9223372036854775807) (gf : Nat) (lb : Array Value) (w : World) (f0 : Nat → Prop) (T : List (Nat × Int)) (N : Nat) (hN : N ≤ 100000) (El : Nat × Int → Prop) (hf : ∀ k, f0 k → k < w.heap.size)
    (heg : ∀ args w, (callFunc gf args).run Try.prog w = .ok (.enter gf args) w)
    (hseq : ∀ W, Below w.heap.size w W → SeqP Fence.wide 8 Try.prog gf lb encI f0 El (fun ys => ys = T) (fun pre => pre <+: T) N W) :
    Calls Try.prog 11 #[.int .i64 R, .func (.func gf) #[] lb] w fun e w' => e = .returned (.int .i64 (fitN R (wsn T))) ∧ Below w.heap.size w w' := by
  have z1 := (Boxed.new w 3 (.int .i64 R)).alloc (.cells #[.int .i64 0] 3)
  have z2 := Boxed.new (w.alloc (.cells #[.int .i64 R] 3)) 3 (.int .i64 0)
  simp only [World.size_alloc] at z2
  have hb : Below w.heap.size w ((w.alloc (.cells #[.int .i64 R] 3)).alloc (.cells #[.int .i64 0] 3)) := ((Below.refl _ w).alloc (Nat.le_refl _) _).alloc (by simp) _
  have hsz : ((w.alloc (.cells #[.int .i64 R] 3)).alloc (.cells #[.int .i64 0] 3)).heap.size = w.heap.size + 2 := by simp
  have HSEQ := Lib.hid hseq
  have HF := Lib.hid hf
  have HEG := Lib.hid heg
  clear hseq hf heg
  refine (callsIn_wide (n := 9)).1 ?_
  refine callsIn_of_wp_marks Try.func11 rfl trivial ?_ rfl
  simp only [Try.ntmps11, List.size_toArray, List.length_cons, List.length_nil, Nat.reduceAdd, Nat.reduceSub, Array.replicate_succ, Array.replicate_zero, List.push_toArray, List.append_toArray, List.nil_append, List.cons_append]
  refine wpIn_wide.2 ?_
  go_wp2
  generalize hX1 : ((w.alloc (.cells #[.int .i64 R] 3)).alloc (.cells #[.int .i64 0] 3)) = X1 at *
  clear hX1
  have HB := Lib.hid hb
  have HZ1 := Lib.hid z1
  have HZ2 := Lib.hid z2
  refine (wpIn_wide (n := 9)).1 ?_
  refine range_priv rfl (by omega) (gf := gf) (lb := lb) rfl trivial HEG.out
    (HSEQ.out X1 hb)
    (Nat.le_refl _) (fun k hk => ⟨by have := HF.out k hk; omega, rfl⟩) (fun _ => rfl)
    (fun pre f W => FiB w.heap.size R pre W ∧ Below w.heap.size w W)
    (FiX w R)
    (AbP.and (FiB.ab (by omega)) (AbP.below (by omega) (Nat.le_refl _)))
    (FiX.ab (by omega))
    ⟨⟨by simpa [wsn, sm] using z1, z2, .inl rfl⟩, hb⟩
    ?a1 ?assign ?body ?done ?stop
  case assign =>
    intro l x W K hK
    simp only [encI]
    rw [put_two]
    gi_wp2
    exact hK
  case body =>
    rintro lo' pre x f W hff hz ⟨hB, hbW⟩ hlen hel
    have hwd := wd_ge x.2
    have hbd := sm_bd (wsn pre)
    rw [wsn_length] at hbd
    have k0 := cell_regrown hB.b0.cell
    obtain ⟨r, hr⟩ : ∃ r, R - sm (wsn pre) = r := ⟨_, rfl⟩
    rw [hr] at k0
    have hr0 : -10 ≤ r := by
      rcases hB.ok with h | h
      · rw [h] at hr; simp only [sm] at hr; omega
      · omega
    have hr1 : r ≤ 9223372036854775807 := by omega
    have hnf : ∀ k, w.heap.size ≤ k → k < w.heap.size + 2 → ¬ f k := fun k h1 h2 hk => by
      rcases hff _ hk with h' | h'
      · have := HF.out _ h'; omega
      · omega
    have HC : Hid (∀ d os, CallsIn (Fence.wide.inRound lo') (9 - 1 - 1 - 1) Try.prog 22 #[.int .i64 x.2] (grow (redrawn W d) os) fun e w'' => e = .returned (.int .i64 (wd x.2)) ∧ ∃ p : Regrown, w'' = grow (redrawn W p.d) p.os) := Lib.hid (fun d os => CallsIn.inRound lo' (callsIn_wide.2 ((columns_any x.2 _).mono (by rintro e w'' ⟨rfl, rfl⟩; exact ⟨rfl, ⟨d, os⟩, rfl⟩))))
    have HBB := Lib.hid hB
    have HBW := Lib.hid hbW
    have HR := Lib.hid hr
    have HNF := Lib.hid hnf
    have HFF := Lib.hid hff
    obtain ⟨v, hv⟩ : ∃ v, wd x.2 = v := ⟨_, rfl⟩
    have HV := Lib.hid hv
    rw [hv] at HC hwd
    clear hB hbW hr hnf hv hel hff z1 z2 hb
    gi_wp2_with (fail)
    refine wpIn_region_below_tail 4 (by kernel_rfl) (by kernel_rfl) (by kernel_rfl) ?_
    simp only [List.take_succ_cons, List.take_zero, List.drop_succ_cons, List.drop_zero]
    repeat (first
      | (refine wpQuietIn_call rfl (fun _ => trivial) 22 _ _ rfl (enters_of Try.func22 (by kernel_rfl) rfl) #[.int .i64 x.2] (by simp [Act.eval, Act.put]) (.int .i64 v) (fun _ => by decide) (by rintro W2 ⟨p, rfl⟩; exact HC.out _ _) ?_)
      | gi_big_quiet_step (fail)
      | quiet_step_in (fail))
    refine wpQuietIn_nil ?_
    intro _ hw'
    obtain ⟨⟨dq, osq⟩, hw''⟩ := hw'
    subst hw''
    have hbx := below_regrown W dq osq
    have z1 : Boxed (grow (redrawn W dq) osq) w.heap.size 3 (.int .i64 r) := by
      have h1 := (hbx.block _ (Boxed.lt HBB.out.b0)).trans HBB.out.b0
      rw [HR.out] at h1; exact h1
    have z2 : Boxed (grow (redrawn W dq) osq) (w.heap.size + 1) 3 (.int .i64 pre.length) := (hbx.block _ (Boxed.lt HBB.out.b1)).trans HBB.out.b1
    have hbw2 : Below w.heap.size w (grow (redrawn W dq) osq) := HBW.out.trans (hbx.mono HBW.out.size)
    have hkp : Rk X1.heap.size f W (grow (redrawn W dq) osq) := Rk.of_below hbx (fun k hk => by
      rcases HFF.out k hk with h' | h'
      · have := HF.out _ h'; have := Boxed.lt HBB.out.b0; omega
      · exact h'.2)
    clear k0 hbx
    generalize grow (redrawn W dq) osq = W2 at *
    have r0 := z1.cell
    have fr0 := z1.frozen
    have r1 := z2.cell
    have fr1 := z2.frozen
    have Z1 := Lib.hid z1
    have Z2 := Lib.hid z2
    have HBW2 := Lib.hid hbw2
    have HKP := Lib.hid hkp
    clear z1 z2 hbw2 hkp HC
    have HSZ := Lib.hid hsz
    clear hsz
    by_cases hlt : r - v < 0
    · have HLT := Lib.hid hlt
      gi_wp2
      refine ⟨(HKP.out.setCell (HNF.out _ (Nat.le_refl _) (by omega)) _).keeps, rfl, pre, x, rfl, HBB.out.ok, by rw [HR.out, HV.out]; exact HLT.out, Boxed.other Z2.out (B' := w.heap.size) (by omega) _, HBW2.out.setCell (p := ⟨w.heap.size, 0, none⟩) (Nat.le_refl _) _⟩
    · have HLT := Lib.hid hlt
      gi_wp2
      refine ⟨(HKP.out.setCell (HNF.out _ (Nat.le_refl _) (by omega)) _).setCell (HNF.out _ (by omega) (by omega)) _, ⟨?_, ?_, ?_⟩, (HBW2.out.setCell (p := ⟨w.heap.size, 0, none⟩) (Nat.le_refl _) _).setCell (p := ⟨w.heap.size + 1, 0, none⟩) (by simp) _⟩
      · have h1 := Boxed.other (Boxed.set (.int .i64 (r - v)) Z1.out) (B' := w.heap.size + 1) (by omega) (.int .i64 ((pre.length : Int) + 1))
        rw [wsn_snoc, sm_append]
        simp only [sm]
        rw [show R - (sm (wsn pre) + (wd x.2 + 0)) = r - v by have := HR.out; have := HV.out; omega]
        exact h1
      · have h1 := Boxed.set (.int .i64 ((pre.length : Int) + 1)) (Boxed.other Z2.out (B' := w.heap.size) (by omega) (.int .i64 (r - v)))
        rw [List.length_append, List.length_singleton, show ((pre.length + 1 : Nat) : Int) = (pre.length : Int) + 1 by omega]
        exact h1
      · right
        rw [wsn_snoc, sm_append]
        simp only [sm]
        have := HR.out; have := HV.out; have := HLT.out; omega
  case done =>
    rintro D ys f W hD rfl ⟨hB, hbW⟩ hK
    have hfit := fit_all hB.ok
    rw [wsn_length] at hfit
    have r1 := hB.b1.cell
    have HFI := Lib.hid hfit
    have HE := Lib.hid (fi_end hK hB.b1 hbW (by omega))
    clear hB hbW hfit z1 z2 hb
    go_wp2
    refine ⟨by simp, .inl ⟨_, _, rfl, run_takeDeferred hK, ?_⟩⟩
    refine ⟨.int .i64 ys.length, by simp [results, Try.f11, go_sem], ?_⟩
    exact ⟨by rw [HFI.out], HE.out⟩
  case stop =>
    rintro D co pre f W hD hpre ⟨rfl, p', x, hp, hok, hx, z2', hb2⟩ hK
    have hfit : fitN R (wsn T) = p'.length := by
      have h1 := fit_stop (T := wsn T) hok hx (by
        obtain ⟨t, ht⟩ := hpre
        rw [← ht, hp]
        simp only [wsn, List.map_append, List.map_cons, List.map_nil]
        exact ⟨_, rfl⟩)
      rw [h1, wsn_length]
    have r1 := z2'.cell
    have HFI := Lib.hid hfit
    have HE := Lib.hid (fi_end hK z2' hb2 (by omega))
    clear hp hok hx z2' hb2 hfit hpre z1 z2 hb
    gi_wp2
    go_wp2
    refine ⟨by simp, .inl ⟨_, _, rfl, run_takeDeferred hK, ?_⟩⟩
    refine ⟨.int .i64 p'.length, by simp [results, Try.f11, go_sem], ?_⟩
    exact ⟨by rw [HFI.out], HE.out⟩
end Go.Proofs.Ythkdedoambmfkaa
