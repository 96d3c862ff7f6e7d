/-
  Walks: cluster.Fit.
-/
import Derived.Test.YtmgakdbcgdhpaaaDoorClCut
import Derived.Test.YtmgakdbcgdhpaaaDoorClFitM
import Derived.WalkSpells
import Derived.Deep.RegionHeld3
import Derived.WalkSmall
import Derived.Deep.QuietTactic
import Derived.BigQuiet
namespace Go.Proofs.YtmgakdbcgdhpaaaDoor
open Go.RowKit Go.Shelf
attribute [local go_sem] Oper.semAt_some
set_option linter.unusedVariables false

/-- what Fit holds when the loop is left -/
def FitR (most : Int) (T : List (Int × List UInt8)) : List UInt8 × Int := ((txs (T.takeWhile (okP most))).flatten, lastEnd (T.takeWhile (okP most)))
/-- What a break leaves. -/
def FitX (h : Nat) (most : Int) (c : Code) (pre : List (Int × List UInt8)) (f : Nat → Prop) (W : World) : Prop :=
  ∃ p x, c = .exit 0 ∧ pre = p ++ [x] ∧ AllOk most p ∧ okP most x = false ∧ HoldB (h + 1) h (txs p).flatten f W ∧ Boxed W (h + 1 + 1) 3 (.int .i64 (lastEnd p))

set_option maxRecDepth 100000 in
set_option maxHeartbeats 2000000 in
theorem cfit_any (s : ByteArray) (hs : s.size ≤ 10000) (most : Int) (h0 : -9223372036854775808 ≤ most) (h1 : most ≤ 9223372036854775807) (w : World) (hT : Tabs w) :
    Calls Tryd.prog 46 #[.string s, .int .i64 most] w fun e w' => e = .returned (.tuple #[.string ⟨(FitR most (prs 0 (cls (rs s.data.toList)))).1.toArray⟩, .int .i64 (FitR most (prs 0 (cls (rs s.data.toList)))).2]) ∧ Below w.heap.size w w' := by
  have HT := Lib.hid hT
  clear hT
  generalize hR1 : (FitR most (prs 0 (cls (rs s.data.toList)))).1 = R1
  generalize hR2 : (FitR most (prs 0 (cls (rs s.data.toList)))).2 = R2
  have HR1 := Lib.hid hR1
  have HR2 := Lib.hid hR2
  clear hR1 hR2
  refine (callsIn_wide (n := 9)).1 ?_
  refine callsIn_of_wp_marks Tryd.func46 rfl trivial ?_ rfl
  simp only [Tryd.ntmps46, List.size_toArray, List.length_cons, List.length_nil, Nat.reduceAdd, Nat.reduceSub, Array.replicate_succ, Array.replicate_zero, List.push_toArray, List.append_toArray, List.nil_append, List.cons_append]
  refine wpIn_wide.2 ?_
  go_wp2_with (go_at_call 59; refine (call_any _ _).mono ?_; rintro e w' ⟨rfl, rfl⟩)
  refine (wpIn_wide (n := 9)).1 ?_
  obtain ⟨h, hh⟩ : ∃ h, h = w.heap.size := ⟨_, rfl⟩
  rw [← hh]
  obtain ⟨W0, hW0⟩ : ∃ W0, W0 = (((w.alloc (.cells #[.int .i64 most] 3)).alloc (.cells #[.slice none 0 0] 66)).alloc (.cells #[.int .i64 0] 3)).alloc (.cells #[.string s] 9) := ⟨_, rfl⟩
  rw [← hW0]
  have bM : Boxed W0 h 3 (.int .i64 most) := by rw [hW0, hh]; exact (((Boxed.new w _ _).alloc _).alloc _).alloc _
  have bF : Boxed W0 (h + 1) 66 (.slice none 0 0) := by
    have := ((Boxed.new (w.alloc (.cells #[.int .i64 most] 3)) 66 (.slice none 0 0)).alloc (.cells #[.int .i64 0] 3)).alloc (.cells #[.string s] 9)
    rw [hW0, hh]; simpa using this
  have bC : Boxed W0 (h + 1 + 1) 3 (.int .i64 0) := by
    have := (Boxed.new ((w.alloc (.cells #[.int .i64 most] 3)).alloc (.cells #[.slice none 0 0] 66)) 3 (.int .i64 0)).alloc (.cells #[.string s] 9)
    rw [hW0, hh]; simpa using this
  have bS : Boxed W0 (h + 1 + 1 + 1) 9 (.string s) := by
    have := Boxed.new (((w.alloc (.cells #[.int .i64 most] 3)).alloc (.cells #[.slice none 0 0] 66)).alloc (.cells #[.int .i64 0] 3)) 9 (.string s)
    rw [hW0, hh]; simpa using this
  have hB0 : Below h w W0 := by
    rw [hW0, hh]
    exact ((((Below.refl _ w).alloc (Nat.le_refl _) _).alloc (by simp) _).alloc (by simp; omega) _).alloc (by simp; omega) _
  have hsz : W0.heap.size = h + 4 := by rw [hW0, hh]; simp
  have hg : 1 < h := by rw [hh]; exact HT.out.mg
  have hg' : 0 < h := by rw [hh]; exact HT.out.wg
  have hTW : Tabs W0 := HT.out.below (by rw [← hh]; exact hB0)
  have HTW := Lib.hid hTW
  have HH := Lib.hid hh
  have hsz1 : W0.heap.size ≤ h + 4 := by omega
  have hsz2 : h + 4 ≤ W0.heap.size := by omega
  have hw1 : h ≤ w.heap.size := by omega
  clear hW0 hh hsz hTW
  refine range_priv rfl (by omega) (gf := 68) (lb := #[.pointer (some ⟨h + 1 + 1 + 1, 0, none⟩)]) rfl trivial (enters_of Tryd.func68 (by kernel_rfl) rfl)
    (call_stops (h + 1 + 1 + 1) s (by omega) (lent h (h + 1 + 1 + 1)) W0 bS.cell HTW.out (.inr rfl) (.inl hg) (.inl hg') (fun k hk => by rcases hk with hk | hk <;> omega))
    (Nat.le_refl _) (fun k hk => ⟨by rcases hk with hk | hk <;> omega, rfl⟩) (fun _ => rfl)
    (fun pre f W => ((Boxed W h 3 (.int .i64 most) ∧ Boxed W (h + 1 + 1) 3 (.int .i64 (lastEnd pre))) ∧ HoldB (h + 1) h (txs pre).flatten f W) ∧ (AllOk most pre ∧ (txs pre).flatten.length ≤ 100 * pre.length) ∧ Below h w W)
    (fun c pre f W => FitX h most c pre f W ∧ Below h w W)
    (AbP.and (AbP.and (AbP.and (AbP.boxed (fun _ => .int .i64 most) (by omega)) (AbP.boxed (fun pre => .int .i64 (lastEnd pre)) (by omega))) (AbP.hold (fun (pre : List (Int × List UInt8)) => bv (txs pre).flatten) (by omega))) (AbP.and (AbP.pure _) (AbP.below (by omega) hw1)))
    (fun c => AbP.and (fun pre f f' A B hs ht hf => by
      obtain ⟨p, x, h1, h2, h3, h4, h5, h6⟩ := hs
      exact ⟨p, x, h1, h2, h3, h4, AbP.hold (b := W0.heap.size) (fun (_ : Unit) => bv (txs p).flatten) (by omega) () f f' A B h5 ht hf, ht.block _ _ h6 (.inl (by omega))⟩) (AbP.below (by omega) hw1))
    ⟨⟨⟨bM, bC⟩, ⟨none, 0, 0, bF, OR.none_ _ _ _, fun g hg => by cases hg⟩⟩, ⟨AllOk.nil _, by simp [txs]⟩, hB0⟩
    (fun x => { tmps := #[.string s, .int .i64 most, undef, .pointer (some ⟨h, 0, none⟩), .string ⟨#[]⟩, .int .i64 0, .pointer (some ⟨h + 1, 0, none⟩), .pointer (some ⟨h + 1 + 1, 0, none⟩), .int .i64 x.1, .string ⟨x.2.toArray⟩, undef, .string s, .func (.func 68) #[] #[.pointer (some ⟨h + 1 + 1 + 1, 0, none⟩)], .int .i64 x.1, .string ⟨x.2.toArray⟩, undef, undef, undef, undef, undef, undef, undef, undef, undef, undef, undef, undef, undef, undef], defers := [] }) ?assign ?body ?done ?stop
  case assign =>
    intro l x W K hK
    simp only [encC]
    rw [put_two]
    gi_wp2
    exact hK
  case body =>
    rintro lo pre x f W hf hz ⟨⟨⟨hb1, hb2⟩, A, n, c, hb, hr, hm⟩, ⟨hok, hlb⟩, hbW⟩ hlen hel
    have hO : OB W h A n c (txs pre).flatten := hr
    have hn : n = (txs pre).flatten.length := hO.len
    have hx64 := hel.1
    have hx0 := hel.2.1
    have hx1 := hel.2.2
    have hwf : fw (rs x.2) ≤ 2 ∧ 0 ≤ fw (rs x.2) := by
      have e : fw (rs x.2) = wc ((cls (rs x.2)).headD []) := (fw_cls (rs_isR x.2)).symm
      rw [e]
      have := wc_01 ((cls (rs x.2)).headD [])
      omega
    have hTW : Tabs W := HT.out.below (by rw [← HH.out]; exact hbW)
    obtain ⟨v, hv⟩ : ∃ v, v = fw (rs x.2) := ⟨_, rfl⟩
    rw [← hv] at hwf
    obtain ⟨hv1, hv2⟩ := hwf
    have HV := Lib.hid hv
    have hfs : ∀ k, f k → k < W.heap.size := fun k hk => by
      rcases hf k hk with h' | h'
      · rcases h' with h' | h' <;> omega
      · exact h'.2
    have hnf0 := not_lent (b := h) hf (Nat.le_refl _) (by omega) (by omega)
    have hnf1 := not_lent (b := h + 1) hf (by omega) (by omega) (by omega)
    have hnf2 := not_lent (b := h + 1 + 1) hf (by omega) (by omega) (by omega)
    have hxs := size_mk x.2
    have hxd : (⟨x.2.toArray⟩ : ByteArray).data.toList = x.2 := rfl
    have HXS := Lib.hid hxs
    have HXD := Lib.hid hxd
    have HOK := Lib.hid hok
    have hszW : h ≤ W.heap.size := by omega
    have hxs1 : (⟨x.2.toArray⟩ : ByteArray).size ≤ 1000000 := by omega
    have hnl : n ≤ 1000000 := by omega
    clear hv hxs hxd hok hel hn
    by_cases hlt : most < x.1 + v
    · gi_wp2_with (refine ⟨trivial, ?_⟩; gi_at_call 37; refine (CallsIn.inRound lo (callsIn_wide.2 (cwidth_any _ hxs1 _ hTW))).mono ?_; rintro e w1 ⟨rfl, hb9⟩; rw [HXD.out, ← HV.out]; have hc1 := (hb1.kept (grown_of_below hb9) (by simp)).cell)
      refine ⟨(keeps_of_below hb9).from _, ⟨pre, x, rfl, rfl, HOK.out, by unfold okP; rw [← HV.out]; simp; omega, ?_, hb2.kept (grown_of_below hb9) (by simp)⟩, hbW.trans (hb9.mono hszW)⟩
      exact ⟨A, n, c, hb.kept (grown_of_below hb9) (by simp), hr.below hb9 (fun g hg => (hr.blk_lt g hg).2), hm⟩
    · have hle : x.1 + v ≤ most := by omega
      gi_wp2_with (first
        | (refine ⟨trivial, ?_⟩; gi_at_call 37; refine (CallsIn.inRound lo (callsIn_wide.2 (cwidth_any _ hxs1 _ hTW))).mono ?_; rintro e w1 ⟨rfl, hb9⟩; rw [HXD.out, ← HV.out]; have hc1 := (hb1.kept (grown_of_below hb9) (by simp)).cell; have hc2 := (hb.kept (grown_of_below hb9) (by simp)).cell;
           have hO9 : OB w1 h A n c (txs pre).flatten := hO.below hb9 (fun g hg => (hO.blk_lt g hg).2);
           have hz9 : h ≤ w1.heap.size := Nat.le_trans hszW hb9.size;
           obtain ⟨A5, c5, w5, hrun, hO5, hg5, hat5⟩ := run_app_str w1 66 h A n c _ hO9 ⟨x.2.toArray⟩ (n + x.2.length) (by rw [HXS.out]) (by omega) hz9;
           obtain ⟨hH, hRk, hb5, hbe⟩ := HoldP.appended (e := 5) (ys := bv ((txs pre).flatten ++ x.2)) (by decide) (by omega) hfs hb9 hb hr hm hnf1 hO5 hg5 hat5 W0.heap.size;
           have hcb := (hb2.kept (grown_of_below hb9) (by simp)).kept hg5 (fun e => by have := (hO.blk_lt _ e.symm).1; have h3 := ((hb2.kept (grown_of_below hb9) (by simp)).not_row (by decide) hO9.1); rw [ownBlock_slice] at h3; exact h3 e);
           have hcm := (hb1.kept (grown_of_below hb9) (by simp)).kept hg5 (fun e => by have h3 := ((hb1.kept (grown_of_below hb9) (by simp)).not_row (by decide) hO9.1); rw [ownBlock_slice] at h3; exact h3 e);
           have hc5 := hb5.cell; have hf5 := hb5.frozen;
           have hcb2 := (hcb.other (B' := h + 1) (by omega) (.slice A5 (n + x.2.length) c5));
           have hcm2 := (hcm.other (B' := h + 1) (by omega) (.slice A5 (n + x.2.length) c5));
           have hc6 := hcb2.cell; have hf6 := hcb2.frozen;
           have HR := Lib.hid hrun; have HHX := Lib.hid hH; clear hrun hH hO5 hg5 hat5)
        | (gi_at_builtin; refine wpListIn_app 66 9 rfl (.tmp 22) (.tmp 23) rfl _ _ _ _ rfl rfl HR.out ?_))
      refine ⟨hRk.setCell hnf2 _, ⟨⟨hcm2.other (by omega) _, ?_⟩, ?_⟩, ⟨HOK.out.snoc (by unfold okP; rw [← HV.out]; simp; omega), ?_⟩, (hbW.trans (hbe hszW)).setCell (p := ⟨h + 1 + 1, 0, none⟩) (by show h ≤ h + 1 + 1; omega) _⟩
      · rw [lastEnd_snoc, ← HV.out]; exact hcb2.set _
      · rw [txs_flat]
        obtain ⟨A6, n6, c6, k1, k2, k3⟩ := HHX.out
        refine ⟨A6, n6, c6, k1.other (by omega) _, k2.kept (grownBy_setCell' _ _ _) ?_, k3⟩
        exact .inr (fun e => by have h3 := hcb2.not_row (by decide) k2.1; rw [ownBlock_slice] at h3; exact h3 e.symm)
      · rw [txs_flat, List.length_append, List.length_append]; simp only [List.length_cons, List.length_nil]; omega
  case done =>
    rintro D ys f W hD hys ⟨⟨⟨hb1, hb2⟩, A, n, c, hb, hr, hm⟩, ⟨hok, hlb⟩, hbW⟩ hK
    have e1 : (txs ys).flatten = R1 := by rw [← HR1.out, ← hys]; unfold FitR; rw [take_all hok]
    have e2 : lastEnd ys = R2 := by rw [← HR2.out, ← hys]; unfold FitR; rw [take_all hok]
    rw [e1] at hr
    rw [e2] at hb2
    have hO : OB W h A n c R1 := hr
    have hcv : ∀ k, Sem.run Tryd.prog (Go.convert 66 9 (.slice A n c)) (W.drewN k) = .ok (.string ⟨R1.toArray⟩) (W.drewN k) := fun k => run_str_sl _ W.heap.size A n c R1 (hO.sl.drewN k) hO.len
    have hc := hb.cell
    have hc2 := hb2.cell
    clear e1 e2 hys hr hO hm hok hlb hb hb2
    go_wp2
    go_quiet (fail)
    go_wp2
    have hK' : (W.drewN nq).heap[D]? = some (Obj.deferred (some [])) := by rw [World.heap_drewN]; exact hK
    refine ⟨by simp, .inl ⟨_, _, rfl, run_takeDeferred hK', ?_⟩⟩
    refine ⟨_, results_tmp2 rfl _ _ _, rfl, ?_⟩
    have hq := HH.out
    rw [← HH.out]
    exact (hbW.trans (below_drewN (Below.refl _ _) _)).trans (belowK_b (w := w) hw1 _ D _ _ (by omega) hK' rfl rfl)
  case stop =>
    rintro D c pre f W hD hpre ⟨⟨p, x, rfl, hp, hok, hno, ⟨A, n, c, hb, hr, hm⟩, hb2⟩, hbW⟩ hK
    rw [hp] at hpre
    have e1 : (txs p).flatten = R1 := by rw [← HR1.out]; unfold FitR; rw [take_stop hok hno hpre]
    have e2 : lastEnd p = R2 := by rw [← HR2.out]; unfold FitR; rw [take_stop hok hno hpre]
    rw [e1] at hr
    rw [e2] at hb2
    have hO : OB W h A n c R1 := hr
    have hcv : ∀ k, Sem.run Tryd.prog (Go.convert 66 9 (.slice A n c)) (W.drewN k) = .ok (.string ⟨R1.toArray⟩) (W.drewN k) := fun k => run_str_sl _ W.heap.size A n c R1 (hO.sl.drewN k) hO.len
    have hc := hb.cell
    have hc2 := hb2.cell
    clear e1 e2 hpre hp hr hO hm hok hno hb hb2
    gi_wp2
    go_wp2
    go_quiet (fail)
    go_wp2
    have hK' : (W.drewN nq).heap[D]? = some (Obj.deferred (some [])) := by rw [World.heap_drewN]; exact hK
    refine ⟨by simp, .inl ⟨_, _, rfl, run_takeDeferred hK', ?_⟩⟩
    refine ⟨_, results_tmp2 rfl _ _ _, rfl, ?_⟩
    have hq := HH.out
    rw [← HH.out]
    exact (hbW.trans (below_drewN (Below.refl _ _) _)).trans (belowK_b (w := w) hw1 _ D _ _ (by omega) hK' rfl rfl)
end Go.Proofs.YtmgakdbcgdhpaaaDoor
