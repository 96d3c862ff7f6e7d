/-
  Walks: placardlaw02.told: the ranges that come before the round that breaks.
-/
import Derived.Test.YtckohomfoicffaaDoorWdRef
import Derived.Test.YtckohomfoicffaaDoorWdSumM
import Derived.Maps.AppendAt
import Derived.WalkSmall
import Derived.WalkSpells
namespace Go.Proofs.YtckohomfoicffaaDoor
open Go.RowKit Go.Shelf
attribute [local go_sem] Oper.semAt_some
set_option linter.unusedVariables false

theorem flatT_snoc (T : List (Int × Int)) (x : Int × Int) : flatT (T ++ [x]) = flatT T ++ [.int .i32 x.1, .int .i32 x.2] := by simp [flatT]
theorem flatT_length (T : List (Int × Int)) : (flatT T).length = 2 * T.length := by
  induction T with
  | nil => rfl
  | cons x T ih =>
    have e : flatT (x :: T) = .int .i32 x.1 :: .int .i32 x.2 :: flatT T := rfl
    rw [e]
    simp only [List.length_cons, ih]
    omega
def SlV (v : Value) (k : Nat) : Prop := ∃ A m c, v = .slice A m c ∧ m = k
theorem SlV.mk {A : Option Addr} {m c k : Nat} (h : m = k) : SlV (.slice A m c) k := ⟨A, m, c, rfl, h⟩
theorem i32_info2 : (Tryd.prog.info? 21).map (fun i => (i.zero, i.size, i.bytes)) = some (some (.int .i32 0), 1, 4) := by kernel_rfl


set_option maxRecDepth 100000 in
set_option maxHeartbeats 2000000 in
theorem told_marks (most : Nat) (hm : most ≤ 1000) (w : World) (hT : Tabs w) :
    Calls Tryd.prog 23 #[.bool true, .int .i64 most] w fun e w' => ∃ A c, e = .returned (.tuple #[.slice A (2 * (mkT.take most).length) c, .bool true]) ∧ Sl w' w'.heap.size A (flatT (mkT.take most)) ∧ Below w.heap.size w w' := by
  obtain ⟨i0, hi0, hz0, hz1, hz2⟩ := info_parts i32_info2
  have I0 := Lib.hid hi0
  have Z0 := Lib.hid hz0
  have Z1 := Lib.hid hz1
  have Z2 := Lib.hid hz2
  have H := Lib.hid hT
  clear hi0 hz0 hz1 hz2 hT
  have hnf : ∀ w, Sem.run Tryd.prog (binOp .eql 45 (.func (.func 32) #[] #[]) .nilFunc) w = .ok (.bool false) w := fun _ => by kernel_rfl
  refine (callsIn_wide (n := 5)).1 ?_
  refine callsIn_of_wp_marks Tryd.func23 rfl trivial ?_ rfl
  simp only [Tryd.ntmps23, List.size_toArray, List.length_cons, List.length_nil, Nat.reduceAdd, Nat.reduceSub, Array.replicate_succ, Array.replicate_zero, List.push_toArray, List.append_toArray, List.nil_append, List.cons_append]
  refine wpIn_wide.2 ?_
  go_wp2_with (first
    | (go_at_call 29; refine (marks_any _).mono ?_; rintro e w' ⟨rfl, rfl⟩)
    | (go_at_call 27; refine (wides_any _).mono ?_; rintro e w' ⟨rfl, rfl⟩))
  refine (wpIn_wide (n := 5)).1 ?_
  have bM := (Boxed.new w 3 (.int .i64 most)).alloc (.cells #[.slice none 0 0] 30)
  have bO := Boxed.new (w.alloc (.cells #[.int .i64 most] 3)) 30 (.slice none 0 0)
  rw [World.size_alloc] at bO
  have hB0 : Below w.heap.size w ((w.alloc (.cells #[.int .i64 most] 3)).alloc (.cells #[.slice none 0 0] 30)) := ((Below.refl _ w).alloc (Nat.le_refl _) _).alloc (by simp) _
  have hg0 := H.out.mg
  have hTl : mkT.length ≤ 100 := by decide
  refine wpIn_rangeFunc_ownG rfl (by omega) (gf := 32) (lb := #[]) rfl trivial (enters_of Tryd.func32 (by kernel_rfl) rfl)
    (marks_stops 4 (by omega) w.heap.size _ (H.out.mt.below hB0 hg0) hg0 hB0.size) belowK_t (belowK_b (by simp; omega)) (Below.refl _ _) (fun _ => rfl)
    (fun pre W => ((∃ v, Boxed W (w.heap.size + 1) 30 v ∧ W.ownsRow w.heap.size 21 1 v (2 * pre.length) (flatT pre) ∧ (pre.length ≤ most ∧ SlV v (2 * pre.length))) ∧ Boxed W w.heap.size 3 (.int .i64 most)) ∧ Below w.heap.size w W)
    (fun c pre W => ((∃ v, Boxed W (w.heap.size + 1) 30 v ∧ W.ownsRow w.heap.size 21 1 v (2 * most) (flatT (pre.take most)) ∧ (c = .exit 0 ∧ most < pre.length ∧ SlV v (2 * most))) ∧ Boxed W w.heap.size 3 (.int .i64 most)) ∧ Below w.heap.size w W)
    (OwnFrom.and (OwnFrom.and (Own.from (holdsRow_own w.heap.size (w.heap.size + 1) 30 21 1 (fun pre => 2 * pre.length) (fun pre => flatT pre) (fun pre v => pre.length ≤ most ∧ SlV v (2 * pre.length))) _) (Own.from (boxed_own w.heap.size 3 (fun _ => .int .i64 most)) _)) (ownFrom_below (Nat.le_refl _) (by simp; omega)))
    (fun c => OwnFrom.and (OwnFrom.and (Own.from (holdsRow_own w.heap.size (w.heap.size + 1) 30 21 1 (fun (_ : List (Int × Int)) => 2 * most) (fun pre => flatT (pre.take most)) (fun pre v => c = .exit 0 ∧ most < pre.length ∧ SlV v (2 * most))) _) (Own.from (boxed_own w.heap.size 3 (fun _ => .int .i64 most)) _)) (ownFrom_below (Nat.le_refl _) (by simp; omega)))
    ⟨⟨⟨_, bO, World.ownsRow_nil _ _ _ _, by simp, SlV.mk rfl⟩, bM⟩, hB0⟩
    (fun x => { tmps := #[.bool true, .int .i64 most, undef, .pointer (some ⟨w.heap.size, 0, none⟩), .slice none 0 0, .bool false, .func (.func 32) #[] #[], .pointer (some ⟨w.heap.size + 1, 0, none⟩), .int .i32 x.1, .int .i32 x.2, .func (.func 31) #[] #[], .bool true, .func (.func 32) #[] #[], .func (.func 32) #[] #[], .bool false, .func (.func 32) #[] #[], .int .i32 x.1, .int .i32 x.2, undef, undef, undef, undef, undef, undef, undef, undef, undef, undef, undef], defers := [] }) ?assign ?body ?done ?stop
  case assign =>
    intro l x W K hK
    simp only [encT]
    rw [put_two]
    gi_wp2
    exact hK
  case body =>
    rintro l pre x W ⟨⟨⟨v, hv, hrow, hpm, A, m, c, rfl, hmp⟩, hb⟩, hB⟩ hlt
    have hc := hv.cell
    have hcb := hb.cell
    have HMP := Lib.hid hmp
    by_cases hge : most ≤ pre.length
    · have hpl : pre.length = most := by omega
      have hge' : 2 * (most : Int) ≤ (m : Int) := by omega
      have hmm : m = 2 * most := by omega
      have HMM := Lib.hid hmm
      have HPL := Lib.hid hpl
      clear hmm hpl hmp
      gi_wp2
      refine ⟨(KeepsOthers.refl _).from _, ⟨⟨_, hv, ?_, rfl, by simp; have := HPL.out; omega, SlV.mk HMM.out⟩, hb⟩, hB⟩
      rw [← HPL.out]
      simpa using hrow
    · have hge' : ¬ 2 * (most : Int) ≤ (m : Int) := by omega
      clear hmp
      have I1 := I0.out
      have Z3 := Z0.out
      have Z4 := Z1.out
      have Z5 := Z2.out
      have hI0 := Lib.hid I1
      have hZ0 := Lib.hid Z3
      have hZ1 := Lib.hid Z4
      have hZ2 := Lib.hid Z5
      clear I1 Z3 Z4 Z5
      gi_wp2_with (gi_at_builtin; refine wpListIn_append_own _ rfl _ _ 30 rfl w.heap.size 21 i0 (.int .i32 0) 1 4 Tryd.underlying30 hI0.out hZ0.out hZ1.out hZ2.out rfl (by decide) _ _ _ rfl (hrow.alloc _) ⟨W.heap.size, 0, none⟩ 2 2 [.int .i32 x.1, .int .i32 x.2] rfl rfl (cell_two_new _ _ _ _) (by simp [Value.oneCell']) (by simp only [maxLen]; omega) (by omega) (by have := hB.size; simp; omega) ?_; intro v' w1 hown' hgrow _; obtain ⟨g', cap', rfl⟩ := ownsRow_succ hown'; obtain ⟨hv1, hv2, hr2, hk2, hb2⟩ := hv.appended (by decide) hrow hB.size (by omega) hown' hgrow; have hc1 := hv1.cell; have hf1 := hv1.frozen)
      have hbx := ((hb.alloc (.cells #[.int .i32 x.1, .int .i32 x.2] 21)).kept hgrow (hb.not_row (by decide) hrow)).other (B' := w.heap.size + 1) (by omega) (.slice (some ⟨g', 0, none⟩) (2 * pre.length + 1 + 1) cap')
      refine ⟨hk2.from _, hb2, ⟨⟨_, hv2, ?_, by simp; omega, SlV.mk (by simp; omega)⟩, hbx⟩, hB.trans hb2⟩
      rw [flatT_snoc, List.length_append]
      exact hr2
  case done =>
    rintro D ys W hD rfl ⟨⟨⟨v, hv, hrow, hpm, A, m, c, rfl, hmp⟩, hb⟩, hB⟩ hK
    have hc := hv.cell
    have HMP := Lib.hid hmp
    have HPM := Lib.hid hpm
    clear hmp hpm
    go_wp2
    refine ⟨by simp, .inl ⟨_, _, rfl, run_takeDeferred hK, ?_⟩⟩
    refine ⟨_, results_tmp2 rfl _ _ _, A, c, ?_, ?_, hB.trans (belowK_b (w := w) (Nat.le_refl _) W D _ _ (by simp at hD; omega) hK rfl rfl)⟩
    · rw [List.take_of_length_le HPM.out, ← HMP.out]; rfl
    · rw [List.take_of_length_le HPM.out]
      exact Sl.own (by have := ownsRow_putObj hrow (.deferred none) hK rfl; rw [← HMP.out] at this; exact this)
  case stop =>
    rintro D c pre W hD hpre ⟨⟨⟨v, hv, hrow, rfl, hlt, A, m, c, rfl, hmp⟩, hb⟩, hB⟩ hK
    have hc := hv.cell
    have htk : pre.take most = mkT.take most := by
      obtain ⟨t, ht⟩ := hpre
      rw [← ht, List.take_append_of_le_length (by omega)]
    have hln : (mkT.take most).length = most := by rw [← htk]; simp; omega
    have HTK := Lib.hid htk
    have HLN := Lib.hid hln
    have HMP := Lib.hid hmp
    clear hmp htk hln
    gi_wp2
    go_wp2
    refine ⟨by simp, .inl ⟨_, _, rfl, run_takeDeferred hK, ?_⟩⟩
    refine ⟨_, results_tmp2 rfl _ _ _, A, c, ?_, ?_, hB.trans (belowK_b (w := w) (Nat.le_refl _) W D _ _ (by simp at hD; omega) hK rfl rfl)⟩
    · rw [HLN.out, ← HMP.out]; rfl
    · rw [← HTK.out]
      exact Sl.own (by have := ownsRow_putObj hrow (.deferred none) hK rfl; rw [← HMP.out] at this; exact this)

set_option maxRecDepth 100000 in
set_option maxHeartbeats 2000000 in
theorem told_wides (most : Nat) (hm : most ≤ 1000) (w : World) (hT : Tabs w) :
    Calls Tryd.prog 23 #[.bool false, .int .i64 most] w fun e w' => ∃ A c, e = .returned (.tuple #[.slice A (2 * (wdT.take most).length) c, .bool true]) ∧ Sl w' w'.heap.size A (flatT (wdT.take most)) ∧ Below w.heap.size w w' := by
  obtain ⟨i0, hi0, hz0, hz1, hz2⟩ := info_parts i32_info2
  have I0 := Lib.hid hi0
  have Z0 := Lib.hid hz0
  have Z1 := Lib.hid hz1
  have Z2 := Lib.hid hz2
  have H := Lib.hid hT
  clear hi0 hz0 hz1 hz2 hT
  have hnf : ∀ w, Sem.run Tryd.prog (binOp .eql 45 (.func (.func 31) #[] #[]) .nilFunc) w = .ok (.bool false) w := fun _ => by kernel_rfl
  refine (callsIn_wide (n := 5)).1 ?_
  refine callsIn_of_wp_marks Tryd.func23 rfl trivial ?_ rfl
  simp only [Tryd.ntmps23, List.size_toArray, List.length_cons, List.length_nil, Nat.reduceAdd, Nat.reduceSub, Array.replicate_succ, Array.replicate_zero, List.push_toArray, List.append_toArray, List.nil_append, List.cons_append]
  refine wpIn_wide.2 ?_
  go_wp2_with (first
    | (go_at_call 29; refine (marks_any _).mono ?_; rintro e w' ⟨rfl, rfl⟩)
    | (go_at_call 27; refine (wides_any _).mono ?_; rintro e w' ⟨rfl, rfl⟩))
  refine (wpIn_wide (n := 5)).1 ?_
  have bM := (Boxed.new w 3 (.int .i64 most)).alloc (.cells #[.slice none 0 0] 30)
  have bO := Boxed.new (w.alloc (.cells #[.int .i64 most] 3)) 30 (.slice none 0 0)
  rw [World.size_alloc] at bO
  have hB0 : Below w.heap.size w ((w.alloc (.cells #[.int .i64 most] 3)).alloc (.cells #[.slice none 0 0] 30)) := ((Below.refl _ w).alloc (Nat.le_refl _) _).alloc (by simp) _
  have hg0 := H.out.wg
  have hTl : wdT.length ≤ 100 := by decide
  refine wpIn_rangeFunc_ownG rfl (by omega) (gf := 31) (lb := #[]) rfl trivial (enters_of Tryd.func31 (by kernel_rfl) rfl)
    (wides_stops 4 (by omega) w.heap.size _ (H.out.wt.below hB0 hg0) hg0 hB0.size) belowK_t (belowK_b (by simp; omega)) (Below.refl _ _) (fun _ => rfl)
    (fun pre W => ((∃ v, Boxed W (w.heap.size + 1) 30 v ∧ W.ownsRow w.heap.size 21 1 v (2 * pre.length) (flatT pre) ∧ (pre.length ≤ most ∧ SlV v (2 * pre.length))) ∧ Boxed W w.heap.size 3 (.int .i64 most)) ∧ Below w.heap.size w W)
    (fun c pre W => ((∃ v, Boxed W (w.heap.size + 1) 30 v ∧ W.ownsRow w.heap.size 21 1 v (2 * most) (flatT (pre.take most)) ∧ (c = .exit 0 ∧ most < pre.length ∧ SlV v (2 * most))) ∧ Boxed W w.heap.size 3 (.int .i64 most)) ∧ Below w.heap.size w W)
    (OwnFrom.and (OwnFrom.and (Own.from (holdsRow_own w.heap.size (w.heap.size + 1) 30 21 1 (fun pre => 2 * pre.length) (fun pre => flatT pre) (fun pre v => pre.length ≤ most ∧ SlV v (2 * pre.length))) _) (Own.from (boxed_own w.heap.size 3 (fun _ => .int .i64 most)) _)) (ownFrom_below (Nat.le_refl _) (by simp; omega)))
    (fun c => OwnFrom.and (OwnFrom.and (Own.from (holdsRow_own w.heap.size (w.heap.size + 1) 30 21 1 (fun (_ : List (Int × Int)) => 2 * most) (fun pre => flatT (pre.take most)) (fun pre v => c = .exit 0 ∧ most < pre.length ∧ SlV v (2 * most))) _) (Own.from (boxed_own w.heap.size 3 (fun _ => .int .i64 most)) _)) (ownFrom_below (Nat.le_refl _) (by simp; omega)))
    ⟨⟨⟨_, bO, World.ownsRow_nil _ _ _ _, by simp, SlV.mk rfl⟩, bM⟩, hB0⟩
    (fun x => { tmps := #[.bool false, .int .i64 most, undef, .pointer (some ⟨w.heap.size, 0, none⟩), .slice none 0 0, .bool false, .func (.func 31) #[] #[], .pointer (some ⟨w.heap.size + 1, 0, none⟩), .int .i32 x.1, .int .i32 x.2, .func (.func 31) #[] #[], .bool false, undef, .func (.func 31) #[] #[], .bool false, .func (.func 31) #[] #[], .int .i32 x.1, .int .i32 x.2, undef, undef, undef, undef, undef, undef, undef, undef, undef, undef, undef], defers := [] }) ?assign ?body ?done ?stop
  case assign =>
    intro l x W K hK
    simp only [encT]
    rw [put_two]
    gi_wp2
    exact hK
  case body =>
    rintro l pre x W ⟨⟨⟨v, hv, hrow, hpm, A, m, c, rfl, hmp⟩, hb⟩, hB⟩ hlt
    have hc := hv.cell
    have hcb := hb.cell
    have HMP := Lib.hid hmp
    by_cases hge : most ≤ pre.length
    · have hpl : pre.length = most := by omega
      have hge' : 2 * (most : Int) ≤ (m : Int) := by omega
      have hmm : m = 2 * most := by omega
      have HMM := Lib.hid hmm
      have HPL := Lib.hid hpl
      clear hmm hpl hmp
      gi_wp2
      refine ⟨(KeepsOthers.refl _).from _, ⟨⟨_, hv, ?_, rfl, by simp; have := HPL.out; omega, SlV.mk HMM.out⟩, hb⟩, hB⟩
      rw [← HPL.out]
      simpa using hrow
    · have hge' : ¬ 2 * (most : Int) ≤ (m : Int) := by omega
      clear hmp
      have I1 := I0.out
      have Z3 := Z0.out
      have Z4 := Z1.out
      have Z5 := Z2.out
      have hI0 := Lib.hid I1
      have hZ0 := Lib.hid Z3
      have hZ1 := Lib.hid Z4
      have hZ2 := Lib.hid Z5
      clear I1 Z3 Z4 Z5
      gi_wp2_with (gi_at_builtin; refine wpListIn_append_own _ rfl _ _ 30 rfl w.heap.size 21 i0 (.int .i32 0) 1 4 Tryd.underlying30 hI0.out hZ0.out hZ1.out hZ2.out rfl (by decide) _ _ _ rfl (hrow.alloc _) ⟨W.heap.size, 0, none⟩ 2 2 [.int .i32 x.1, .int .i32 x.2] rfl rfl (cell_two_new _ _ _ _) (by simp [Value.oneCell']) (by simp only [maxLen]; omega) (by omega) (by have := hB.size; simp; omega) ?_; intro v' w1 hown' hgrow _; obtain ⟨g', cap', rfl⟩ := ownsRow_succ hown'; obtain ⟨hv1, hv2, hr2, hk2, hb2⟩ := hv.appended (by decide) hrow hB.size (by omega) hown' hgrow; have hc1 := hv1.cell; have hf1 := hv1.frozen)
      have hbx := ((hb.alloc (.cells #[.int .i32 x.1, .int .i32 x.2] 21)).kept hgrow (hb.not_row (by decide) hrow)).other (B' := w.heap.size + 1) (by omega) (.slice (some ⟨g', 0, none⟩) (2 * pre.length + 1 + 1) cap')
      refine ⟨hk2.from _, hb2, ⟨⟨_, hv2, ?_, by simp; omega, SlV.mk (by simp; omega)⟩, hbx⟩, hB.trans hb2⟩
      rw [flatT_snoc, List.length_append]
      exact hr2
  case done =>
    rintro D ys W hD rfl ⟨⟨⟨v, hv, hrow, hpm, A, m, c, rfl, hmp⟩, hb⟩, hB⟩ hK
    have hc := hv.cell
    have HMP := Lib.hid hmp
    have HPM := Lib.hid hpm
    clear hmp hpm
    go_wp2
    refine ⟨by simp, .inl ⟨_, _, rfl, run_takeDeferred hK, ?_⟩⟩
    refine ⟨_, results_tmp2 rfl _ _ _, A, c, ?_, ?_, hB.trans (belowK_b (w := w) (Nat.le_refl _) W D _ _ (by simp at hD; omega) hK rfl rfl)⟩
    · rw [List.take_of_length_le HPM.out, ← HMP.out]; rfl
    · rw [List.take_of_length_le HPM.out]
      exact Sl.own (by have := ownsRow_putObj hrow (.deferred none) hK rfl; rw [← HMP.out] at this; exact this)
  case stop =>
    rintro D c pre W hD hpre ⟨⟨⟨v, hv, hrow, rfl, hlt, A, m, c, rfl, hmp⟩, hb⟩, hB⟩ hK
    have hc := hv.cell
    have htk : pre.take most = wdT.take most := by
      obtain ⟨t, ht⟩ := hpre
      rw [← ht, List.take_append_of_le_length (by omega)]
    have hln : (wdT.take most).length = most := by rw [← htk]; simp; omega
    have HTK := Lib.hid htk
    have HLN := Lib.hid hln
    have HMP := Lib.hid hmp
    clear hmp htk hln
    gi_wp2
    go_wp2
    refine ⟨by simp, .inl ⟨_, _, rfl, run_takeDeferred hK, ?_⟩⟩
    refine ⟨_, results_tmp2 rfl _ _ _, A, c, ?_, ?_, hB.trans (belowK_b (w := w) (Nat.le_refl _) W D _ _ (by simp at hD; omega) hK rfl rfl)⟩
    · rw [HLN.out, ← HMP.out]; rfl
    · rw [← HTK.out]
      exact Sl.own (by have := ownsRow_putObj hrow (.deferred none) hK rfl; rw [← HMP.out] at this; exact this)
end Go.Proofs.YtckohomfoicffaaDoor
