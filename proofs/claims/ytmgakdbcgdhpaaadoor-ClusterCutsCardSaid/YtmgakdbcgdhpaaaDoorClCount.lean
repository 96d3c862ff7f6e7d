/-
  Walks: cluster.Count, cluster.Is.
-/
import Derived.Test.YtmgakdbcgdhpaaaDoorClIter
namespace Go.Proofs.YtmgakdbcgdhpaaaDoor
open Go.RowKit Go.Shelf
attribute [local go_sem] Oper.semAt_some
set_option linter.unusedVariables false

/-- What a caller hands to the iterator: all that lay ahead of the call, and the closure's box. -/
def lent (h B : Nat) (k : Nat) : Prop := k < h ∨ k = B
theorem not_lent {h B b z c : Nat} {f : Nat → Prop} (hf : ∀ k, f k → lent h B k ∨ (c ≤ k ∧ k < z)) (h1 : h ≤ b) (h2 : b < B) (h3 : B < c) : ¬ f b := by
  intro hb
  rcases hf b hb with h | h
  · rcases h with h | h <;> omega
  · omega

set_option maxRecDepth 100000 in
set_option maxHeartbeats 2000000 in
theorem ccount_any (s : ByteArray) (hs : s.size ≤ 1000000) (w : World) (hT : Tabs w) :
    Calls Tryd.prog 34 #[.string s] w fun e w' => e = .returned (.int .i64 (cls (rs s.data.toList)).length) ∧ Below w.heap.size w w' := by
  have HT := Lib.hid hT
  clear hT
  refine (callsIn_wide (n := 9)).1 ?_
  refine callsIn_of_wp_marks Tryd.func34 rfl trivial ?_ rfl
  simp only [Tryd.ntmps34, List.size_toArray, List.length_cons, List.length_nil, Nat.reduceAdd, Nat.reduceSub, Array.replicate_succ, Array.replicate_zero, List.push_toArray, List.append_toArray, List.nil_append, List.cons_append]
  refine wpIn_wide.2 ?_
  go_wp2_with (go_at_call 59; refine (call_any _ _).mono ?_; rintro e w' ⟨rfl, rfl⟩)
  refine (wpIn_wide (n := 9)).1 ?_
  have hB := (Boxed.new w 3 (.int .i64 0)).alloc (.cells #[.string s] 9)
  have hS := Boxed.new (w.alloc (.cells #[.int .i64 0] 3)) 9 (.string s)
  rw [World.size_alloc] at hS
  have hb0 : Below w.heap.size w ((w.alloc (.cells #[.int .i64 0] 3)).alloc (.cells #[.string s] 9)) := ((Below.refl _ w).alloc (Nat.le_refl _) _).alloc (by simp) _
  have hg := HT.out.mg
  have hg' := HT.out.wg
  refine range_priv rfl (by omega) (gf := 68) (lb := #[.pointer (some ⟨w.heap.size + 1, 0, none⟩)]) rfl trivial (enters_of Tryd.func68 (by kernel_rfl) rfl)
    (call_stops (w.heap.size + 1) s hs (lent w.heap.size (w.heap.size + 1)) _ hS.cell (HT.out.below hb0) (.inr rfl) (.inl hg) (.inl hg') (fun k hk => by rcases hk with hk | hk <;> simp <;> omega))
    (Nat.le_refl _) (fun k hk => ⟨by rcases hk with hk | hk <;> simp <;> omega, rfl⟩) (fun _ => rfl)
    (fun pre f W => Boxed W w.heap.size 3 (.int .i64 pre.length) ∧ Below w.heap.size w W)
    (fun _ _ _ _ => False)
    (AbP.and (AbP.boxed (fun (pre : List (Int × List UInt8)) => .int .i64 pre.length) (by simp <;> omega)) (AbP.below (by simp <;> omega) (Nat.le_refl _)))
    (fun _ => AbP.none _)
    ⟨hB, hb0⟩
    (fun x => { tmps := #[.string s, undef, .int .i64 0, .pointer (some ⟨w.heap.size, 0, none⟩), .string s, .func (.func 68) #[] #[.pointer (some ⟨w.heap.size + 1, 0, none⟩)], .int .i64 x.1, .string ⟨x.2.toArray⟩, undef, undef, undef], defers := [] }) ?assign ?body ?done ?stop
  case assign =>
    intro l x W K hK
    simp only [encC]
    gi_wp2
    rw [put_two]
    exact hK
  case body =>
    rintro l pre x f W hf hz ⟨hb, hbW⟩ hlen hel
    have hli : (pre.length : Int) + 1 < 9000000 := by omega
    have hc := hb.cell
    have hfr := hb.frozen
    have hnf := not_lent (b := w.heap.size) hf (Nat.le_refl _) (by omega) (by simp <;> omega)
    gi_wp2
    refine ⟨(Rk.refl _ _ _).setCell hnf _, ?_, hbW.setCell (p := ⟨w.heap.size, 0, none⟩) (Nat.le_refl _) _⟩
    have := hb.set (.int .i64 ((pre.length : Int) + 1))
    simpa using this
  case done =>
    rintro D ys f W hD rfl ⟨hb, hbW⟩ hK
    have hc := hb.cell
    rw [prs_length] at hc
    go_wp2
    refine ⟨by simp, .inl ⟨_, _, rfl, run_takeDeferred hK, ?_⟩⟩
    exact ⟨_, results_tmp rfl _ _ _, rfl, hbW.trans (belowK_b (w := w) (Nat.le_refl _) W D _ _ (by simp at hD; omega) hK rfl rfl)⟩
  case stop =>
    rintro D c pre f W _ _ h _
    exact h.elim

/-- what Is comes to -/
def isC (l : List UInt8) : Bool := match cls (rs l) with
  | [] => false
  | c :: _ => eb c == l

set_option maxRecDepth 100000 in
set_option maxHeartbeats 2000000 in
theorem cis_any (s : ByteArray) (hs : s.size ≤ 1000000) (w : World) (hT : Tabs w) :
    Calls Tryd.prog 35 #[.string s] w fun e w' => e = .returned (.bool (isC s.data.toList)) ∧ Below w.heap.size w w' := by
  have HT := Lib.hid hT
  clear hT
  generalize hv0 : isC s.data.toList = v0
  have HV0 := Lib.hid hv0
  clear hv0
  refine (callsIn_wide (n := 9)).1 ?_
  refine callsIn_of_wp_marks Tryd.func35 rfl trivial ?_ rfl
  simp only [Tryd.ntmps35, List.size_toArray, List.length_cons, List.length_nil, Nat.reduceAdd, Nat.reduceSub, Array.replicate_succ, Array.replicate_zero, List.push_toArray, List.append_toArray, List.nil_append, List.cons_append]
  refine wpIn_wide.2 ?_
  go_wp2_with (go_at_call 59; refine (call_any _ _).mono ?_; rintro e w' ⟨rfl, rfl⟩)
  refine (wpIn_wide (n := 9)).1 ?_
  have h1 := ((Boxed.new w 9 (.string s)).alloc (.cells #[.bool false] 4)).alloc (.cells #[.string s] 9)
  have h2 := (Boxed.new (w.alloc (.cells #[.string s] 9)) 4 (.bool false)).alloc (.cells #[.string s] 9)
  have hS := Boxed.new ((w.alloc (.cells #[.string s] 9)).alloc (.cells #[.bool false] 4)) 9 (.string s)
  simp only [World.size_alloc] at h2 hS
  have hb0 : Below w.heap.size w (((w.alloc (.cells #[.string s] 9)).alloc (.cells #[.bool false] 4)).alloc (.cells #[.string s] 9)) := (((Below.refl _ w).alloc (Nat.le_refl _) _).alloc (by simp) _).alloc (by simp; omega) _
  have hg := HT.out.mg
  have hg' := HT.out.wg
  refine range_priv rfl (by omega) (gf := 68) (lb := #[.pointer (some ⟨w.heap.size + 1 + 1, 0, none⟩)]) rfl trivial (enters_of Tryd.func68 (by kernel_rfl) rfl)
    (call_stops (w.heap.size + 1 + 1) s hs (lent w.heap.size (w.heap.size + 1 + 1)) _ hS.cell (HT.out.below hb0) (.inr rfl) (.inl hg) (.inl hg') (fun k hk => by rcases hk with hk | hk <;> simp <;> omega))
    (Nat.le_refl _) (fun k hk => ⟨by rcases hk with hk | hk <;> simp <;> omega, rfl⟩) (fun _ => rfl)
    (fun pre f W => (Boxed W w.heap.size 9 (.string s) ∧ Boxed W (w.heap.size + 1) 4 (.bool false)) ∧ pre = [] ∧ Below w.heap.size w W)
    (fun c pre f W => (c = .ret ∧ ∃ x : Int × List UInt8, pre = [x] ∧ W.cell? ⟨w.heap.size + 1, 0, none⟩ = some (.bool (x.2 == s.data.toList))) ∧ Below w.heap.size w W)
    (AbP.and (AbP.and (AbP.boxed (fun _ => .string s) (by simp <;> omega)) (AbP.boxed (fun _ => .bool false) (by simp <;> omega))) (AbP.and (AbP.pure _) (AbP.below (by simp <;> omega) (Nat.le_refl _))))
    (fun _ => AbP.and (fun pre f f' A B hp ht _ => ⟨hp.1, hp.2.elim fun x hx => ⟨x, hx.1, by
      obtain ⟨o, ho, hoc⟩ := cells_of_cell hx.2
      exact (World.cell?_of_block (w := A) (a := ⟨w.heap.size + 1, 0, none⟩) ((ht.block _ o ho (.inl (by simp))).trans ho.symm)).trans hx.2⟩⟩) (AbP.below (by simp <;> omega) (Nat.le_refl _)))
    ⟨⟨h1, h2⟩, rfl, hb0⟩
    (fun x => { tmps := #[.string s, .pointer (some ⟨w.heap.size, 0, none⟩), .pointer (some ⟨w.heap.size + 1, 0, none⟩), undef, .string ⟨x.2.toArray⟩, .string s, .func (.func 68) #[] #[.pointer (some ⟨w.heap.size + 1 + 1, 0, none⟩)], .int .i64 x.1, .string ⟨x.2.toArray⟩, undef, undef, undef], defers := [] }) ?assign ?body ?done ?stop
  case assign =>
    intro l x W K hK
    simp only [encC]
    rw [put_two]
    gi_wp2
    exact hK
  case body =>
    rintro l pre x f W hf hz ⟨⟨hb1, hb2⟩, hp, hbW⟩ hlen hel
    have HP := Lib.hid hp
    have hc1 := hb1.cell
    have hc := hb2.cell
    have hfr := hb2.frozen
    clear hp
    gi_wp2
    refine ⟨(KeepsOthers.setCell _ _ _).from _, ⟨rfl, x, by rw [HP.out]; rfl, ?_⟩, hbW.setCell (p := ⟨w.heap.size + 1, 0, none⟩) (by simp) _⟩
    rw [World.cell?_setCell_same' _ _ _ (by rw [hc]; rfl), ByteArray.toList_eq]
  case done =>
    rintro D ys f W hD hys ⟨⟨hb1, hb2⟩, hp, hbW⟩ hK
    have hn : cls (rs s.data.toList) = [] := by
      have := congrArg List.length (hys.symm.trans hp)
      rw [prs_length] at this
      exact List.length_eq_zero_iff.1 this
    have hv : false = v0 := by rw [← HV0.out]; unfold isC; rw [hn]
    subst hv
    have hc := hb2.cell
    have hfr := hb2.frozen
    clear hys hp hn
    go_wp2
    have hK' := (KeepsOthers.setCell W ⟨w.heap.size + 1, 0, none⟩ (.bool false)).same D _ hK rfl
    refine ⟨by simp, .inl ⟨_, _, rfl, run_takeDeferred hK', ?_⟩⟩
    have hc5 := cell_kept (World.cell?_setCell_same' W ⟨w.heap.size + 1, 0, none⟩ (.bool false) (by rw [hc]; rfl)) (grownBy_putObj' _ D (.deferred none)) (fun r e => by cases e; exact ⟨_, hK', rfl⟩)
    refine ⟨.bool false, ?_, rfl, (hbW.setCell (p := ⟨w.heap.size + 1, 0, none⟩) (by simp) _).trans (belowK_b (w := w) (Nat.le_refl _) _ D _ _ (by simp at hD; omega) hK' rfl rfl)⟩
    simp [results, Tryd.f35, go_sem, hc5]
  case stop =>
    rintro D c pre f W hD hpre ⟨⟨rfl, x, hx, hc⟩, hbW⟩ hK
    have hv : (x.2 == s.data.toList) = v0 := by
      rw [← HV0.out]
      unfold isC
      obtain ⟨t, ht⟩ := hpre
      rw [hx] at ht
      cases hcl : cls (rs s.data.toList) with
      | nil => rw [hcl] at ht; cases ht
      | cons a l =>
        rw [hcl] at ht
        simp only [prs, List.cons_append, List.nil_append] at ht
        injection ht with h1 h2
        rw [h1]
    rw [hv] at hc
    clear hv hx hpre
    gi_wp2
    refine ⟨by simp, .inl ⟨_, _, rfl, run_takeDeferred hK, ?_⟩⟩
    have hc5 := cell_kept hc (grownBy_putObj' _ D (.deferred none)) (fun r e => by cases e; exact ⟨_, hK, rfl⟩)
    refine ⟨.bool v0, ?_, rfl, hbW.trans (belowK_b (w := w) (Nat.le_refl _) W D _ _ (by simp at hD; omega) hK rfl rfl)⟩
    simp [results, Tryd.f35, go_sem, hc5]
end Go.Proofs.YtmgakdbcgdhpaaaDoor
