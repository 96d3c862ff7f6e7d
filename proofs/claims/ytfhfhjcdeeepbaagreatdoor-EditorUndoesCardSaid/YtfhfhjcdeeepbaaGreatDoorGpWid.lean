/-
  Walk: Widths.
-/
import Derived.Test.YtfhfhjcdeeepbaaGreatDoorRegKI
import Derived.Test.YtfhfhjcdeeepbaaGreatDoorGpText
import Derived.Test.YtfhfhjcdeeepbaaGreatDoorGpTold
import Derived.Test.YtfhfhjcdeeepbaaGreatDoorGfF
namespace Go.Proofs.YtfhfhjcdeeepbaaGreatDoor
open Go.RowKit Go.Shelf
attribute [local go_sem] Oper.semAt_some
set_option linter.unusedVariables false
set_option linter.unusedSimpArgs false

/-- the widths of texts as cells -/
def wv (l : List (List UInt8)) : List Value := l.map fun c => .int .i64 (fw (rs c))
theorem wv_length (l : List (List UInt8)) : (wv l).length = l.length := by simp [wv]
set_option maxRecDepth 100000 in
set_option maxHeartbeats 4000000 in
theorem gwidths_any {w : World} {lo g n C most f t : Nat} {A : Option Addr} {p s : List (List UInt8)} (h : GpAt w lo g A n C most f t p s) (hT : Tabs w) :
    Calls Tryz.prog 31 #[.pointer (some ⟨g, 0, none⟩)] w fun e w' => ∃ A c, e = .returned (.slice A (ln p s) c) ∧ OR w' w.heap.size 3 A (ln p s) c (wv (p ++ s)) ∧ Below w.heap.size w w' := by
  have H := Lib.hid h
  have HT := Lib.hid hT
  have hown := h.own_lt
  have hl4 : ln p s ≤ 4096 := by have := h.ln_le; have := h.m4; omega
  have h64 : ∀ c ∈ p ++ s, c.length ≤ 64 := fun c hc => isC_len (h.is c hc)
  clear h hT
  refine (callsIn_wide (n := 9)).1 ?_
  refine callsIn_of_wp_marks Tryz.func31 rfl trivial ?_ rfl
  simp only [Tryz.ntmps31, List.size_toArray, List.length_cons, List.length_nil, Nat.reduceAdd, Nat.reduceSub, Array.replicate_succ, Array.replicate_zero, List.push_toArray, List.append_toArray, List.nil_append, List.cons_append]
  refine wpIn_wide.2 ?_
  go_wp2_with (go_at_call 37; refine (gall_any _ _).mono ?_; rintro e w' ⟨rfl, rfl⟩)
  refine (wpIn_wide (n := 9)).1 ?_
  have hB := (Boxed.new w 54 (.slice none 0 0)).alloc (.cells #[.pointer (some ⟨g, 0, none⟩)] 43)
  have hS := Boxed.new (w.alloc (.cells #[.slice none 0 0] 54)) 43 (.pointer (some ⟨g, 0, none⟩))
  rw [World.size_alloc] at hS
  have hb0 : Below w.heap.size w ((w.alloc (.cells #[.slice none 0 0] 54)).alloc (.cells #[.pointer (some ⟨g, 0, none⟩)] 43)) := ((Below.refl _ w).alloc (Nat.le_refl _) _).alloc (by simp) _
  have hG := H.out.below hb0
  refine range_priv rfl (by omega) (gf := 64) (lb := #[.pointer (some ⟨w.heap.size + 1, 0, none⟩)]) rfl trivial (enters_of Tryz.func64 (by kernel_rfl) rfl)
    (gall_stops hG (w.heap.size + 1) hS.cell (lent w.heap.size (w.heap.size + 1)) (.inr rfl) (fun k hk => .inl (hown k hk).2))
    (Nat.le_refl _) (fun k hk => ⟨by rcases hk with hk | hk <;> simp <;> omega, rfl⟩) (fun _ => rfl)
    (fun pre f W => HoldP w.heap.size 54 3 w.heap.size (wv (pre.map (·.2))) f W ∧ Below w.heap.size w W)
    (fun _ _ _ _ => False)
    (AbP.and (AbP.hold (fun (pre : List (Nat × List UInt8)) => wv (pre.map (·.2))) (by simp <;> omega)) (AbP.below (by simp <;> omega) (Nat.le_refl _)))
    (fun _ => AbP.none _)
    ⟨⟨none, 0, 0, hB, OR.none_ _ _ _, fun g hg => by cases hg⟩, hb0⟩
    (fun x => { tmps := #[.pointer (some ⟨g, 0, none⟩), undef, .slice none 0 0, .pointer (some ⟨w.heap.size, 0, none⟩), undef, .string ⟨x.2.toArray⟩, .pointer (some ⟨g, 0, none⟩), .func (.func 64) #[] #[.pointer (some ⟨w.heap.size + 1, 0, none⟩)], .int .i64 x.1, .string ⟨x.2.toArray⟩, undef, undef, undef, undef, undef, undef], defers := [] }) ?assign ?body ?done ?stop
  case assign =>
    intro l x W K hK
    simp only [encG]
    rw [put_two]
    gi_wp2
    exact hK
  case body =>
    rintro l pre x f W hf hz ⟨⟨A, n, c, hb, hr, hm⟩, hbW⟩ hlen hel
    have hx64 : x.2.length ≤ 64 := h64 _ (List.mem_of_getElem? hel)
    have hxs : (⟨x.2.toArray⟩ : ByteArray).size ≤ 4000000 := by rw [size_of]; omega
    have hn : n = pre.length := by rw [hr.len, wv_length, List.length_map]
    subst hn
    have hnf := not_lent (b := w.heap.size) hf (Nat.le_refl _) (by omega) (by simp <;> omega)
    have hfs : ∀ k, f k → k < W.heap.size := fun k hk => by
      rcases hf k hk with h | h
      · rcases h with h | h
        · have := hbW.size; omega
        · simp at hz; omega
      · exact h.2
    have hlw := hb.lt
    have hTW : Tabs W := HT.out.below hbW
    have hcw := cwidth_any (⟨x.2.toArray⟩ : ByteArray) hxs
    have hc0 := hb.cell
    have law : ∀ W1, Below W.heap.size W W1 → ∃ A5 c5 w5, (Builtin.append_ #[54, 54] 54 #[.slice A pre.length c, .slice (some ⟨W1.heap.size, 0, none⟩) 1 1]).run Tryz.prog (W1.alloc (.cells #[.int .i64 (fw (rs x.2))] 3)) = .ok (.slice A5 (pre.length + 1) c5) w5 ∧
        (Rk ((w.alloc (.cells #[.slice none 0 0] 54)).alloc (.cells #[.pointer (some ⟨g, 0, none⟩)] 43)).heap.size f W (w5.setCell ⟨w.heap.size, 0, none⟩ (.slice A5 (pre.length + 1) c5)) ∧ HoldP w.heap.size 54 3 w.heap.size (wv ((pre ++ [x]).map (·.2))) f (w5.setCell ⟨w.heap.size, 0, none⟩ (.slice A5 (pre.length + 1) c5)) ∧ Below w.heap.size w (w5.setCell ⟨w.heap.size, 0, none⟩ (.slice A5 (pre.length + 1) c5))) ∧
        w5.cell? ⟨w.heap.size, 0, none⟩ = some (.slice A pre.length c) ∧ w5.frozen? ⟨w.heap.size, 0, none⟩ = false := fun W1 hW1 => by
      have hwx : Below W.heap.size W (W1.alloc (.cells #[.int .i64 (fw (rs x.2))] 3)) := hW1.alloc hW1.size _
      obtain ⟨A5, c5, w5, hrun, hO5, hg5, hat5⟩ := run_app Tryz.underlying54 i64_info rfl (by omega) (W1.alloc (.cells #[.int .i64 (fw (rs x.2))] 3)) 54 w.heap.size A pre.length c _ (hr.below hwx (fun g hg => (hr.blk_lt g hg).2)) (some ⟨W1.heap.size, 0, none⟩) 1 1 [.int .i64 (fw (rs x.2))] (W1.heap.size + 1) (Sl.new W1 #[.int .i64 (fw (rs x.2))] 3) rfl (fun e => by cases e) (by intro u hu; simp at hu; subst hu; rfl) (pre.length + 1) rfl (by omega) (by have := hW1.size; have := hbW.size; simp; omega)
      obtain ⟨hH, hRk, hb5, hbe⟩ := HoldP.appended (X := W1.alloc (.cells #[.int .i64 (fw (rs x.2))] 3)) (by decide) (Nat.le_refl _) hfs hwx hb hr hm hnf hO5 hg5 (blk_at hat5) ((w.alloc (.cells #[.slice none 0 0] 54)).alloc (.cells #[.pointer (some ⟨g, 0, none⟩)] 43)).heap.size
      refine ⟨A5, c5, w5, hrun, ⟨hRk, ?_, hbW.trans (hbe hbW.size)⟩, hb5.cell, hb5.frozen⟩
      have e : wv ((pre ++ [x]).map (·.2)) = wv (pre.map (·.2)) ++ [.int .i64 (fw (rs x.2))] := by simp [wv]
      rw [e]
      exact hH
    have LAW := Lib.hid law
    have HCW := Lib.hid hcw
    have HTW := Lib.hid hTW
    clear law hcw hTW hb hr hm hnf hfs hbW hf hel hlen hx64 hxs hB hS hb0 hG h64 hown
    gi_wp2
    refine wpIn_region_K (fun W1 : World => W1.cell? ⟨w.heap.size, 0, none⟩ = some (.slice A pre.length c)) 4 (by kernel_rfl) ?_
    refine wpAnyKIn_take (i := 0) (v := .slice A pre.length c) rfl rfl (by kernel_rfl) (by kernel_rfl) (by kernel_rfl) (by kernel_rfl) (fun _ _ _ h => h) (Or.inl ⟨by rfl, fun w1 hSw => ?hy0⟩) (fun _ => rfl) hc0 ?rest0
    case hy0 =>
      have s1 := hSw
      clear hSw
      try dsimp only at s1
      go_simp
      try with_reducible rfl
    case rest0 =>
    change wpAnyKIn _ _ _ _ _ _ _ _ _ _ (Act.put _ (some 10) _) _
    try simp only [Act.put, List.setIfInBounds_toArray, List.set_cons_zero, List.set_cons_succ]
    refine wpAnyKIn_takeP (i := 1) (v := .string ⟨x.2.toArray⟩) rfl rfl (by kernel_rfl) (by kernel_rfl) (by kernel_rfl) (by kernel_rfl) (fun _ _ _ h => h) (Or.inl ⟨by rfl, fun w1 hSw => ?hy1⟩) (fun _ => rfl) (.inr hc0) ?rest1
    case hy1 =>
      go_simp
      try with_reducible rfl
    case rest1 =>
    change wpAnyKIn _ _ _ _ _ _ _ _ _ _ (Act.put _ (some 11) _) _
    try simp only [Act.put, List.setIfInBounds_toArray, List.set_cons_zero, List.set_cons_succ]
    refine wpAnyKIn_only (i := 2) (by kernel_rfl) rfl rfl (fun K hK => ?_)
    refine stepI_call 60 _ _ rfl (enters_of Tryz.func60 (by kernel_rfl) rfl) #[.string ⟨x.2.toArray⟩] (by simp [Act.eval, Act.put]) (HCW.out W.drew (HTW.out.below ((Below.refl _ W).drew))) ?_
    rintro e w1 ⟨rfl, hb1⟩
    refine ⟨_, rfl, ?_⟩
    obtain ⟨A5, c5, w5, hrun, hfin, hc5, hf5⟩ := LAW.out w1 ((Below.refl _ W).drew.trans hb1)
    have HR := Lib.hid hrun
    have FIN := Lib.hid hfin
    have hc1 : w1.cell? ⟨w.heap.size, 0, none⟩ = some (.slice A pre.length c) := (hb1.cell (p := ⟨w.heap.size, 0, none⟩) hlw).trans hc0
    have hbs := hb1.size
    have HC6 : Hid ((w1.alloc (.cells #[.int .i64 (fw (rs x.2))] 3)).cell? ⟨w.heap.size, 0, none⟩ = some (.slice A pre.length c)) := Lib.hid ((((Below.refl w1.heap.size w1).alloc (Nat.le_refl _) _).cell (p := ⟨w.heap.size, 0, none⟩) (Nat.lt_of_lt_of_le hlw hbs)).trans hc1)
    clear hrun hfin
    refine hK.out _ _ (.inr hc1) ?_
    clear hK K
    change wpAnyKIn _ _ _ _ _ _ _ _ _ _ (Act.put _ (some 12) _) _
    try simp only [Act.put, List.setIfInBounds_toArray, List.set_cons_zero, List.set_cons_succ]
    refine wpAnyKIn_only (i := 3) (by kernel_rfl) rfl rfl (fun K hK => ?_)
    go_simp
    refine hK _ _ (.inr HC6.out) ?_
    clear hK K
    try simp only [Act.put, List.setIfInBounds_toArray, List.set_cons_zero, List.set_cons_succ]
    refine wpAnyKIn_only (i := 4) (by kernel_rfl) rfl rfl (fun K hK => ?_)
    refine stepI_app 54 54 (.tmp 10) (.tmp 13) rfl _ _ _ _ rfl rfl HR.out ?_
    refine hK.out _ _ (.inl (by kernel_rfl)) ?_
    clear hK K
    change wpAnyKIn _ _ _ _ _ _ _ _ _ _ (Act.put _ (some 14) _) _
    try simp only [Act.put, List.setIfInBounds_toArray, List.set_cons_zero, List.set_cons_succ]
    refine wpAnyKIn_only (i := 5) (by kernel_rfl) rfl rfl (fun K hK => ?_)
    go_simp
    refine hK _ _ (.inl (by kernel_rfl)) ?_
    clear hK K
    try simp only [Act.put, List.setIfInBounds_toArray, List.set_cons_zero, List.set_cons_succ]
    refine wpAnyKIn_done (by kernel_rfl) ?_ _
    gi_wp2
    exact FIN.out
  case done =>
    rintro D ys f W hD rfl ⟨⟨A, n, c, hb, hr, hm⟩, hbW⟩ hK
    rw [ats_snd] at hr
    have hn : n = ln p s := by rw [hr.len, wv_length, ln_eq]
    subst hn
    have hc := hb.cell
    have HR := Lib.hid hr
    have HB := Lib.hid hbW
    clear hb hm hbW hB hS hb0 hG h64 hown hr
    go_wp2
    refine ⟨by simp, .inl ⟨_, _, rfl, run_takeDeferred hK, ?_⟩⟩
    refine ⟨_, results_tmp rfl _ _ _, A, c, rfl, ⟨ownsRow_putObj HR.out.1 (.deferred none) hK rfl, HR.out.2⟩, HB.out.trans (belowK_b (w := w) (Nat.le_refl _) W D _ _ (by simp at hD; omega) hK rfl rfl)⟩
  case stop =>
    rintro D c pre f W _ _ h _
    exact h.elim
end Go.Proofs.YtfhfhjcdeeepbaaGreatDoor
