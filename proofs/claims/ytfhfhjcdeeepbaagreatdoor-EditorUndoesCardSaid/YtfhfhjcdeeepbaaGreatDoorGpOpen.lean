/-
  Walk: open (the gap goes to the cursor's new place).
-/
import Derived.Test.YtfhfhjcdeeepbaaGreatDoorGpMem
import Derived.Test.YtfhfhjcdeeepbaaGreatDoorRegT
import Derived.Test.YtfhfhjcdeeepbaaGreatDoorQuietB
import Derived.Deep.RegionHeld3
import Derived.Deep.DeepCutAuto
import Derived.BigRegion
import Derived.IntWalk
namespace Go.Proofs.YtfhfhjcdeeepbaaGreatDoor
open Go.RowKit Go.Sort
set_option linter.unusedVariables false
set_option linter.unusedSimpArgs false

theorem str_size : (Tryz.prog.info? 9).map (·.size) = some 1 := by kernel_rfl
theorem strs_elem : Tryz.prog.underlying 38 = some (.slice (Tryz.prog.elem 38)) := by kernel_rfl
theorem strs_esize (w : World) : (sizeOf (Tryz.prog.elem 38)).run Tryz.prog w = .ok 1 w := by kernel_rfl
theorem sl_lh (A : Option Addr) (n C lo hi : Nat) (h1 : lo ≤ hi) (h2 : hi ≤ C) (w : World) :
    (Instr.slice 38 (.slice A n C) (some (.int .i64 lo)) (some (.int .i64 hi)) none).run Tryz.prog w = .ok (.slice (bh A C lo) (hi - lo) (C - lo)) w := by
  rw [run_slice_lh w 38 A n C strs_elem .i64 .i64 lo hi (by omega) (by omega) (by omega), strs_esize]
  simp [Result.andThen, sliced, bh]
theorem sl_l (A : Option Addr) (n C lo : Nat) (h1 : lo ≤ n) (w : World) :
    (Instr.slice 38 (.slice A n C) (some (.int .i64 lo)) none none).run Tryz.prog w = .ok (.slice (bh A C lo) (n - lo) (C - lo)) w := by
  rw [run_slice_l w 38 A n C strs_elem .i64 lo (by omega) (by omega), strs_esize]
  simp [Result.andThen, sliced, bh]
theorem bh_at {ab C lo k : Nat} (h : 0 < k) (h2 : lo + k ≤ C) : bh (some ⟨ab, 0, none⟩) C lo = some ⟨ab, lo, none⟩ := by
  unfold bh
  rw [if_neg (by omega)]
  by_cases h0 : lo = 0 <;> simp [Addr.add, h0]
theorem add_at' (b o j : Nat) : (⟨b, o, none⟩ : Addr).add j = ⟨b, o + j, none⟩ := by by_cases h : j = 0 <;> simp [Addr.add, h]
theorem gp_sets (g : Nat) (most : Int) (A : Option Addr) (n C : Nat) (f t a b : Int) :
    (([.pointer (some ⟨g, 0, none⟩), .int .i64 most, .slice A n C, .int .i64 f, .int .i64 t] : List Value).set 3 (.int .i64 a)).set 4 (.int .i64 b) = [.pointer (some ⟨g, 0, none⟩), .int .i64 most, .slice A n C, .int .i64 a, .int .i64 b] := rfl

theorem chg_via {S : Nat → Prop} {w w1 w2 : World} {ab : Nat} (hb : Below w.heap.size w w1) (hg : w1.grownBy w2 (some ab)) (hS : S ab) : Chg S w w2 :=
  (Chg.of_below hb (S := S)).grown hg (fun k hk => .inl (by injection hk with hk; exact hk ▸ hS))

set_option maxRecDepth 100000 in
set_option maxHeartbeats 4000000 in
theorem open_any {w : World} {lo g n C most f t : Nat} {A : Option Addr} {p s : List (List UInt8)} (h : GpAt w lo g A n C most f t p s) (a : Nat) (ha : a ≤ ln p s) :
    Calls Tryz.prog 100 #[.pointer (some ⟨g, 2, none⟩), .int .i64 a] w fun e w' => e = .returned (.tuple #[]) ∧
      GpAt w' lo g A n C most a (a + (t - f)) ((p ++ s).take a) ((p ++ s).drop a) ∧ Chg (GpOwn g A) w w' := by
  have hl := h.lnf
  have hfp := h.fp
  have hft := h.ft
  have htn := h.tn
  have hnC := h.nC
  have hle := h.le
  have hm4 := h.m4
  have hfi : (f : Int) ≤ 4096 := by omega
  have hti : (t : Int) ≤ 4096 := by omega
  have hai : (a : Int) ≤ 4096 := by omega
  obtain ⟨b, hb⟩ : ∃ b, b = a + (t - f) := ⟨_, rfl⟩
  have hbi : (b : Int) = (a : Int) + t - f := by omega
  have H := Lib.hid h
  have HD := Lib.hid h.head
  rw [← hb]
  have hc3 := h.c3
  have hc4 := h.c4
  have hlin : ((p ++ s).drop a).length = p.length + s.length - a := by simp
  have ha' : a ≤ f + (n - t) := by omega
  have hab : a ≤ b := by omega
  have hbn : b ≤ n := by omega
  have hbn2 : b + ((p ++ s).drop a).length = n := by rw [hlin]; omega
  -- what is left behind the walk
  have fin : ∀ (w1 w2 : World) (cur : List Value), Hid (Blk w1 g 82 [.pointer (some ⟨g, 0, none⟩), .int .i64 most, .slice A n C, .int .i64 a, .int .i64 b]) → Hid (Chg (one g) w w1) →
      Hid (Chg (fun k => blk A = some k) w1 w2) →
      ((A = none ∧ C = 0) ∨ ∃ ab tl, A = some ⟨ab, 0, none⟩ ∧ 1 ≤ n ∧ C = n + tl.length ∧ Blk w2 ab 9 (gc sz (sv ((p ++ s).take a)) (b - a) (sv ((p ++ s).drop a)) tl) ∧ lo ≤ ab) →
      GpAt w2 lo g A n C most a b ((p ++ s).take a) ((p ++ s).drop a) ∧ Chg (GpOwn g A) w w2 := fun w1 w2 cur hw1 hg1 hg2 hall =>
    ⟨⟨hw1.out.chg hg2.out (fun e => H.out.ne e rfl), by rw [List.length_take, ← ln_eq]; exact Nat.min_eq_left ha, hab, hbn2, hnC, hall, hle, H.out.m1, hm4, H.out.lo, by rw [List.take_append_drop]; exact H.out.is⟩,
      (hg1.out.mono (fun j hj => .inl (.inl hj))).trans hg2.out (fun j hj => .inl (.inr hj))⟩
  have FIN := Lib.hid fin
  have HB := Lib.hid hb
  have HBI := Lib.hid hbi
  have HFP := Lib.hid hfp
  have HTN := Lib.hid htn
  have HL := Lib.hid hl
  have HA := Lib.hid h.all
  clear h hl hfp htn fin hlin hbn2
  have HH3 : Hid (∀ w1 : World, Blk w1 g 82 [.pointer (some ⟨g, 0, none⟩), .int .i64 most, .slice A n C, .int .i64 a, .int .i64 b] → (w1.cell? ⟨g, 2, none⟩ = some (.slice A n C) ∧ w1.cell? ⟨g, 3, none⟩ = some (.int .i64 a) ∧ w1.cell? ⟨g, 4, none⟩ = some (.int .i64 b))) := fun w1 h => ⟨h.cell 2, h.cell 3, h.cell 4⟩
  by_cases haf : a < f
  · have hafi : (a : Int) < f := by omega
    have hbt : b ≤ t := by have := HB.out; omega
    have E1 := fun w => sl_lh A n C b t hbt (by have := HTN.out; omega) w
    have E2 := fun w => sl_lh A n C a f (by omega) (by have := HTN.out; omega) w
    have E3 := fun w => sl_lh A n C a b (by have := HB.out; omega) (by omega) w
    obtain ⟨ab, tl, rfl, hn1, hC, hblk, hlo⟩ : ∃ ab tl, A = some ⟨ab, 0, none⟩ ∧ 1 ≤ n ∧ C = n + tl.length ∧ Blk w ab 9 (gc sz (sv p) (t - f) (sv s) tl) ∧ lo ≤ ab := by
      rcases HA.out with ⟨_, h0⟩ | h0
      · have := HTN.out; omega
      · exact h0
    have hp : p = p.take a ++ p.drop a := (List.take_append_drop a p).symm
    have hpl : (p.take a).length = a := by rw [List.length_take]; have := HFP.out; omega
    have hdl : (p.drop a).length = f - a := by rw [List.length_drop, HFP.out]
    obtain ⟨l1, l2⟩ := line_left p s a (by have := HFP.out; omega)
    have hgl : gc sz (sv p) (t - f) (sv s) tl = gc sz (sv (p.take a) ++ sv (p.drop a)) (t - f) (sv s) tl := by rw [← sv_append, ← hp]
    have hsp := gc_left sz (sv (p.take a)) (sv (p.drop a)) (t - f) (sv s) tl a b (by rw [sv_length, hpl]) (by rw [sv_length, hpl]; exact HB.out)
    rw [← hgl, ← sv_append, ← l1, ← l2] at hsp
    have hlen : (gc sz (sv p) (t - f) (sv s) tl).length = C := by rw [gc_length, sv_length, sv_length, HFP.out]; have := HTN.out; omega
    have hsrc : ∀ (j : Nat) v, (sv (p.drop a))[j]? = some v → w.cell? ((⟨ab, a, none⟩ : Addr).add j) = some v := fun j v hv => by
      have hj : j < (p.drop a).length := by have := (List.getElem?_eq_some_iff.1 hv).1; rwa [sv_length] at this
      rw [add_at', hblk.cell, gc_pre _ _ _ _ _ (by rw [sv_length, HFP.out]; omega), ← hv, ← sv_drop, List.getElem?_drop]
    have HG := Lib.hid hblk
    have HSP := Lib.hid hsp
    have HLEN := Lib.hid hlen
    have HSRC := Lib.hid hsrc
    have HDL := Lib.hid hdl
    have HC := Lib.hid hC
    have HNC := Lib.hid hnC
    have hfa : f - a ≤ 4096 := by omega
    have hgne : Hid (g ≠ ab) := H.out.ne rfl
    clear hb hbi hnC hle hblk hsp hgl hp hpl hdl l1 l2 hlen hsrc hC hn1 HA
    go_enter Tryz.func100, Tryz.ntmps100
    go_wp2_with (fail)
    go_quiet (fail)
    go_wp2_with (first
      | ((with_reducible refine at_store 23 ?_); refine wpList_store_cell rfl _ _ _ rfl rfl g 3 _ _ (.int .i64 a) rfl rfl (HD.out.drewN _) (by simp) (by kernel_rfl) rfl ?_; intro w5 hn5 hg5; have HN5 := Lib.hid hn5; have HG5 := Lib.hid hg5; clear hn5 hg5)
      | ((with_reducible refine at_store 25 ?_); refine wpList_store_cell rfl _ _ _ rfl rfl g 4 _ _ (.int .i64 b) rfl (by rw [HBI.out]; rfl) HN5.out (by simp) (by kernel_rfl) rfl ?_; intro w6 hn6 hg6; rw [gp_sets] at hn6; obtain ⟨d2, d3, d4⟩ := HH3.out _ hn6; have HN6 := Lib.hid hn6; have HG6 := Lib.hid hg6; clear hn6 hg6))
    have hc1 : Chg (one g) w w6 := (((Chg.refl (one g) w).drewN nq).trans (chg_of_grown HG5.out) (fun _ h => .inl h)).trans (chg_of_grown HG6.out) (fun _ h => .inl h)
    have HG1 := Lib.hid (HG.out.chg hc1 (fun e => hgne.out e.symm))
    have HC1 := Lib.hid hc1
    have HSRC1 := Lib.hid (fun (j : Nat) v hv => hc1.cell (HSRC.out j v hv) (fun e => hgne.out (by rw [add_at'] at e; exact e.symm)))
    clear hc1 hc3 hc4
    have k2 := cell_regrown d2
    have k4 := cell_regrown d4
    refine wp_region_below_tail 17 (by kernel_rfl) (by kernel_rfl) ?_
    simp only [List.take_succ_cons, List.take_zero, List.drop_succ_cons, List.drop_zero]
    repeat (first
      | go_big_quiet_step (fail)
      | quiet_step (fail))
    refine wpQuiet_nil ?_
    intro _ hw'
    obtain ⟨⟨dq, osq⟩, hw''⟩ := hw'
    subst hw''
    have HBQ := Lib.hid (below_regrown w6 dq osq)
    have HG2 := Lib.hid (HG1.out.chg (Chg.of_below (S := noB) HBQ.out) (fun h => h))
    have HN2 := Lib.hid (HN6.out.chg (Chg.of_below (S := noB) HBQ.out) (fun h => h))
    have HSRC2 := Lib.hid (fun (j : Nat) v hv => (Chg.of_below (S := noB) HBQ.out).cell (HSRC1.out j v hv) (fun h => h))
    clear k2 k4 d2 d3 d4
    generalize grow (redrawn w6 dq) osq = w2 at *
    go_wp2_with ((with_reducible refine at_dst 46 ?_); refine wpList_copy_k rfl (.tmp 38) (.tmp 45) _ _ rfl 9 1 Tryz.underlying38 str_size (bh (some ⟨ab, 0, none⟩) C b) (bh (some ⟨ab, 0, none⟩) C a) (t - b) (C - b) (f - a) (C - a) rfl rfl ab b 9 _ HG2.out (sv (p.drop a)) (f - a) (by show f - a = min (f - a) (t - b); have := HB.out; omega) (by rw [sv_length, HDL.out]; omega) (fun h0 => ⟨bh_at h0 (by have := HB.out; have := HC.out; have := HTN.out; omega), _, bh_at h0 (by have := HC.out; have := HTN.out; omega), HSRC2.out⟩) (by rw [sv_length, HDL.out, HLEN.out]; have := HB.out; have := HC.out; have := HTN.out; omega) (sv_one _) ?_; intro w7 hn7 hg7; have HN7 := Lib.hid hn7; have HG7 := Lib.hid hg7; clear hn7 hg7)
    have hc7 : Chg (fun k => blk (some (⟨ab, 0, none⟩ : Addr)) = some k) w6 w7 := chg_via HBQ.out HG7.out rfl
    have hd7 := HN6.out.chg hc7 (fun e => hgne.out (by have : ab = g := by simpa [blk] using e
                                                       exact this.symm))
    obtain ⟨d2, d3, d4⟩ := HH3.out _ hd7
    have k2 := cell_regrown d2
    have k3 := cell_regrown d3
    have k4 := cell_regrown d4
    have HC7 := Lib.hid hc7
    clear hd7 hc7
    refine wp_region_below_tail 13 (by kernel_rfl) (by kernel_rfl) ?_
    simp only [List.take_succ_cons, List.take_zero, List.drop_succ_cons, List.drop_zero]
    repeat (first
      | go_big_quiet_step (fail)
      | quiet_step (fail))
    refine wpQuiet_nil ?_
    intro _ hw'
    obtain ⟨⟨dq, osq⟩, hw''⟩ := hw'
    subst hw''
    have HBQ2 := Lib.hid (below_regrown w7 dq osq)
    have HN8 := Lib.hid (HN7.out.chg (Chg.of_below (S := noB) HBQ2.out) (fun h => h))
    clear k2 k3 k4 d2 d3 d4
    generalize grow (redrawn w7 dq) osq = w8 at *
    go_wp2_with (refine wpList_clear_k rfl (.tmp 77) _ rfl 9 sz Tryz.underlying38 Tryz.zeroValue9 rfl rfl (bh (some ⟨ab, 0, none⟩) C a) (b - a) (C - a) rfl ab a 9 _ HN8.out (fun h0 => bh_at h0 (by have := HB.out; have := HC.out; have := HTN.out; omega)) (by rw [length_splice _ _ _ (by rw [sv_length, HDL.out, HLEN.out]; have := HB.out; have := HC.out; have := HTN.out; omega), HLEN.out]; have := HB.out; have := HC.out; have := HTN.out; omega) ?_; intro w9 hn9 hg9; have HN9 := Lib.hid hn9; have HG9 := Lib.hid hg9; clear hn9 hg9)
    go_end0
    have hba : b - a = t - f := by have := HB.out; omega
    refine ⟨rfl, FIN.out w6 w9 [] HN6 HC1 (Lib.hid (HC7.out.trans (chg_via (S := fun k => blk (some (⟨ab, 0, none⟩ : Addr)) = some k) HBQ2.out HG9.out rfl) (fun k hk => .inl hk))) (.inr ⟨ab, tl, rfl, by first | exact hn1 | (have := HTN.out; omega), HC.out, ?_, hlo⟩)⟩
    have := HN9.out
    rw [hba, HSP.out] at this
    rw [hba]
    exact this
  · have hafi : ¬ (a : Int) < f := by omega
    have htb : t ≤ b := by have := HB.out; omega
    have E1 := fun w => sl_lh A n C f a (by omega) (by omega) w
    have E2 := fun w => sl_lh A n C t b (by omega) (by omega) w
    have E3 := fun w => sl_lh A n C a b (by have := HB.out; omega) (by omega) w
    rcases HA.out with ⟨rfl, hC0⟩ | ⟨ab, tl, rfl, hn1, hC, hblk, hlo⟩
    · have ht0 : t = 0 := by have := HTN.out; omega
      have hf0 : f = 0 := by omega
      have ha0 : a = 0 := by omega
      have hb0 : b = 0 := by omega
      have hn0 : n = 0 := by omega
      subst ht0 hf0 ha0 hb0 hn0 hC0
      have HA0 : Hid ((none = (none : Option Addr)) ∧ (0 : Nat) = 0) := Lib.hid ⟨rfl, rfl⟩
      clear hb hbi hnC hle HA E1 E2 E3 haf hafi
      go_enter Tryz.func100, Tryz.ntmps100
      go_wp2_with (fail)
      go_quiet (fail)
      go_wp2_with (first
        | ((with_reducible refine at_store 23 ?_); refine wpList_store_cell rfl _ _ _ rfl rfl g 3 _ _ (.int .i64 (0 : Nat)) rfl rfl (HD.out.drewN _) (by simp) (by kernel_rfl) rfl ?_; intro w5 hn5 hg5; have HN5 := Lib.hid hn5; have HG5 := Lib.hid hg5; clear hn5 hg5)
        | ((with_reducible refine at_store 25 ?_); refine wpList_store_cell rfl _ _ _ rfl rfl g 4 _ _ (.int .i64 (0 : Nat)) rfl rfl HN5.out (by simp) (by kernel_rfl) rfl ?_; intro w6 hn6 hg6; rw [gp_sets] at hn6; obtain ⟨d2, d3, d4⟩ := HH3.out _ hn6; have HN6 := Lib.hid hn6; have HG6 := Lib.hid hg6; clear hn6 hg6))
      have k2 := cell_regrown d2
      have k3 := cell_regrown d3
      have k4 := cell_regrown d4
      refine wp_region_below_tail 17 (by kernel_rfl) (by kernel_rfl) ?_
      simp only [List.take_succ_cons, List.take_zero, List.drop_succ_cons, List.drop_zero]
      repeat (first
        | go_big_quiet_step (fail)
        | quiet_step (fail))
      refine wpQuiet_nil ?_
      intro _ hw'
      obtain ⟨⟨dq, osq⟩, hw''⟩ := hw'
      subst hw''
      have HBQ := Lib.hid (below_regrown w6 dq osq)
      have HN7 := Lib.hid (HN6.out.chg (Chg.of_below (S := noB) HBQ.out) (fun h => h))
      clear k2 k3 k4 d2 d3 d4
      generalize grow (redrawn w6 dq) osq = w7 at *
      go_wp2_with ((with_reducible refine at_dst 64 ?_); refine wpList_copy_k rfl (.tmp 53) (.tmp 63) _ _ rfl 9 1 Tryz.underlying38 str_size none none 0 0 0 0 rfl rfl g 0 82 _ HN7.out [] 0 rfl rfl (fun h0 => absurd h0 (by omega)) (by simp) (fun v hv => by cases hv) ?_; intro w8 hn8 hg8; have e8 : splice [Value.pointer (some ⟨g, 0, none⟩), .int .i64 (most : Nat), .slice none 0 0, .int .i64 (0 : Nat), .int .i64 (0 : Nat)] 0 [] = [.pointer (some ⟨g, 0, none⟩), .int .i64 (most : Nat), .slice none 0 0, .int .i64 (0 : Nat), .int .i64 (0 : Nat)] := rfl; rw [e8] at hn8; clear e8; obtain ⟨d2, d3, d4⟩ := HH3.out _ hn8; have HN8 := Lib.hid hn8; have HG8 := Lib.hid hg8; clear hn8 hg8)
      have k2 := cell_regrown d2
      have k3 := cell_regrown d3
      have k4 := cell_regrown d4
      refine wp_region_below_tail 13 (by kernel_rfl) (by kernel_rfl) ?_
      simp only [List.take_succ_cons, List.take_zero, List.drop_succ_cons, List.drop_zero]
      repeat (first
        | go_big_quiet_step (fail)
        | quiet_step (fail))
      refine wpQuiet_nil ?_
      intro _ hw'
      obtain ⟨⟨dq, osq⟩, hw''⟩ := hw'
      subst hw''
      have HBQ2 := Lib.hid (below_regrown w8 dq osq)
      have HN9 := Lib.hid (HN8.out.chg (Chg.of_below (S := noB) HBQ2.out) (fun h => h))
      clear k2 k3 k4 d2 d3 d4
      generalize grow (redrawn w8 dq) osq = w9 at *
      go_wp2_with (refine wpList_clear_k rfl (.tmp 77) _ rfl 9 sz Tryz.underlying38 Tryz.zeroValue9 rfl rfl none 0 0 rfl g 0 82 _ HN9.out (fun h0 => absurd h0 (by omega)) (by simp) ?_; intro wz hnz hgz)
      go_end0
      have hcz : Chg (one g) w wz := ((((Chg.refl (one g) w).drewN nq).trans (chg_of_grown HG5.out) (fun _ h => .inl h)).trans (chg_of_grown HG6.out) (fun _ h => .inl h)).trans ((chg_via (S := one g) HBQ.out HG8.out rfl).trans (chg_via (S := one g) HBQ2.out hgz rfl) (fun _ h => .inl h)) (fun _ h => .inl h)
      exact ⟨rfl, FIN.out wz wz [] (Lib.hid hnz) (Lib.hid hcz) (Lib.hid (Chg.refl _ _)) (by first | exact .inl ⟨rfl, rfl⟩ | simp)⟩
    · have hp : s = s.take (a - f) ++ s.drop (a - f) := (List.take_append_drop _ s).symm
      have hpl : (s.take (a - f)).length = a - f := by rw [List.length_take]; have := HTN.out; omega
      obtain ⟨l1, l2⟩ := line_right p s a (by have := HFP.out; omega)
      rw [HFP.out] at l1 l2
      have hgl : gc sz (sv p) (t - f) (sv s) tl = gc sz (sv p) (t - f) (sv (s.take (a - f)) ++ sv (s.drop (a - f))) tl := by rw [← sv_append, ← hp]
      have hsp := gc_right sz (sv p) (sv (s.take (a - f))) (t - f) (sv (s.drop (a - f))) tl f a (by rw [sv_length, HFP.out]) (by rw [sv_length, sv_length, hpl, HFP.out]; omega)
      rw [← hgl, ← sv_append, ← l1, ← l2] at hsp
      have hlen : (gc sz (sv p) (t - f) (sv s) tl).length = C := by rw [gc_length, sv_length, sv_length, HFP.out]; have := HTN.out; omega
      have hsrc : ∀ (j : Nat) v, (sv (s.take (a - f)))[j]? = some v → w.cell? ((⟨ab, t, none⟩ : Addr).add j) = some v := fun j v hv => by
        have hj : j < (s.take (a - f)).length := by have := (List.getElem?_eq_some_iff.1 hv).1; rwa [sv_length] at this
        rw [add_at', hblk.cell, gc_suf _ _ _ _ _ (by rw [sv_length, HFP.out]; omega) (by rw [sv_length]; have := HTN.out; omega), ← hv, ← sv_take, List.getElem?_take, if_pos (by omega)]
      have HG := Lib.hid hblk
      have HSP := Lib.hid hsp
      have HLEN := Lib.hid hlen
      have HSRC := Lib.hid hsrc
      have HDL := Lib.hid hpl
      have HC := Lib.hid hC
      have HNC := Lib.hid hnC
      have hfa : a - f ≤ 4096 := by omega
      have hgne : Hid (g ≠ ab) := H.out.ne rfl
      clear hb hbi hnC hle hblk hsp hgl hp hpl l1 l2 hlen hsrc hC HA
      go_enter Tryz.func100, Tryz.ntmps100
      go_wp2_with (fail)
      go_quiet (fail)
      go_wp2_with (first
        | ((with_reducible refine at_store 23 ?_); refine wpList_store_cell rfl _ _ _ rfl rfl g 3 _ _ (.int .i64 a) rfl rfl (HD.out.drewN _) (by simp) (by kernel_rfl) rfl ?_; intro w5 hn5 hg5; have HN5 := Lib.hid hn5; have HG5 := Lib.hid hg5; clear hn5 hg5)
        | ((with_reducible refine at_store 25 ?_); refine wpList_store_cell rfl _ _ _ rfl rfl g 4 _ _ (.int .i64 b) rfl (by rw [HBI.out]; rfl) HN5.out (by simp) (by kernel_rfl) rfl ?_; intro w6 hn6 hg6; rw [gp_sets] at hn6; obtain ⟨d2, d3, d4⟩ := HH3.out _ hn6; have HN6 := Lib.hid hn6; have HG6 := Lib.hid hg6; clear hn6 hg6))
      have hc1 : Chg (one g) w w6 := (((Chg.refl (one g) w).drewN nq).trans (chg_of_grown HG5.out) (fun _ h => .inl h)).trans (chg_of_grown HG6.out) (fun _ h => .inl h)
      have HG1 := Lib.hid (HG.out.chg hc1 (fun e => hgne.out e.symm))
      have HC1 := Lib.hid hc1
      have HSRC1 := Lib.hid (fun (j : Nat) v hv => hc1.cell (HSRC.out j v hv) (fun e => hgne.out (by rw [add_at'] at e; exact e.symm)))
      clear hc1 hc3 hc4
      have k2 := cell_regrown d2
      have k4 := cell_regrown d4
      refine wp_region_below_tail 17 (by kernel_rfl) (by kernel_rfl) ?_
      simp only [List.take_succ_cons, List.take_zero, List.drop_succ_cons, List.drop_zero]
      repeat (first
        | go_big_quiet_step (fail)
        | quiet_step (fail))
      refine wpQuiet_nil ?_
      intro _ hw'
      obtain ⟨⟨dq, osq⟩, hw''⟩ := hw'
      subst hw''
      have HBQ := Lib.hid (below_regrown w6 dq osq)
      have HG2 := Lib.hid (HG1.out.chg (Chg.of_below (S := noB) HBQ.out) (fun h => h))
      have HN2 := Lib.hid (HN6.out.chg (Chg.of_below (S := noB) HBQ.out) (fun h => h))
      have HSRC2 := Lib.hid (fun (j : Nat) v hv => (Chg.of_below (S := noB) HBQ.out).cell (HSRC1.out j v hv) (fun h => h))
      clear k2 k4 d2 d3 d4
      generalize grow (redrawn w6 dq) osq = w2 at *
      go_wp2_with ((with_reducible refine at_dst 64 ?_); refine wpList_copy_k rfl (.tmp 53) (.tmp 63) _ _ rfl 9 1 Tryz.underlying38 str_size (bh (some ⟨ab, 0, none⟩) C f) (bh (some ⟨ab, 0, none⟩) C t) (a - f) (C - f) (b - t) (C - t) rfl rfl ab f 9 _ HG2.out (sv (s.take (a - f))) (a - f) (by show a - f = min (b - t) (a - f); have := HB.out; omega) (by rw [sv_length, HDL.out]; omega) (fun h0 => ⟨bh_at h0 (by have := HB.out; have := HC.out; have := HTN.out; omega), _, bh_at h0 (by have := HC.out; have := HTN.out; omega), HSRC2.out⟩) (by rw [sv_length, HDL.out, HLEN.out]; have := HB.out; have := HC.out; have := HTN.out; omega) (sv_one _) ?_; intro w7 hn7 hg7; have HN7 := Lib.hid hn7; have HG7 := Lib.hid hg7; clear hn7 hg7)
      have hc7 : Chg (fun k => blk (some (⟨ab, 0, none⟩ : Addr)) = some k) w6 w7 := chg_via HBQ.out HG7.out rfl
      have hd7 := HN6.out.chg hc7 (fun e => hgne.out (by have : ab = g := by simpa [blk] using e
                                                         exact this.symm))
      obtain ⟨d2, d3, d4⟩ := HH3.out _ hd7
      have k2 := cell_regrown d2
      have k3 := cell_regrown d3
      have k4 := cell_regrown d4
      have HC7 := Lib.hid hc7
      clear hd7 hc7
      refine wp_region_below_tail 13 (by kernel_rfl) (by kernel_rfl) ?_
      simp only [List.take_succ_cons, List.take_zero, List.drop_succ_cons, List.drop_zero]
      repeat (first
        | go_big_quiet_step (fail)
        | quiet_step (fail))
      refine wpQuiet_nil ?_
      intro _ hw'
      obtain ⟨⟨dq, osq⟩, hw''⟩ := hw'
      subst hw''
      have HBQ2 := Lib.hid (below_regrown w7 dq osq)
      have HN8 := Lib.hid (HN7.out.chg (Chg.of_below (S := noB) HBQ2.out) (fun h => h))
      clear k2 k3 k4 d2 d3 d4
      generalize grow (redrawn w7 dq) osq = w8 at *
      go_wp2_with (refine wpList_clear_k rfl (.tmp 77) _ rfl 9 sz Tryz.underlying38 Tryz.zeroValue9 rfl rfl (bh (some ⟨ab, 0, none⟩) C a) (b - a) (C - a) rfl ab a 9 _ HN8.out (fun h0 => bh_at h0 (by have := HB.out; have := HC.out; have := HTN.out; omega)) (by rw [length_splice _ _ _ (by rw [sv_length, HDL.out, HLEN.out]; have := HB.out; have := HC.out; have := HTN.out; omega), HLEN.out]; have := HB.out; have := HC.out; have := HTN.out; omega) ?_; intro w9 hn9 hg9; have HN9 := Lib.hid hn9; have HG9 := Lib.hid hg9; clear hn9 hg9)
      go_end0
      have hba : b - a = t - f := by have := HB.out; omega
      refine ⟨rfl, FIN.out w6 w9 [] HN6 HC1 (Lib.hid (HC7.out.trans (chg_via (S := fun k => blk (some (⟨ab, 0, none⟩ : Addr)) = some k) HBQ2.out HG9.out rfl) (fun k hk => .inl hk))) (.inr ⟨ab, tl, rfl, by first | exact hn1 | (have := HTN.out; omega), HC.out, ?_, hlo⟩)⟩
      have := HN9.out
      rw [hba, HSP.out] at this
      rw [hba]
      exact this
end Go.Proofs.YtfhfhjcdeeepbaaGreatDoor
