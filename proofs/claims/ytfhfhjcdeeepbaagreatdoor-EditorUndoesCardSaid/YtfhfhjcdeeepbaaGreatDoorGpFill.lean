/-
  Walks: widen, fill (clusters go into the gap).
-/
import Derived.Test.YtfhfhjcdeeepbaaGreatDoorGpOpen
import Derived.Test.YtfhfhjcdeeepbaaGreatDoorRegK
import Derived.Test.YtfhfhjcdeeepbaaGreatDoorGfA
namespace Go.Proofs.YtfhfhjcdeeepbaaGreatDoor
open Go.RowKit Go.Sort
set_option linter.unusedVariables false
set_option linter.unusedSimpArgs false

theorem sl_src {w : World} {B : Nat} {A : Option Addr} {xs : List Value} (h : Sl w B A xs) (hn : 0 < xs.length) : ∃ ad, A = some ad ∧ ∀ j v, xs[j]? = some v → w.cell? (ad.add j) = some v := by
  obtain ⟨b, off, rfl, _, hc⟩ := h.open_ hn
  exact ⟨_, rfl, fun j v hv => by rw [add_at']; exact hc j v hv⟩
theorem made_str (n : Nat) : (madeCells #[.string ⟨#[]⟩] n).toList = List.replicate n sz := by
  apply List.ext_getElem?
  intro i
  by_cases hi : i < n
  · simp [madeCells, hi, List.getElem?_replicate, Nat.mod_one, sz]
  · simp [madeCells, hi, List.getElem?_replicate]
theorem gp_sets2 (g : Nat) (most : Int) (A A' : Option Addr) (n C n' C' : Nat) (f t b : Int) :
    (([.pointer (some ⟨g, 0, none⟩), .int .i64 most, .slice A n C, .int .i64 f, .int .i64 t] : List Value).set 2 (.slice A' n' C')).set 4 (.int .i64 b) = [.pointer (some ⟨g, 0, none⟩), .int .i64 most, .slice A' n' C', .int .i64 f, .int .i64 b] := rfl

/-- what widen leaves -/
def WidenP (w : World) (lo g most f size : Nat) (p s : List (List UInt8)) (u : Nat) (e : Ending) (w' : World) : Prop :=
  ∃ ab, e = .returned (.tuple #[]) ∧ w.heap.size ≤ ab ∧ GpAt w' lo g (some ⟨ab, 0, none⟩) size size most f u p s ∧ Chg (one g) w w'
set_option maxRecDepth 100000 in
set_option maxHeartbeats 4000000 in
theorem widen_any {w : World} {lo g n C most f t : Nat} {A : Option Addr} {p s : List (List UInt8)} (h : GpAt w lo g A n C most f t p s) (size : Nat) (h1 : ln p s ≤ size) (h2 : size ≤ most) (h3 : 1 ≤ size) :
    Calls Tryz.prog 117 #[.pointer (some ⟨g, 2, none⟩), .int .i64 size] w (WidenP w lo g most f size p s (size - s.length)) := by
  obtain ⟨i0, hi0, hz0, hz1, hz2⟩ := info_parts str_info
  have hl := h.lnf
  have hfp := h.fp
  have hft := h.ft
  have htn := h.tn
  have hle := h.le
  have hm4 := h.m4
  have hs4 : size ≤ 4096 := by omega
  obtain ⟨m, hm⟩ : ∃ m, m = s.length := ⟨_, rfl⟩
  rw [← hm] at htn
  rw [← hm]
  have hntm : n - t = m := by omega
  have hms : f + m ≤ size := by omega
  obtain ⟨u, hto⟩ : ∃ u, u = size - m := ⟨_, rfl⟩
  rw [← hto]
  have htoi : (u : Int) = (size : Int) - m := by omega
  have hto1 : u ≤ size := by omega
  have hsm : size - u = m := by omega
  have HI0 := Lib.hid hi0
  have HZ0 := Lib.hid hz0
  have HZ1 := Lib.hid hz1
  have HBY := Lib.hid (show i0.bytes * size ≤ 281474976710656 by rw [hz2]; omega)
  have HM := Lib.hid (made_str size)
  have H := Lib.hid h
  have HMS := Lib.hid hm
  have HNT := Lib.hid hntm
  have HTO := Lib.hid hto
  have HTI := Lib.hid htoi
  have HSM := Lib.hid hsm
  have HFP := Lib.hid hfp
  have hfm : f ≤ size := by omega
  have hgn := gc_new sz (sv p) (sv s) size u (by rw [sv_length, sv_length, hfp, ← hm]; omega) (by rw [sv_length, ← hm]; exact hto)
  have HGN := Lib.hid hgn
  have HLS := Lib.hid (show (sv s).length = m by rw [sv_length, hm])
  have HLP := Lib.hid (show (sv p).length = f by rw [sv_length, hfp])
  have E1 := fun w => sl_l (some ⟨w.heap.size, 0, none⟩) size size u hto1 w
  have hm40 : m ≤ 4096 := by omega
  clear hi0 hz0 hz1 hz2 h hl hfp htn hm hntm hto htoi hsm hgn E1
  go_enter Tryz.func117, Tryz.ntmps117
  go_upto_region 1 with ((with_reducible refine at_dst 7 ?_); refine wpList_make_blk rfl _ _ _ rfl 9 i0 _ 1 Tryz.underlying38 HI0.out HZ0.out HZ1.out .i64 .i64 size size size rfl rfl rfl rfl HBY.out (by simp only [maxLen]; omega) ?_)
  obtain ⟨W1, hW1⟩ : ∃ W1, W1 = w.alloc (.cells (madeCells #[.string ⟨#[]⟩] size) 9) := ⟨_, rfl⟩
  have hB1 : Blk W1 w.heap.size 9 (List.replicate size sz) := by rw [← HM.out, hW1]; exact Blk.new _ _ _
  have hb1 : Below w.heap.size w W1 := by rw [hW1]; exact (Below.refl _ w).alloc (Nat.le_refl _) _
  rw [← hW1]
  have hlab : w.heap.size < W1.heap.size := hB1.lt
  clear hW1
  obtain ⟨ab, hab⟩ : ∃ ab, ab = w.heap.size := ⟨_, rfl⟩
  rw [← hab] at hB1 hlab ⊢
  have hsz : w.heap.size ≤ ab := by omega
  have hgab : g < ab := by rw [hab]; exact H.out.head.lt
  have hlo : lo ≤ ab := by have := H.out.lo; omega
  have HAB := Lib.hid hab
  have H1 := Lib.hid (H.out.below hb1)
  have HB1 := Lib.hid hB1
  have HBB1 := Lib.hid hb1
  clear hab hB1 hb1
  have E1 := fun w => sl_l (some ⟨ab, 0, none⟩) size size u hto1 w
  go_upto_region 2 with (first
    | (go_at_call 41; refine (ahead_any H1.out).mono ?_; rintro e w2 ⟨rfl, hb2⟩; have H2 := Lib.hid (H1.out.below hb2); have HB2 := Lib.hid (HB1.out.below hb2 hlab); have HBB2 := Lib.hid hb2; clear hb2)
    | ((with_reducible refine at_dst 11 ?_); refine wpList_copy_k rfl (.tmp 8) (.tmp 10) _ _ rfl 9 1 Tryz.underlying38 str_size (some ⟨ab, 0, none⟩) A size size f C rfl rfl ab 0 9 _ HB2.out (sv p) f (by show f = min f size; omega) (by rw [HLP.out, Nat.mul_one]) (fun h0 => ⟨rfl, sl_src H2.out.pre_sl (by rw [HLP.out]; exact h0)⟩) (by rw [HLP.out]; simp; omega) (sv_one _) ?_; intro w3 hn3 hg3; have HN3 := Lib.hid hn3; have HG3 := Lib.hid hg3; clear hn3 hg3))
  have hc3 : Chg (one ab) W1 w3 := chg_via HBB2.out HG3.out rfl
  have hle3 := hc3.size
  have H3 := Lib.hid (H1.out.keep hc3 (fun k hk e => by have h5 : k = ab := e; have := (H.out.own_lt k hk).2; have := HAB.out; omega))
  have HC3 := Lib.hid hc3
  clear hc3
  go_upto_region 3 with (go_at_call 59; refine (behind_any H3.out).mono ?_; rintro e w4 ⟨rfl, hb4⟩; rw [HNT.out]; have H4 := Lib.hid (H3.out.below hb4); have HN4 := Lib.hid (HN3.out.below hb4 HN3.out.lt); have HBB4 := Lib.hid hb4; clear hb4)
  rw [← HTI.out]
  have Q1 := Lib.hid (fun d os => Calls.regrown_of (behind_any (H4.out.below (below_regrown w4 d os))))
  refine wp_region_below_tail 5 (by kernel_rfl) (by kernel_rfl) ?_
  simp only [List.take_succ_cons, List.take_zero, List.drop_succ_cons, List.drop_zero]
  repeat (first
    | go_big_quiet_step (exact Q1.out _ _)
    | quiet_step (exact Q1.out _ _))
  refine wpQuiet_nil ?_
  intro _ hw'
  obtain ⟨⟨dq, osq⟩, hw''⟩ := hw'
  subst hw''
  have HBQ := Lib.hid (below_regrown w4 dq osq)
  have H5 := Lib.hid (H4.out.below HBQ.out)
  have HN5 := Lib.hid (HN4.out.below HBQ.out HN4.out.lt)
  clear Q1 E1
  generalize grow (redrawn w4 dq) osq = w5 at *
  have hfl : (splice (List.replicate size sz) 0 (sv p)).length = size := by rw [length_splice _ _ _ (by rw [HLP.out]; simp; omega)]; simp
  have HFL := Lib.hid hfl
  clear hfl
  go_wp2_with (first
    | ((with_reducible refine at_dst 22 ?_); refine wpList_copy_k rfl (.tmp 19) (.tmp 21) _ _ rfl 9 1 Tryz.underlying38 str_size (bh (some ⟨ab, 0, none⟩) size u) (bh A C t) (size - u) (size - u) (n - t) (C - t) rfl rfl ab u 9 _ HN5.out (sv s) m (by rw [HSM.out, HNT.out]; show m = min m m; omega) (by rw [HLS.out, Nat.mul_one]) (fun h0 => ⟨bh_at h0 (by have := HTO.out; omega), sl_src H5.out.suf_sl (by rw [HLS.out]; exact h0)⟩) (by rw [HLS.out, HFL.out]; have := HTO.out; omega) (sv_one _) ?_; intro w6 hn6 hg6; rw [HGN.out] at hn6; have HN6 := Lib.hid hn6; have HG6 := Lib.hid hg6; clear hn6 hg6; have hc6 : Chg (one ab) w3 w6 := (Chg.of_below (S := one ab) HBB4.out).trans (chg_via (S := one ab) HBQ.out HG6.out rfl) (fun _ h => .inl h); have hc61 : Chg (one ab) W1 w6 := HC3.out.trans hc6 (fun _ h => .inl h); have hd6 := (H1.out.keep hc61 (fun k hk e => (by have h5 : k = ab := e; have := (H.out.own_lt k hk).2; have := HAB.out; omega))).head; have HD6 := Lib.hid hd6; have HC6 := Lib.hid hc61; clear hc6 hc61 hd6)
    | ((with_reducible refine at_store 28 ?_); refine wpList_store_cell rfl _ _ _ rfl rfl g 2 _ _ (.slice (some ⟨ab, 0, none⟩) size size) rfl rfl HD6.out (by simp) (by kernel_rfl) rfl ?_; intro w7 hn7 hg7; have HN7 := Lib.hid hn7; have HG7 := Lib.hid hg7; clear hn7 hg7)
    | ((with_reducible refine at_store 30 ?_); refine wpList_store_cell rfl _ _ _ rfl rfl g 4 _ _ (.int .i64 u) rfl rfl HN7.out (by simp) (by kernel_rfl) rfl ?_; intro w8 hn8 hg8; rw [gp_sets2] at hn8; have HN8 := Lib.hid hn8; have HG8 := Lib.hid hg8; clear hn8 hg8))
  go_end0
  have hcg : Chg (one g) w6 w8 := (chg_of_grown HG7.out).trans (chg_of_grown HG8.out) (fun _ h => .inl h)
  refine ⟨ab, rfl, hsz, ⟨HN8.out, HFP.out, by have := HTO.out; omega, by rw [← HMS.out]; have := HTO.out; omega, Nat.le_refl _, .inr ⟨ab, [], rfl, h3, rfl, ?_, hlo⟩, h2, H.out.m1, hm4, H.out.lo, H.out.is⟩, ?_⟩
  · have e : u - f = size - (sv p).length - (sv s).length := by rw [HLP.out, HLS.out]; have := HTO.out; omega
    rw [e]
    exact HN6.out.chg hcg (fun e => by have e' : ab = g := e; omega)
  · exact ((Chg.of_below (S := one g) HBB1.out).trans (HC6.out) (fun j hj => .inr (by have e : j = ab := hj; omega))).trans hcg (fun _ h => .inl h)

theorem below_d2 (w : World) (n : Nat) : Below w.heap.size w (w.drewN n).drew := (gp_drewN w n).drew
/-- what fill leaves -/
def FillP (w : World) (lo g : Nat) (A : Option Addr) (most : Nat) (p s : List (List UInt8)) (e : Ending) (w' : World) : Prop :=
  e = .returned (.tuple #[]) ∧ ∃ A' n' C' t', GpAt w' lo g A' n' C' most p.length t' p s ∧ Chg (GpOwn g A) w w' ∧ ∀ k, blk A' = some k → blk A = some k ∨ w.heap.size ≤ k

set_option maxRecDepth 100000 in
set_option maxHeartbeats 4000000 in
theorem fill_room {w : World} {lo g n C most f t : Nat} {A : Option Addr} {p s : List (List UInt8)} (h : GpAt w lo g A n C most f t p s) (l : List (List UInt8)) (X : Option Addr) (m d : Nat) (hm : m = l.length) (hX : Sl w w.heap.size X (sv l)) (hc : ∀ c ∈ l, isC c = true) (hr : m ≤ t - f) :
    Calls Tryz.prog 93 #[.pointer (some ⟨g, 2, none⟩), .slice X m d, .int .i64 most] w (FillP w lo g A most (p ++ l) s) := by
  have hft := h.ft
  have htn := h.tn
  have hnC := h.nC
  have hle := h.le
  have hm4 := h.m4
  have hfp := h.fp
  have htle : t ≤ n := by omega
  have hgt : ¬ ((m : Int) > (t : Int) - f) := by omega
  have E1 := fun w => sl_lh A n C f t hft (by omega) w
  have h2 := h.c2
  have h3 := h.c3
  have h4 := h.c4
  have H := Lib.hid h
  have HM := Lib.hid hm
  have HX := Lib.hid hX
  have HC := Lib.hid hc
  have HFP := Lib.hid hfp
  have HTN := Lib.hid htn
  clear h hm hX hc hfp htn
  go_enter Tryz.func93, Tryz.ntmps93
  go_wp2_with (fail)
  go_quiet (fail)
  go_wp2_with (fail)
  rcases H.out.all with ⟨hA, hC0⟩ | ⟨ab, tl, hA, hn1, hC, hblk, hlo⟩
  · subst hA
    have hm0 : m = 0 := by have := HTN.out; omega
    have HM0 := Lib.hid hm0
    have HC0 := Lib.hid hC0
    have HHD := Lib.hid H.out.head
    have HS0 : Hid (∀ cs : List Value, splice cs 0 [] = cs) := Lib.hid (fun cs => by simp [splice])
    have hfm : (f : Int) + m ≤ 4096 := by omega
    clear hm0 hC0
    have HSDn : Hid ((fun W : World => W.cell? ⟨g, 2, none⟩ = some (.slice none n C) ∧ W.cell? ⟨g, 3, none⟩ = some (.int .i64 f) ∧ W.cell? ⟨g, 4, none⟩ = some (.int .i64 t)) (w.drewN nq).drew) := Lib.hid ⟨h2, h3, h4⟩
    refine wp_region_K (fun W : World => W.cell? ⟨g, 2, none⟩ = some (.slice none n C) ∧ W.cell? ⟨g, 3, none⟩ = some (.int .i64 f) ∧ W.cell? ⟨g, 4, none⟩ = some (.int .i64 t)) 22 (by kernel_rfl) ?_
    refine wpAnyK_takeP (i := 0) (v := ?vn0) rfl (by kernel_rfl) (by kernel_rfl) (by kernel_rfl) (by kernel_rfl) (fun _ _ _ h => h) (Or.inl ⟨by rfl, fun w hSw => ?hyn0⟩) (.inr HSDn.out) ?restn0
    case hyn0 =>
      go_simp
      try with_reducible rfl
    change wpAnyK _ _ _ _ _ _ _ _ (Act.put _ (some 34) _) _
    try simp only [Act.put, List.setIfInBounds_toArray, List.set_cons_zero, List.set_cons_succ]
    refine wpAnyK_takeP (i := 1) (v := ?vn1) rfl (by kernel_rfl) (by kernel_rfl) (by kernel_rfl) (by kernel_rfl) (fun _ _ _ h => h) (Or.inl ⟨by rfl, fun w hSw => ?hyn1⟩) (.inr HSDn.out) ?restn1
    case hyn1 =>
      go_simp
      try with_reducible rfl
    change wpAnyK _ _ _ _ _ _ _ _ (Act.put _ (some 35) _) _
    try simp only [Act.put, List.setIfInBounds_toArray, List.set_cons_zero, List.set_cons_succ]
    refine wpAnyK_takeP (i := 2) (v := ?vn2) rfl (by kernel_rfl) (by kernel_rfl) (by kernel_rfl) (by kernel_rfl) (fun _ _ _ h => h) (Or.inl ⟨by rfl, fun w hSw => ?hyn2⟩) (.inr HSDn.out) ?restn2
    case hyn2 =>
      go_simp
      try with_reducible rfl
    change wpAnyK _ _ _ _ _ _ _ _ (Act.put _ (some 36) _) _
    try simp only [Act.put, List.setIfInBounds_toArray, List.set_cons_zero, List.set_cons_succ]
    refine wpAnyK_take (i := 3) (v := .int .i64 f) rfl (by kernel_rfl) (by kernel_rfl) (by kernel_rfl) (by kernel_rfl) (fun _ _ _ h => h) (Or.inl ⟨by rfl, fun w hSw => ?hyn3⟩) HSDn.out ?restn3
    case hyn3 =>
      have s1 := hSw.2.1
      clear hSw
      try dsimp only at s1
      go_simp
      try with_reducible rfl
    change wpAnyK _ _ _ _ _ _ _ _ (Act.put _ (some 37) _) _
    try simp only [Act.put, List.setIfInBounds_toArray, List.set_cons_zero, List.set_cons_succ]
    refine wpAnyK_takeP (i := 4) (v := ?vn4) rfl (by kernel_rfl) (by kernel_rfl) (by kernel_rfl) (by kernel_rfl) (fun _ _ _ h => h) (Or.inl ⟨by rfl, fun w hSw => ?hyn4⟩) (.inr HSDn.out) ?restn4
    case hyn4 =>
      go_simp
      try with_reducible rfl
    change wpAnyK _ _ _ _ _ _ _ _ (Act.put _ (some 38) _) _
    try simp only [Act.put, List.setIfInBounds_toArray, List.set_cons_zero, List.set_cons_succ]
    refine wpAnyK_takeP (i := 5) (v := ?vn5) rfl (by kernel_rfl) (by kernel_rfl) (by kernel_rfl) (by kernel_rfl) (fun _ _ _ h => h) (Or.inl ⟨by rfl, fun w hSw => ?hyn5⟩) (.inr HSDn.out) ?restn5
    case hyn5 =>
      go_simp
      try with_reducible rfl
    change wpAnyK _ _ _ _ _ _ _ _ (Act.put _ (some 39) _) _
    try simp only [Act.put, List.setIfInBounds_toArray, List.set_cons_zero, List.set_cons_succ]
    refine wpAnyK_takeP (i := 6) (v := ?vn6) rfl (by kernel_rfl) (by kernel_rfl) (by kernel_rfl) (by kernel_rfl) (fun _ _ _ h => h) (Or.inl ⟨by rfl, fun w hSw => ?hyn6⟩) (.inr HSDn.out) ?restn6
    case hyn6 =>
      go_simp
      try with_reducible rfl
    change wpAnyK _ _ _ _ _ _ _ _ (Act.put _ (some 40) _) _
    try simp only [Act.put, List.setIfInBounds_toArray, List.set_cons_zero, List.set_cons_succ]
    refine wpAnyK_take (i := 7) (v := .slice none n C) rfl (by kernel_rfl) (by kernel_rfl) (by kernel_rfl) (by kernel_rfl) (fun _ _ _ h => h) (Or.inl ⟨by rfl, fun w hSw => ?hyn7⟩) HSDn.out ?restn7
    case hyn7 =>
      have s1 := hSw.1
      clear hSw
      try dsimp only at s1
      go_simp
      try with_reducible rfl
    change wpAnyK _ _ _ _ _ _ _ _ (Act.put _ (some 41) _) _
    try simp only [Act.put, List.setIfInBounds_toArray, List.set_cons_zero, List.set_cons_succ]
    refine wpAnyK_takeP (i := 8) (v := ?vn8) rfl (by kernel_rfl) (by kernel_rfl) (by kernel_rfl) (by kernel_rfl) (fun _ _ _ h => h) (Or.inl ⟨by rfl, fun w hSw => ?hyn8⟩) (.inr HSDn.out) ?restn8
    case hyn8 =>
      go_simp
      try with_reducible rfl
    change wpAnyK _ _ _ _ _ _ _ _ (Act.put _ (some 42) _) _
    try simp only [Act.put, List.setIfInBounds_toArray, List.set_cons_zero, List.set_cons_succ]
    refine wpAnyK_takeP (i := 9) (v := ?vn9) rfl (by kernel_rfl) (by kernel_rfl) (by kernel_rfl) (by kernel_rfl) (fun _ _ _ h => h) (Or.inl ⟨by rfl, fun w hSw => ?hyn9⟩) (.inr HSDn.out) ?restn9
    case hyn9 =>
      go_simp
      try with_reducible rfl
    change wpAnyK _ _ _ _ _ _ _ _ (Act.put _ (some 43) _) _
    try simp only [Act.put, List.setIfInBounds_toArray, List.set_cons_zero, List.set_cons_succ]
    refine wpAnyK_takeP (i := 10) (v := ?vn10) rfl (by kernel_rfl) (by kernel_rfl) (by kernel_rfl) (by kernel_rfl) (fun _ _ _ h => h) (Or.inl ⟨by rfl, fun w hSw => ?hyn10⟩) (.inr HSDn.out) ?restn10
    case hyn10 =>
      go_simp
      try with_reducible rfl
    change wpAnyK _ _ _ _ _ _ _ _ (Act.put _ (some 44) _) _
    try simp only [Act.put, List.setIfInBounds_toArray, List.set_cons_zero, List.set_cons_succ]
    refine wpAnyK_take (i := 11) (v := .int .i64 f) rfl (by kernel_rfl) (by kernel_rfl) (by kernel_rfl) (by kernel_rfl) (fun _ _ _ h => h) (Or.inl ⟨by rfl, fun w hSw => ?hyn11⟩) HSDn.out ?restn11
    case hyn11 =>
      have s1 := hSw.2.1
      clear hSw
      try dsimp only at s1
      go_simp
      try with_reducible rfl
    change wpAnyK _ _ _ _ _ _ _ _ (Act.put _ (some 45) _) _
    try simp only [Act.put, List.setIfInBounds_toArray, List.set_cons_zero, List.set_cons_succ]
    refine wpAnyK_takeP (i := 12) (v := ?vn12) rfl (by kernel_rfl) (by kernel_rfl) (by kernel_rfl) (by kernel_rfl) (fun _ _ _ h => h) (Or.inl ⟨by rfl, fun w hSw => ?hyn12⟩) (.inr HSDn.out) ?restn12
    case hyn12 =>
      go_simp
      try with_reducible rfl
    change wpAnyK _ _ _ _ _ _ _ _ (Act.put _ (some 46) _) _
    try simp only [Act.put, List.setIfInBounds_toArray, List.set_cons_zero, List.set_cons_succ]
    refine wpAnyK_takeP (i := 13) (v := ?vn13) rfl (by kernel_rfl) (by kernel_rfl) (by kernel_rfl) (by kernel_rfl) (fun _ _ _ h => h) (Or.inl ⟨by rfl, fun w hSw => ?hyn13⟩) (.inr HSDn.out) ?restn13
    case hyn13 =>
      go_simp
      try with_reducible rfl
    change wpAnyK _ _ _ _ _ _ _ _ (Act.put _ (some 47) _) _
    try simp only [Act.put, List.setIfInBounds_toArray, List.set_cons_zero, List.set_cons_succ]
    refine wpAnyK_takeP (i := 14) (v := ?vn14) rfl (by kernel_rfl) (by kernel_rfl) (by kernel_rfl) (by kernel_rfl) (fun _ _ _ h => h) (Or.inl ⟨by rfl, fun w hSw => ?hyn14⟩) (.inr HSDn.out) ?restn14
    case hyn14 =>
      go_simp
      try with_reducible rfl
    change wpAnyK _ _ _ _ _ _ _ _ (Act.put _ (some 48) _) _
    try simp only [Act.put, List.setIfInBounds_toArray, List.set_cons_zero, List.set_cons_succ]
    refine wpAnyK_take (i := 15) (v := .int .i64 t) rfl (by kernel_rfl) (by kernel_rfl) (by kernel_rfl) (by kernel_rfl) (fun _ _ _ h => h) (Or.inl ⟨by rfl, fun w hSw => ?hyn15⟩) HSDn.out ?restn15
    case hyn15 =>
      have s1 := hSw.2.2
      clear hSw
      try dsimp only at s1
      go_simp
      try with_reducible rfl
    change wpAnyK _ _ _ _ _ _ _ _ (Act.put _ (some 49) _) _
    try simp only [Act.put, List.setIfInBounds_toArray, List.set_cons_zero, List.set_cons_succ]
    refine wpAnyK_takeP (i := 16) (v := ?vn16) rfl (by kernel_rfl) (by kernel_rfl) (by kernel_rfl) (by kernel_rfl) (fun _ _ _ h => h) (Or.inl ⟨by rfl, fun w hSw => ?hyn16⟩) (.inr HSDn.out) ?restn16
    case hyn16 =>
      go_simp
      try with_reducible rfl
    change wpAnyK _ _ _ _ _ _ _ _ (Act.put _ (some 50) _) _
    try simp only [Act.put, List.setIfInBounds_toArray, List.set_cons_zero, List.set_cons_succ]
    refine wpAnyK_takeP (i := 17) (v := ?vn17) rfl (by kernel_rfl) (by kernel_rfl) (by kernel_rfl) (by kernel_rfl) (fun _ _ _ h => h) (Or.inl ⟨by rfl, fun w hSw => ?hyn17⟩) (.inr HSDn.out) ?restn17
    case hyn17 =>
      go_simp
      try with_reducible rfl
    change wpAnyK _ _ _ _ _ _ _ _ (Act.put _ (some 51) _) _
    try simp only [Act.put, List.setIfInBounds_toArray, List.set_cons_zero, List.set_cons_succ]
    refine wpAnyK_only (i := 18) (by kernel_rfl) rfl (fun K hK => ?_)
    refine step_copy_k rfl (.tmp 50) (.tmp 51) _ _ rfl 9 1 Tryz.underlying38 str_size (bh none C f) X (t - f) (C - f) m d (by simp [Act.eval, Act.put]) (by simp [Act.eval, Act.put]) g 0 82 _ HHD.out [] m (by show m = min m (t - f); omega) (by rw [HM0.out]; rfl) (fun h0 => absurd h0 (by rw [HM0.out]; omega)) (by simp) (fun v hv => by cases hv) ?_
    intro w4 hn4 hg4
    rw [HS0.out] at hn4
    have hc4 : Chg (one g) w w4 := chg_via (S := one g) (w1 := (w.drewN nq).drew) (below_d2 w nq) hg4 rfl
    have HSX : Hid ((fun W : World => W.cell? ⟨g, 2, none⟩ = some (.slice none n C) ∧ W.cell? ⟨g, 3, none⟩ = some (.int .i64 f) ∧ W.cell? ⟨g, 4, none⟩ = some (.int .i64 t)) w4) := Lib.hid ⟨hn4.cell 2, hn4.cell 3, hn4.cell 4⟩
    have HD4 := Lib.hid hn4
    have HC4 := Lib.hid hc4
    clear hn4 hg4 hc4
    refine hK.out _ _ (.inr HSX.out) ?_
    clear hK K
    change wpAnyK _ _ _ _ _ _ _ _ (Act.put _ (some 52) _) _
    try simp only [Act.put, List.setIfInBounds_toArray, List.set_cons_zero, List.set_cons_succ]
    have e2 : IntKind.i64.wrap ((f : Int) + (m : Int)) = ((f + m : Nat) : Int) := by rw [IntWalk.i64_in _ (by omega)]; omega
    refine wpAnyK_only (i := 19) (by kernel_rfl) rfl (fun K hK => ?_)
    go_simp
    refine hK.out _ _ (.inr HSX.out) ?_
    clear hK K
    try simp only [Act.put, List.setIfInBounds_toArray, List.set_cons_zero, List.set_cons_succ]
    refine wpAnyK_only (i := 20) (by kernel_rfl) rfl (fun K hK => ?_)
    go_simp
    refine hK.out _ _ (.inr HSX.out) ?_
    clear hK K
    try simp only [Act.put, List.setIfInBounds_toArray, List.set_cons_zero, List.set_cons_succ]
    refine wpAnyK_only (i := 21) (by kernel_rfl) rfl (fun K hK => ?_)
    go_simp
    refine hK.out _ _ (.inr HSX.out) ?_
    clear hK K
    try simp only [Act.put, List.setIfInBounds_toArray, List.set_cons_zero, List.set_cons_succ]
    refine wpAnyK_only (i := 22) (by kernel_rfl) rfl (fun K hK => ?_)
    have z2 := HSX.out.2.1
    have z3 := HD4.out.frozen 3
    try dsimp only at z2
    go_simp
    refine hK.out _ _ (.inl (by kernel_rfl)) ?_
    clear hK K
    try simp only [Act.put, List.setIfInBounds_toArray, List.set_cons_zero, List.set_cons_succ]
    refine wpAnyK_done (by kernel_rfl) ?_ _
    go_end0
    have hh := HD4.out.set_ 3 (.int .i64 ((f + m : Nat) : Int))
    have hlp : (p ++ l).length = f + m := by rw [List.length_append, HFP.out, ← HM.out]
    refine ⟨rfl, none, n, C, t, ⟨by rw [hlp]; exact hh, rfl, by rw [hlp]; omega, HTN.out, hnC, ?_, hle, H.out.m1, hm4, H.out.lo, ?_⟩, ?_, fun k hk => .inl hk⟩
    · exact .inl ⟨rfl, HC0.out⟩
    · intro c hc
      simp only [List.mem_append] at hc
      rcases hc with (hc | hc) | hc
      · exact H.out.is c (by simp [hc])
      · exact HC.out c hc
      · exact H.out.is c (by simp [hc])
    · exact (HC4.out.setCell (p := ⟨g, 3, none⟩) (.inl rfl) _).mono (fun j hj => .inl (.inl hj))
  · subst hA
    have HBK := Lib.hid hblk
    have HLL := Lib.hid (show (sv l).length = m by rw [sv_length, HM.out])
    have HF := Lib.hid (gc_fill sz (sv p) (sv l) (t - f) (sv s) tl f (by rw [sv_length, HFP.out]) (by rw [HLL.out]; exact hr))
    have HG := Lib.hid (H.out.ne rfl)
    have HLN : Hid ((gc sz (sv p) (t - f) (sv s) tl).length = C) := Lib.hid (by rw [gc_length, sv_length, sv_length, HFP.out]; have := HTN.out; omega)
    have HHD := Lib.hid H.out.head
    have HCT := Lib.hid hC
    have hfm : (f : Int) + m ≤ 4096 := by omega
    clear hblk hC
    have HSD : Hid ((fun W : World => W.cell? ⟨g, 2, none⟩ = some (.slice (some ⟨ab, 0, none⟩) n C) ∧ W.cell? ⟨g, 3, none⟩ = some (.int .i64 f) ∧ W.cell? ⟨g, 4, none⟩ = some (.int .i64 t)) (w.drewN nq).drew) := Lib.hid ⟨h2, h3, h4⟩
    refine wp_region_K (fun W : World => W.cell? ⟨g, 2, none⟩ = some (.slice (some ⟨ab, 0, none⟩) n C) ∧ W.cell? ⟨g, 3, none⟩ = some (.int .i64 f) ∧ W.cell? ⟨g, 4, none⟩ = some (.int .i64 t)) 22 (by kernel_rfl) ?_
    refine wpAnyK_takeP (i := 0) (v := ?v0) rfl (by kernel_rfl) (by kernel_rfl) (by kernel_rfl) (by kernel_rfl) (fun _ _ _ h => h) (Or.inl ⟨by rfl, fun w hSw => ?hy0⟩) (.inr HSD.out) ?rest0
    case hy0 =>
      go_simp
      try with_reducible rfl
    change wpAnyK _ _ _ _ _ _ _ _ (Act.put _ (some 34) _) _
    try simp only [Act.put, List.setIfInBounds_toArray, List.set_cons_zero, List.set_cons_succ]
    refine wpAnyK_takeP (i := 1) (v := ?v1) rfl (by kernel_rfl) (by kernel_rfl) (by kernel_rfl) (by kernel_rfl) (fun _ _ _ h => h) (Or.inl ⟨by rfl, fun w hSw => ?hy1⟩) (.inr HSD.out) ?rest1
    case hy1 =>
      go_simp
      try with_reducible rfl
    change wpAnyK _ _ _ _ _ _ _ _ (Act.put _ (some 35) _) _
    try simp only [Act.put, List.setIfInBounds_toArray, List.set_cons_zero, List.set_cons_succ]
    refine wpAnyK_takeP (i := 2) (v := ?v2) rfl (by kernel_rfl) (by kernel_rfl) (by kernel_rfl) (by kernel_rfl) (fun _ _ _ h => h) (Or.inl ⟨by rfl, fun w hSw => ?hy2⟩) (.inr HSD.out) ?rest2
    case hy2 =>
      go_simp
      try with_reducible rfl
    change wpAnyK _ _ _ _ _ _ _ _ (Act.put _ (some 36) _) _
    try simp only [Act.put, List.setIfInBounds_toArray, List.set_cons_zero, List.set_cons_succ]
    refine wpAnyK_take (i := 3) (v := .int .i64 f) rfl (by kernel_rfl) (by kernel_rfl) (by kernel_rfl) (by kernel_rfl) (fun _ _ _ h => h) (Or.inl ⟨by rfl, fun w hSw => ?hy3⟩) HSD.out ?rest3
    case hy3 =>
      have s1 := hSw.2.1
      clear hSw
      try dsimp only at s1
      go_simp
      try with_reducible rfl
    change wpAnyK _ _ _ _ _ _ _ _ (Act.put _ (some 37) _) _
    try simp only [Act.put, List.setIfInBounds_toArray, List.set_cons_zero, List.set_cons_succ]
    refine wpAnyK_takeP (i := 4) (v := ?v4) rfl (by kernel_rfl) (by kernel_rfl) (by kernel_rfl) (by kernel_rfl) (fun _ _ _ h => h) (Or.inl ⟨by rfl, fun w hSw => ?hy4⟩) (.inr HSD.out) ?rest4
    case hy4 =>
      go_simp
      try with_reducible rfl
    change wpAnyK _ _ _ _ _ _ _ _ (Act.put _ (some 38) _) _
    try simp only [Act.put, List.setIfInBounds_toArray, List.set_cons_zero, List.set_cons_succ]
    refine wpAnyK_takeP (i := 5) (v := ?v5) rfl (by kernel_rfl) (by kernel_rfl) (by kernel_rfl) (by kernel_rfl) (fun _ _ _ h => h) (Or.inl ⟨by rfl, fun w hSw => ?hy5⟩) (.inr HSD.out) ?rest5
    case hy5 =>
      go_simp
      try with_reducible rfl
    change wpAnyK _ _ _ _ _ _ _ _ (Act.put _ (some 39) _) _
    try simp only [Act.put, List.setIfInBounds_toArray, List.set_cons_zero, List.set_cons_succ]
    refine wpAnyK_takeP (i := 6) (v := ?v6) rfl (by kernel_rfl) (by kernel_rfl) (by kernel_rfl) (by kernel_rfl) (fun _ _ _ h => h) (Or.inl ⟨by rfl, fun w hSw => ?hy6⟩) (.inr HSD.out) ?rest6
    case hy6 =>
      go_simp
      try with_reducible rfl
    change wpAnyK _ _ _ _ _ _ _ _ (Act.put _ (some 40) _) _
    try simp only [Act.put, List.setIfInBounds_toArray, List.set_cons_zero, List.set_cons_succ]
    refine wpAnyK_take (i := 7) (v := .slice (some ⟨ab, 0, none⟩) n C) rfl (by kernel_rfl) (by kernel_rfl) (by kernel_rfl) (by kernel_rfl) (fun _ _ _ h => h) (Or.inl ⟨by rfl, fun w hSw => ?hy7⟩) HSD.out ?rest7
    case hy7 =>
      have s1 := hSw.1
      clear hSw
      try dsimp only at s1
      go_simp
      try with_reducible rfl
    change wpAnyK _ _ _ _ _ _ _ _ (Act.put _ (some 41) _) _
    try simp only [Act.put, List.setIfInBounds_toArray, List.set_cons_zero, List.set_cons_succ]
    refine wpAnyK_takeP (i := 8) (v := ?v8) rfl (by kernel_rfl) (by kernel_rfl) (by kernel_rfl) (by kernel_rfl) (fun _ _ _ h => h) (Or.inl ⟨by rfl, fun w hSw => ?hy8⟩) (.inr HSD.out) ?rest8
    case hy8 =>
      go_simp
      try with_reducible rfl
    change wpAnyK _ _ _ _ _ _ _ _ (Act.put _ (some 42) _) _
    try simp only [Act.put, List.setIfInBounds_toArray, List.set_cons_zero, List.set_cons_succ]
    refine wpAnyK_takeP (i := 9) (v := ?v9) rfl (by kernel_rfl) (by kernel_rfl) (by kernel_rfl) (by kernel_rfl) (fun _ _ _ h => h) (Or.inl ⟨by rfl, fun w hSw => ?hy9⟩) (.inr HSD.out) ?rest9
    case hy9 =>
      go_simp
      try with_reducible rfl
    change wpAnyK _ _ _ _ _ _ _ _ (Act.put _ (some 43) _) _
    try simp only [Act.put, List.setIfInBounds_toArray, List.set_cons_zero, List.set_cons_succ]
    refine wpAnyK_takeP (i := 10) (v := ?v10) rfl (by kernel_rfl) (by kernel_rfl) (by kernel_rfl) (by kernel_rfl) (fun _ _ _ h => h) (Or.inl ⟨by rfl, fun w hSw => ?hy10⟩) (.inr HSD.out) ?rest10
    case hy10 =>
      go_simp
      try with_reducible rfl
    change wpAnyK _ _ _ _ _ _ _ _ (Act.put _ (some 44) _) _
    try simp only [Act.put, List.setIfInBounds_toArray, List.set_cons_zero, List.set_cons_succ]
    refine wpAnyK_take (i := 11) (v := .int .i64 f) rfl (by kernel_rfl) (by kernel_rfl) (by kernel_rfl) (by kernel_rfl) (fun _ _ _ h => h) (Or.inl ⟨by rfl, fun w hSw => ?hy11⟩) HSD.out ?rest11
    case hy11 =>
      have s1 := hSw.2.1
      clear hSw
      try dsimp only at s1
      go_simp
      try with_reducible rfl
    change wpAnyK _ _ _ _ _ _ _ _ (Act.put _ (some 45) _) _
    try simp only [Act.put, List.setIfInBounds_toArray, List.set_cons_zero, List.set_cons_succ]
    refine wpAnyK_takeP (i := 12) (v := ?v12) rfl (by kernel_rfl) (by kernel_rfl) (by kernel_rfl) (by kernel_rfl) (fun _ _ _ h => h) (Or.inl ⟨by rfl, fun w hSw => ?hy12⟩) (.inr HSD.out) ?rest12
    case hy12 =>
      go_simp
      try with_reducible rfl
    change wpAnyK _ _ _ _ _ _ _ _ (Act.put _ (some 46) _) _
    try simp only [Act.put, List.setIfInBounds_toArray, List.set_cons_zero, List.set_cons_succ]
    refine wpAnyK_takeP (i := 13) (v := ?v13) rfl (by kernel_rfl) (by kernel_rfl) (by kernel_rfl) (by kernel_rfl) (fun _ _ _ h => h) (Or.inl ⟨by rfl, fun w hSw => ?hy13⟩) (.inr HSD.out) ?rest13
    case hy13 =>
      go_simp
      try with_reducible rfl
    change wpAnyK _ _ _ _ _ _ _ _ (Act.put _ (some 47) _) _
    try simp only [Act.put, List.setIfInBounds_toArray, List.set_cons_zero, List.set_cons_succ]
    refine wpAnyK_takeP (i := 14) (v := ?v14) rfl (by kernel_rfl) (by kernel_rfl) (by kernel_rfl) (by kernel_rfl) (fun _ _ _ h => h) (Or.inl ⟨by rfl, fun w hSw => ?hy14⟩) (.inr HSD.out) ?rest14
    case hy14 =>
      go_simp
      try with_reducible rfl
    change wpAnyK _ _ _ _ _ _ _ _ (Act.put _ (some 48) _) _
    try simp only [Act.put, List.setIfInBounds_toArray, List.set_cons_zero, List.set_cons_succ]
    refine wpAnyK_take (i := 15) (v := .int .i64 t) rfl (by kernel_rfl) (by kernel_rfl) (by kernel_rfl) (by kernel_rfl) (fun _ _ _ h => h) (Or.inl ⟨by rfl, fun w hSw => ?hy15⟩) HSD.out ?rest15
    case hy15 =>
      have s1 := hSw.2.2
      clear hSw
      try dsimp only at s1
      go_simp
      try with_reducible rfl
    change wpAnyK _ _ _ _ _ _ _ _ (Act.put _ (some 49) _) _
    try simp only [Act.put, List.setIfInBounds_toArray, List.set_cons_zero, List.set_cons_succ]
    refine wpAnyK_takeP (i := 16) (v := ?v16) rfl (by kernel_rfl) (by kernel_rfl) (by kernel_rfl) (by kernel_rfl) (fun _ _ _ h => h) (Or.inl ⟨by rfl, fun w hSw => ?hy16⟩) (.inr HSD.out) ?rest16
    case hy16 =>
      go_simp
      try with_reducible rfl
    change wpAnyK _ _ _ _ _ _ _ _ (Act.put _ (some 50) _) _
    try simp only [Act.put, List.setIfInBounds_toArray, List.set_cons_zero, List.set_cons_succ]
    refine wpAnyK_takeP (i := 17) (v := ?v17) rfl (by kernel_rfl) (by kernel_rfl) (by kernel_rfl) (by kernel_rfl) (fun _ _ _ h => h) (Or.inl ⟨by rfl, fun w hSw => ?hy17⟩) (.inr HSD.out) ?rest17
    case hy17 =>
      go_simp
      try with_reducible rfl
    change wpAnyK _ _ _ _ _ _ _ _ (Act.put _ (some 51) _) _
    try simp only [Act.put, List.setIfInBounds_toArray, List.set_cons_zero, List.set_cons_succ]
    refine wpAnyK_only (i := 18) (by kernel_rfl) rfl (fun K hK => ?_)
    refine step_copy_k rfl (.tmp 50) (.tmp 51) _ _ rfl 9 1 Tryz.underlying38 str_size (bh (some ⟨ab, 0, none⟩) C f) X (t - f) (C - f) m d (by simp [Act.eval, Act.put]) (by simp [Act.eval, Act.put]) ab f 9 _ HBK.out (sv l) m (by show m = min m (t - f); omega) (by rw [HLL.out, Nat.mul_one]) (fun h0 => ⟨bh_at h0 (by have := HCT.out; omega), sl_src HX.out (by rw [HLL.out]; exact h0)⟩) (by rw [HLL.out, HLN.out]; have := HCT.out; omega) (sv_one _) ?_
    intro w4 hn4 hg4
    rw [HF.out] at hn4
    have hc4 : Chg (one ab) w w4 := chg_via (S := one ab) (w1 := (w.drewN nq).drew) (below_d2 w nq) hg4 rfl
    have HSX : Hid ((fun W : World => W.cell? ⟨g, 2, none⟩ = some (.slice (some ⟨ab, 0, none⟩) n C) ∧ W.cell? ⟨g, 3, none⟩ = some (.int .i64 f) ∧ W.cell? ⟨g, 4, none⟩ = some (.int .i64 t)) w4) := Lib.hid ⟨hc4.cell h2 (fun e => HG.out e), hc4.cell h3 (fun e => HG.out e), hc4.cell h4 (fun e => HG.out e)⟩
    have HN4 := Lib.hid hn4
    have HD4 := Lib.hid (HHD.out.chg hc4 (fun e => HG.out e))
    have HC4 := Lib.hid hc4
    clear hn4 hg4 hc4
    refine hK.out _ _ (.inr HSX.out) ?_
    clear hK K
    change wpAnyK _ _ _ _ _ _ _ _ (Act.put _ (some 52) _) _
    try simp only [Act.put, List.setIfInBounds_toArray, List.set_cons_zero, List.set_cons_succ]
    have e2 : IntKind.i64.wrap ((f : Int) + (m : Int)) = ((f + m : Nat) : Int) := by rw [IntWalk.i64_in _ (by omega)]; omega
    refine wpAnyK_only (i := 19) (by kernel_rfl) rfl (fun K hK => ?_)
    go_simp
    refine hK.out _ _ (.inr HSX.out) ?_
    clear hK K
    try simp only [Act.put, List.setIfInBounds_toArray, List.set_cons_zero, List.set_cons_succ]
    refine wpAnyK_only (i := 20) (by kernel_rfl) rfl (fun K hK => ?_)
    go_simp
    refine hK.out _ _ (.inr HSX.out) ?_
    clear hK K
    try simp only [Act.put, List.setIfInBounds_toArray, List.set_cons_zero, List.set_cons_succ]
    refine wpAnyK_only (i := 21) (by kernel_rfl) rfl (fun K hK => ?_)
    go_simp
    refine hK.out _ _ (.inr HSX.out) ?_
    clear hK K
    try simp only [Act.put, List.setIfInBounds_toArray, List.set_cons_zero, List.set_cons_succ]
    refine wpAnyK_only (i := 22) (by kernel_rfl) rfl (fun K hK => ?_)
    have z2 := HSX.out.2.1
    have z3 := HD4.out.frozen 3
    try dsimp only at z2
    go_simp
    refine hK.out _ _ (.inl (by kernel_rfl)) ?_
    clear hK K
    try simp only [Act.put, List.setIfInBounds_toArray, List.set_cons_zero, List.set_cons_succ]
    refine wpAnyK_done (by kernel_rfl) ?_ _
    go_end0
    have hh := HD4.out.set_ 3 (.int .i64 ((f + m : Nat) : Int))
    have hlp : (p ++ l).length = f + m := by rw [List.length_append, HFP.out, ← HM.out]
    refine ⟨rfl, (some ⟨ab, 0, none⟩), n, C, t, ⟨by rw [hlp]; exact hh, rfl, by rw [hlp]; omega, HTN.out, hnC, ?_, hle, H.out.m1, hm4, H.out.lo, ?_⟩, ?_, fun k hk => .inl hk⟩
    · refine .inr ⟨ab, tl, rfl, hn1, HCT.out, ?_, hlo⟩
      have hk := HN4.out
      rw [HLL.out, ← sv_append] at hk
      rw [hlp, show t - (f + m) = t - f - m by omega]
      exact hk.chg ((Chg.refl (one g) w4).setCell (p := ⟨g, 3, none⟩) (.inl rfl) _) (fun e => HG.out (by have e' : ab = g := e; exact e'.symm))
    · intro c hc
      simp only [List.mem_append] at hc
      rcases hc with (hc | hc) | hc
      · exact H.out.is c (by simp [hc])
      · exact HC.out c hc
      · exact H.out.is c (by simp [hc])
    · exact ((HC4.out.mono (S' := GpOwn g (some ⟨ab, 0, none⟩)) (fun j hj => .inl (.inr (by have e : j = ab := hj; rw [e]; rfl)))).setCell (p := ⟨g, 3, none⟩) (.inl (.inl rfl)) _)
end Go.Proofs.YtfhfhjcdeeepbaaGreatDoor
