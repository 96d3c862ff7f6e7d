/-
  Walks: Delete of nothing, Replace, withSlots, New.
-/
import Derived.Test.YtfhfhjcdeeepbaaGreatDoorGpDel
namespace Go.Proofs.YtfhfhjcdeeepbaaGreatDoor
open Go.RowKit Go.Sort
set_option linter.unusedVariables false
set_option linter.unusedSimpArgs false

set_option maxRecDepth 100000 in
set_option maxHeartbeats 2000000 in
theorem gdelete_no {w : World} {lo g n C most f t : Nat} {A : Option Addr} {p s : List (List UInt8)} (h : GpAt w lo g A n C most f t p s) (x y : Int) (hlt : clampN y (ln p s) ≤ clampN x (ln p s)) :
    Calls Tryz.prog 99 #[.pointer (some ⟨g, 0, none⟩), .int .i64 x, .int .i64 y] w fun e w' => e = .returned (.slice none 0 0) ∧ Below w.heap.size w w' := by
  have h0 := h.c0
  have H := Lib.hid h
  have q1 := fun (w1 : World) (h1 : GpAt w1 lo g A n C most f t p s) => gclamp_any h1 x
  have q2 := fun (w1 : World) (h1 : GpAt w1 lo g A n C most f t p s) => gclamp_any h1 y
  generalize clampN x (ln p s) = a at *
  generalize clampN y (ln p s) = b at *
  have Q1 := Lib.hid q1
  have Q2 := Lib.hid q2
  have hbi : ((b : Int) ≤ a) := by omega
  clear q1 q2 h
  go_enter Tryz.func99, Tryz.ntmps99
  go_wp2_with (fail)
  refine (gmade_yes g w h0).mono ?_
  rintro e w' ⟨rfl, rfl⟩
  go_wp2_with (fail)
  refine (Q1.out _ H.out).mono ?_
  rintro e w1 ⟨rfl, hb1⟩
  have H1 := Lib.hid (H.out.below hb1)
  go_wp2_with (fail)
  refine (Q2.out _ H1.out).mono ?_
  rintro e w2 ⟨rfl, hb2⟩
  go_wp2_with (fail)
  go_ret
  exact ⟨rfl, hb1.trans (hb2.mono hb1.size)⟩

set_option maxRecDepth 100000 in
set_option maxHeartbeats 2000000 in
theorem greplace_no {w : World} {lo g n C most f t : Nat} {A : Option Addr} {p s : List (List UInt8)} (h : GpAt w lo g A n C most f t p s) (a : Int) (c : List UInt8) (ha : hasB a (ln p s) = false) :
    Calls Tryz.prog 91 #[.pointer (some ⟨g, 0, none⟩), .int .i64 a, .string ⟨c.toArray⟩] w fun e w' => e = .returned (.int .i64 5) ∧ Below w.heap.size w w' := by
  have h0 := h.c0
  have H := Lib.hid h
  have HH := Lib.hid ha
  clear h ha
  go_enter Tryz.func91, Tryz.ntmps91
  go_wp2_with (first
    | (go_at_call 40; refine (gmade_yes g w h0).mono ?_; rintro e w' ⟨rfl, rfl⟩)
    | (go_at_call 115; refine (ghas_any H.out a).mono ?_; rintro e w1 ⟨rfl, hb1⟩; rw [HH.out]))
  go_ret
  exact ⟨rfl, hb1⟩
set_option maxRecDepth 100000 in
set_option maxHeartbeats 2000000 in
theorem greplace_arg {w : World} {lo g n C most f t : Nat} {A : Option Addr} {p s : List (List UInt8)} (h : GpAt w lo g A n C most f t p s) (hT : Tabs w) (a : Int) (c : List UInt8) (ha : hasB a (ln p s) = true) (hc : c.length ≤ 4000000) (hi : isC c = false) :
    Calls Tryz.prog 91 #[.pointer (some ⟨g, 0, none⟩), .int .i64 a, .string ⟨c.toArray⟩] w fun e w' => e = .returned (.int .i64 1) ∧ Below w.heap.size w w' := by
  have h0 := h.c0
  have H := Lib.hid h
  have HH := Lib.hid ha
  have HI := Lib.hid hi
  have HS := Lib.hid (show (⟨c.toArray⟩ : ByteArray).size ≤ 4000000 by rw [size_of]; exact hc)
  have HT := Lib.hid hT
  clear h ha hi hT
  go_enter Tryz.func91, Tryz.ntmps91
  go_wp2_with (first
    | (go_at_call 40; refine (gmade_yes g w h0).mono ?_; rintro e w' ⟨rfl, rfl⟩)
    | (go_at_call 115; refine (ghas_any H.out a).mono ?_; rintro e w1 ⟨rfl, hb1⟩; rw [HH.out])
    | (go_at_call 92; refine (cis_any _ HS.out w1 (HT.out.below hb1)).mono ?_; rintro e w2 ⟨rfl, hb2⟩; rw [show isC (⟨c.toArray⟩ : ByteArray).data.toList = false from HI.out]))
  go_ret
  exact ⟨rfl, hb1.trans (hb2.mono hb1.size)⟩

/-- a slot is written -/
theorem GpAt.setAt {w w' : World} {lo g n C most f t : Nat} {A : Option Addr} {p s : List (List UInt8)} (h : GpAt w lo g A n C most f t p s) (a : Nat) (ha : a < ln p s) (c : List UInt8) (hc : isC c = true) (ab : Nat) (hA : A = some ⟨ab, 0, none⟩) (cur : List Value) (hcur : Blk w ab 9 cur)
    (hb : Blk w' ab 9 (cur.set (slotN a f t) (.string ⟨c.toArray⟩))) (hg : Chg (one ab) w w') : ∃ p' s', p' ++ s' = (p ++ s).set a c ∧ GpAt w' lo g A n C most f t p' s' := by
  have hne := h.ne (ab := ab) (by rw [hA]; rfl)
  have hfp := h.fp
  have hft := h.ft
  have htn := h.tn
  obtain ⟨tl, hn1, hC, hcur', hlo⟩ : ∃ tl, 1 ≤ n ∧ C = n + tl.length ∧ Blk w ab 9 (gc sz (sv p) (t - f) (sv s) tl) ∧ lo ≤ ab := by
    rcases h.all with ⟨h0, _⟩ | ⟨ab', tl, e, h1, h2, h3, h4⟩
    · rw [hA] at h0; cases h0
    · rw [hA] at e
      have : ab = ab' := by injection e with e; injection e
      subst this
      exact ⟨tl, h1, h2, h3, h4⟩
  have hcc : cur = gc sz (sv p) (t - f) (sv s) tl := by
    unfold Blk at hcur hcur'
    rw [hcur] at hcur'
    injection hcur' with e
    injection e with e
    exact List.toArray_inj e
  rw [hcc] at hb
  have svs : ∀ (q : List (List UInt8)) (j : Nat), (sv q).set j (.string ⟨c.toArray⟩) = sv (q.set j c) := fun q j => by simp [sv, List.map_set]
  unfold slotN at hb
  unfold ln at ha
  by_cases hf : a < f
  · rw [if_pos hf, gc_setp _ _ _ _ _ _ _ (by rw [sv_length]; omega), svs] at hb
    refine ⟨p.set a c, s, by rw [List.set_append_left _ _ (by omega)], ⟨h.head.chg hg (fun e => hne e), by rw [List.length_set]; exact hfp, hft, htn, h.nC, .inr ⟨ab, tl, hA, hn1, hC, hb, hlo⟩, h.le, h.m1, h.m4, h.lo, fun d hd => ?_⟩⟩
    rw [← List.set_append_left _ _ (by omega)] at hd
    rcases List.mem_or_eq_of_mem_set hd with hd | rfl
    · exact h.is d hd
    · exact hc
  · rw [if_neg hf, gc_sets _ _ _ _ _ (a - f) _ _ (by rw [sv_length, hfp]; omega) (by rw [sv_length]; omega), svs] at hb
    have e : p ++ s.set (a - f) c = (p ++ s).set a c := by rw [List.set_append_right _ _ (by omega), hfp]
    refine ⟨p, s.set (a - f) c, e, ⟨h.head.chg hg (fun e => hne e), hfp, hft, by rw [List.length_set]; exact htn, h.nC, .inr ⟨ab, tl, hA, hn1, hC, hb, hlo⟩, h.le, h.m1, h.m4, h.lo, fun d hd => ?_⟩⟩
    rw [e] at hd
    rcases List.mem_or_eq_of_mem_set hd with hd | rfl
    · exact h.is d hd
    · exact hc

/-- what Replace leaves -/
def RepP (w : World) (lo g : Nat) (A : Option Addr) (n C most f t : Nat) (l : List (List UInt8)) (e : Ending) (w' : World) : Prop :=
  e = .returned (.int .i64 0) ∧ ∃ p' s', p' ++ s' = l ∧ GpAt w' lo g A n C most f t p' s' ∧ Chg (GpOwn g A) w w'
set_option maxRecDepth 100000 in
set_option maxHeartbeats 2000000 in
theorem greplace_ok {w : World} {lo g n C most f t : Nat} {A : Option Addr} {p s : List (List UInt8)} (h : GpAt w lo g A n C most f t p s) (hT : Tabs w) (a : Nat) (c : List UInt8) (ha : a < ln p s) (hc : c.length ≤ 4000000) (hi : isC c = true) :
    Calls Tryz.prog 91 #[.pointer (some ⟨g, 0, none⟩), .int .i64 a, .string ⟨c.toArray⟩] w (RepP w lo g A n C most f t ((p ++ s).set a c)) := by
  have h0 := h.c0
  have H := Lib.hid h
  have HH := Lib.hid (show hasB a (ln p s) = true by rw [hasB_at]; simpa using ha)
  have HI := Lib.hid hi
  have HS := Lib.hid (show (⟨c.toArray⟩ : ByteArray).size ≤ 4000000 by rw [size_of]; exact hc)
  have HT := Lib.hid hT
  obtain ⟨ab, rfl, hqq, hsn⟩ := h.slot_cell (a := a) (c := (p ++ s)[a]'(by rw [← ln_eq]; exact ha)) (List.getElem?_eq_getElem _)
  obtain ⟨sn, hsn'⟩ : ∃ sn, sn = slotN a f t := ⟨_, rfl⟩
  rw [← hsn'] at hsn
  have HSN := Lib.hid hsn'
  have hsni : (sn : Int) < n := by omega
  have hle := h.le
  have hm4 := h.m4
  have HA := Lib.hid ha
  clear hqq h ha hi hT hsn'
  go_enter Tryz.func91, Tryz.ntmps91
  go_wp2_with (first
    | (go_at_call 40; refine (gmade_yes g w h0).mono ?_; rintro e w' ⟨rfl, rfl⟩)
    | (go_at_call 115; refine (ghas_any H.out a).mono ?_; rintro e w1 ⟨rfl, hb1⟩; rw [HH.out])
    | (go_at_call 92; refine (cis_any _ HS.out w1 (HT.out.below hb1)).mono ?_; rintro e w2 ⟨rfl, hb2⟩; rw [show isC (⟨c.toArray⟩ : ByteArray).data.toList = true from HI.out]))
  have H2 := Lib.hid ((H.out.below hb1).below hb2)
  have HB2 := Lib.hid (hb1.trans (hb2.mono hb1.size))
  have k2 := cell_regrown H2.out.c2
  have Q1 : Hid (∀ d os, Calls Tryz.prog 116 #[.pointer (some ⟨g, 2, none⟩), .int .i64 a] (grow (redrawn w2 d) os) _) := Lib.hid (fun d os => Calls.regrown_of (by have := gslot_any (H2.out.below (below_regrown w2 d os)) a HA.out; rw [← HSN.out] at this; exact this))
  clear hb1 hb2
  refine wp_region_below_tail 12 (by kernel_rfl) (by kernel_rfl) ?_
  simp only [List.take_succ_cons, List.take_zero, List.drop_succ_cons, List.drop_zero]
  repeat (first
    | go_big_quiet_step (exact Q1.out _ _)
    | quiet_step (exact Q1.out _ _))
  refine wpQuiet_nil ?_
  intro _ hw'
  obtain ⟨⟨dq, osq⟩, hw''⟩ := hw'
  subst hw''
  have HBQ := Lib.hid (below_regrown w2 dq osq)
  have H3 := Lib.hid (H2.out.below HBQ.out)
  clear Q1 k2
  generalize grow (redrawn w2 dq) osq = w3 at *
  obtain ⟨cur, hcur, hclen⟩ : ∃ cur, Blk w3 ab 9 cur ∧ n ≤ cur.length := by
    rcases H3.out.all with ⟨h0, _⟩ | ⟨ab', tl, e, h1, h2, h3, h4⟩
    · cases h0
    · have : ab = ab' := by injection e with e; injection e
      subst this
      exact ⟨_, h3, by rw [gc_length, sv_length, sv_length, H3.out.fp]; have := H3.out.tn; have := H3.out.ft; omega⟩
  have HCU := Lib.hid hcur
  clear hcur
  go_wp2_with ((with_reducible refine at_store 33 ?_); refine wpList_store_cell rfl _ _ _ rfl rfl ab sn _ cur (.string ⟨c.toArray⟩) rfl rfl HCU.out (by omega) (by kernel_rfl) rfl ?_; intro w4 hn4 hg4; have HN4 := Lib.hid hn4; have HG4 := Lib.hid hg4; clear hn4 hg4)
  go_ret
  have hcg := chg_of_grown HG4.out
  have hn4 := HN4.out
  rw [HSN.out] at hn4
  obtain ⟨p', s', he, hg⟩ := H3.out.setAt a HA.out c HI.out ab rfl cur HCU.out hn4 hcg
  exact ⟨rfl, p', s', he, hg, (Chg.of_below (S := GpOwn g (some ⟨ab, 0, none⟩)) (HB2.out.trans (HBQ.out.mono HB2.out.size))).trans hcg (fun j hj => .inl (.inr (by have e : j = ab := hj; rw [e]; rfl)))⟩

theorem gp_set0 (g : Nat) (most : Int) (A : Option Addr) (n C : Nat) (f t : Int) (v : Value) :
    ([.pointer none, .int .i64 most, .slice A n C, .int .i64 f, .int .i64 t] : List Value).set 0 v = [v, .int .i64 most, .slice A n C, .int .i64 f, .int .i64 t] := rfl
/-- what withSlots hands back -/
def NewP (w : World) (most : Nat) (A : Option Addr) (n C f t : Nat) (e : Ending) (w' : World) : Prop :=
  ∃ g, e = .returned (.pointer (some ⟨g, 0, none⟩)) ∧ w.heap.size ≤ g ∧ Below w.heap.size w w' ∧ Blk w' g 82 [.pointer (some ⟨g, 0, none⟩), .int .i64 most, .slice A n C, .int .i64 f, .int .i64 t]
set_option maxRecDepth 100000 in
set_option maxHeartbeats 2000000 in
theorem withslots_any (most : Nat) (A : Option Addr) (n C f t : Nat) (w : World) :
    Calls Tryz.prog 36 #[.int .i64 most, .agg #[.slice A n C, .int .i64 f, .int .i64 t]] w (NewP w most A n C f t) := by
  go_enter Tryz.func36, Tryz.ntmps36
  go_wp2_with (fail)
  go_ret
  refine ⟨w.heap.size + 1, rfl, by omega, ((Below.refl _ w).alloc (Nat.le_refl _) _).alloc (by simp) _, ?_⟩
  have := Blk.new (w.alloc (.cells #[.slice A n C, .int .i64 f, .int .i64 t] 69)) 82 [.pointer (some ⟨w.heap.size + 1, 0, none⟩), .int .i64 most, .slice A n C, .int .i64 f, .int .i64 t]
  simpa using this
/-- what New hands back -/
def MadeP (w : World) (most : Nat) (e : Ending) (w' : World) : Prop :=
  ∃ g, e = .returned (.tuple #[.pointer (some ⟨g, 0, none⟩), .int .i64 0]) ∧ GpAt w' w.heap.size g none 0 0 most 0 0 [] [] ∧ Below w.heap.size w w'
set_option maxRecDepth 100000 in
set_option maxHeartbeats 2000000 in
theorem gnew_ok (most : Nat) (h1 : 1 ≤ most) (h2 : most ≤ 4096) (w : World) :
    Calls Tryz.prog 22 #[.int .i64 most] w (MadeP w most) := by
  have h1i : ¬ ((most : Int) < 1) := by omega
  have h2i : ¬ ((most : Int) > 4096) := by omega
  go_enter Tryz.func22, Tryz.ntmps22
  go_wp2_with (go_at_call 36; refine (withslots_any most none 0 0 0 0 w).mono ?_; rintro e w1 ⟨g, rfl, hg, hb, hbk⟩)
  go_ret2
  exact ⟨g, rfl, ⟨hbk, rfl, Nat.le_refl _, rfl, Nat.le_refl _, .inl ⟨rfl, rfl⟩, Nat.zero_le _, h1, h2, hg, fun c hc => by cases hc⟩, hb⟩
set_option maxHeartbeats 2000000 in
theorem gnew_no (most : Int) (h : most < 1 ∨ 4096 < most) (w : World) :
    Calls Tryz.prog 22 #[.int .i64 most] w fun e w' => e = .returned (.tuple #[.pointer none, .int .i64 120]) ∧ w = w' := by
  rcases h with h | h
  · go_enter Tryz.func22, Tryz.ntmps22
    go_wp2_with (fail)
    go_ret2
    exact ⟨rfl, rfl⟩
  · have h1 : ¬ (most < 1) := by omega
    go_enter Tryz.func22, Tryz.ntmps22
    go_wp2_with (fail)
    go_ret2
    exact ⟨rfl, rfl⟩
end Go.Proofs.YtfhfhjcdeeepbaaGreatDoor
