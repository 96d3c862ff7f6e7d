/-
  Walk: the law's forked; what each call makes of a buffer and of the document's.
  Walk: the law's step.
  Walk: GapRuns.
-/
import Derived.Test.YtjdfajgjejpfeaaGreatDoorGpRShow
import Derived.Test.YtjdfajgjejpfeaaGreatDoorGpFew
import Derived.Test.YtjdfajgjejpfeaaGreatDoorGhB
import Derived.Test.YtjdfajgjejpfeaaGreatDoorGhD
import Derived.Test.YtjdfajgjejpfeaaGreatDoorGhL
import Derived.Test.YtjdfajgjejpfeaaGreatDoorGhA
import Derived.Test.YtjdfajgjejpfeaaGreatDoorGpAwake
namespace Go.Proofs.YtjdfajgjejpfeaaGreatDoor
open Go.RowKit Go.Sort
set_option linter.unusedVariables false
set_option linter.unusedSimpArgs false
set_option maxRecDepth 100000

/-- what forked hands back -/
def FkP (w : World) (g : Nat) (A : Option Addr) (most n f t : Nat) (p s : List (List UInt8)) (e : Ending) (w' : World) : Prop :=
  ∃ g' A' C', e = .returned (.pointer (some ⟨g', 0, none⟩)) ∧ GpAt w' w.heap.size g' A' n C' most f t p s ∧ Chg (GpOwn g A) w w'
theorem clampN_zero (L : Nat) : clampN 0 L = 0 := by unfold clampN; omega
theorem clampN_self (L : Nat) : clampN (L : Int) L = L := by unfold clampN; omega
set_option maxHeartbeats 4000000 in
theorem forked_any {w : World} {lo g n C most f t : Nat} {A : Option Addr} {p s : List (List UInt8)} (h : GpAt w lo g A n C most f t p s) :
    Calls Tryz.prog 7 #[.pointer (some ⟨g, 0, none⟩)] w (FkP w g A most n f t p s) := by
  have H := Lib.hid h
  have HF := Lib.hid (gfork_any h)
  have HOW := Lib.hid h.own_lt
  rcases Nat.eq_zero_or_pos (ln p s) with h0 | h0
  · have HD := Lib.hid (fun V (hV : Below w.heap.size w V) => gdelete_no (h.below hV) 0 ((ln p s : Nat) : Int) (by rw [clampN_self, h0]; exact Nat.zero_le _))
    clear h h0
    go_enter Tryz.func7, Tryz.ntmps7
    go_wp2_with (first
      | (go_at_call 16; refine HF.out.mono ?_; rintro e w1 ⟨g', A', C', rfl, hg, hb⟩; have HG := Lib.hid hg; have HB1 := Lib.hid hb; clear hg hb)
      | (go_at_call 17; refine (glen_any (H.out.below HB1.out)).mono ?_; rintro e w2 ⟨rfl, hb⟩; have HB2 := Lib.hid hb; clear hb)
      | (go_at_call 14; refine (HD.out _ (HB1.out.trans (HB2.out.mono HB1.out.size))).mono ?_; rintro e w3 ⟨rfl, hb⟩; have HB3 := Lib.hid hb; clear hb))
    go_ret
    exact ⟨g', A', C', rfl, (HG.out.below HB2.out).below HB3.out, Chg.of_below (HB1.out.trans ((HB2.out.trans (HB3.out.mono HB2.out.size)).mono HB1.out.size))⟩
  · have HD := Lib.hid (fun V (hV : Below w.heap.size w V) => gdelete_yes (h.below hV) 0 ((ln p s : Nat) : Int) (by rw [clampN_self, clampN_zero]; exact h0))
    clear h h0
    go_enter Tryz.func7, Tryz.ntmps7
    go_wp2_with (first
      | (go_at_call 16; refine HF.out.mono ?_; rintro e w1 ⟨g', A', C', rfl, hg, hb⟩; have HG := Lib.hid hg; have HB1 := Lib.hid hb; clear hg hb)
      | (go_at_call 17; refine (glen_any (H.out.below HB1.out)).mono ?_; rintro e w2 ⟨rfl, hb⟩; have HB2 := Lib.hid hb; clear hb)
      | (go_at_call 14; refine (HD.out _ (HB1.out.trans (HB2.out.mono HB1.out.size))).mono ?_; rintro e w3 ⟨g2, tl, f', t', rfl, hg2, hbk, hgp, hch⟩; have HC3 := Lib.hid hch; clear hg2 hbk hgp hch))
    go_ret
    exact ⟨g', A', C', rfl, (HG.out.below HB2.out).keep HC3.out (fun k hk h2 => by
      have h3 := (HG.out.own_lt k hk).1
      have h4 := (HOW.out k h2).2
      omega), (Chg.of_below (HB1.out.trans (HB2.out.mono HB1.out.size))).trans HC3.out (fun _ h => .inl h)⟩

/-! ## What a call makes of both -/
/-- the buffer behind a call -/
def GoG (w : World) (lo g : Nat) (A : Option Addr) (most f' : Nat) (l' : List (List UInt8)) (w' : World) : Prop :=
  ∃ A' n' C' t' p' s', p' ++ s' = l' ∧ GpAt w' lo g A' n' C' most f' t' p' s' ∧ Chg (GpOwn g A) w w' ∧ ∀ k, blk A' = some k → blk A = some k ∨ w.heap.size ≤ k
/-- the document's buffer behind a call -/
def RefG (w : World) (rA : Option Addr) (most f' : Nat) (l' : List (List UInt8)) (v : Value) (e : Ending) (w' : World) : Prop :=
  ∃ N rA' rc', N = l'.length ∧ e = .returned (.tuple #[.agg #[.slice rA' N rc', .int .i64 f', .int .i64 most], v]) ∧ RowG w' rA' N rc' l' ∧ (∀ k, blk rA' = some k → blk rA = some k ∨ (w.heap.size ≤ k ∧ k < w'.heap.size)) ∧ Below w.heap.size w w'
theorem GoG.same {w w' : World} {lo g n C most f t : Nat} {A : Option Addr} {p s : List (List UInt8)} (h : GpAt w lo g A n C most f t p s) (hb : Below w.heap.size w w') : GoG w lo g A most f (p ++ s) w' :=
  ⟨A, n, C, t, p, s, rfl, h.below hb, Chg.of_below hb, fun k hk => .inl hk⟩
theorem RefG.of_row {w w' : World} {rA A : Option Addr} {N c f most : Nat} {l : List (List UInt8)} {v : Value} (hN : N = l.length) (ho : OR w' w.heap.size 9 A N c (sv l)) (hb : Below w.heap.size w w') : RefG w rA most f l v (.returned (.tuple #[.agg (rgp A N c f most).toArray, v])) w' := by
  subst hN
  exact ⟨_, A, c, rfl, rfl, ⟨rfl, ho.sl, ho.ncap, ho.2⟩, fun k hk => .inr (ho.blk_lt k hk), hb⟩
theorem RefG.same {w w' : World} {rA : Option Addr} {L rc f most : Nat} {l : List (List UInt8)} {v : Value} (h : RowG w rA L rc l) (hb : Below w.heap.size w w') : RefG w rA most f l v (.returned (.tuple #[.agg (rgp rA L rc f most).toArray, v])) w' := by
  have hn := h.n
  subst hn
  exact ⟨_, rA, rc, rfl, rfl, h.below hb, fun k hk => .inl hk, hb⟩
section
variable {w : World} {lo g n C most f t : Nat} {A : Option Addr} {p s : List (List UInt8)}
/-- Move, of both -/
theorem move_both (h : GpAt w lo g A n C most f t p s) (rA : Option Addr) (L rc : Nat) (hL : L = ln p s) (a : Int) :
    (∀ W, Below w.heap.size w W → Calls Tryz.prog 12 #[.pointer (some ⟨g, 0, none⟩), .int .i64 a] W fun e w' => e = .returned (.int .i64 (clampN a L : Nat)) ∧ GoG W lo g A most (clampN a L) (p ++ s) w') ∧
      (∀ W, RowG W rA L rc (p ++ s) → Calls Tryz.prog 19 #[.agg (rgp rA L rc f most).toArray, .int .i64 a] W (RefG W rA most (clampN a L) (p ++ s) (.int .i64 (clampN a L : Nat)))) := by
  subst hL
  refine ⟨fun W hW => (gmove_any (h.below hW) a).mono ?_, fun W hR => (rmove_any rA (ln p s) rc f most a W).mono ?_⟩
  · rintro e w' ⟨rfl, ⟨f', t', hg⟩, hc⟩
    have hf : f' = clampN a (ln p s) := by rw [← hg.fp, List.length_take, ← ln_eq]; exact Nat.min_eq_left (clampN_le _ _)
    subst hf
    exact ⟨rfl, A, n, C, t', _, _, List.take_append_drop _ _, hg, hc, fun k hk => .inl hk⟩
  · rintro e w' ⟨rfl, hb⟩
    exact RefG.same hR hb
/-- Insert, of both -/
theorem insert_both (h : GpAt w lo g A n C most f t p s) (rA : Option Addr) (L rc : Nat) (hL : L = ln p s) (M : List (List UInt8)) (m : Nat) (hm : m = M.length) (hm5 : m ≤ 100000) (hlen : ∀ c ∈ M, c.length ≤ 4000000) :
    ∃ (z : Int) (f' : Nat) (l' : List (List UInt8)), (∀ W X d, Below w.heap.size w W → Tabs W → Sl W W.heap.size X (sv M) → (∀ b off, X = some ⟨b, off, none⟩ → b ≠ g) → Calls Tryz.prog 11 #[.pointer (some ⟨g, 0, none⟩), .slice X m d] W fun e w' => e = .returned (.int .i64 z) ∧ GoG W lo g A most f' l' w') ∧
      (∀ W X d, RowG W rA L rc (p ++ s) → Sl W W.heap.size X (sv M) → (X = none → d = 0) → Calls Tryz.prog 26 #[.agg (rgp rA L rc f most).toArray, .slice X m d] W (RefG W rA most f' l' (.int .i64 z))) := by
  have hL4 : L ≤ 4096 := by have := h.ln_le; have := h.m4; omega
  have hLm : L ≤ most := by have := h.ln_le; omega
  have hfL : f ≤ L := by have := h.fp; rw [hL]; unfold ln; omega
  by_cases hc : ∀ c ∈ M, isC c = true
  · by_cases hmm : m ≤ most - L
    · refine ⟨0, f + m, p ++ M ++ s, fun W X d hW hT hX hXg => ?_, fun W X d hR hX hX0 => ?_⟩
      · refine (ginsert_ok (h.below hW) hT M X m d hm (by omega) hX hXg hlen hc (by rw [← hL]; exact hmm)).mono ?_
        rintro e w' ⟨rfl, A', n', C', t', hg, hch, hk⟩
        have hf : (p ++ M).length = f + m := by rw [List.length_append, h.fp, ← hm]
        rw [hf] at hg
        exact ⟨rfl, A', n', C', t', _, _, rfl, hg, hch, hk⟩
      · refine (rins_ok rA L rc f most M X m d hm hm5 W hX hlen hc (p ++ s) hR.n hR.s hR.nc hR.nil hX0 hfL hL4 h.m4 hLm hmm).mono ?_
        rintro e w' ⟨A', c', rfl, ho, hb⟩
        have e1 : (p ++ s).take f = p := by have := h.fp; rw [List.take_append_of_le_length (by omega), List.take_of_length_le (by omega)]
        have e2 : (p ++ s).drop f = s := by have := h.fp; rw [List.drop_append_of_le_length (by omega), List.drop_of_length_le (by omega), List.nil_append]
        rw [e1, e2] at ho
        exact RefG.of_row (by have h1 := hR.n; have h2 := h.fp; simp only [List.length_append] at h1 ⊢; omega) ho hb
    · refine ⟨3, f, p ++ s, fun W X d hW hT hX hXg => ?_, fun W X d hR hX hX0 => ?_⟩
      · refine (ginsert_many (h.below hW) hT M X m d hm (by omega) hX hlen hc (by rw [← hL]; omega)).mono ?_
        rintro e w' ⟨rfl, hb⟩
        exact ⟨rfl, GoG.same (h.below hW) hb⟩
      · refine (rins_many rA L rc f most M X m d hm hm5 W hX hlen hc hL4 h.m4 hLm (by omega)).mono ?_
        rintro e w' ⟨rfl, hb⟩
        exact RefG.same hR hb
  · refine ⟨1, f, p ++ s, fun W X d hW hT hX hXg => ?_, fun W X d hR hX hX0 => ?_⟩
    · refine (ginsert_arg (h.below hW) hT M X m d hm (by omega) hX hlen hc).mono ?_
      rintro e w' ⟨rfl, hb⟩
      exact ⟨rfl, GoG.same (h.below hW) hb⟩
    · refine (rins_arg rA L rc f most M X m d hm hm5 W hX hlen hc).mono ?_
      rintro e w' ⟨rfl, hb⟩
      exact RefG.same hR hb
theorem set_cut (l : List (List UInt8)) (a : Nat) (c : List UInt8) (ha : a < l.length) : l.take a ++ [c] ++ l.drop (a + 1) = l.set a c := by
  rw [List.set_eq_take_append_cons_drop, if_pos ha, List.append_assoc]
  rfl
/-- Replace, of both -/
theorem replace_both (h : GpAt w lo g A n C most f t p s) (rA : Option Addr) (L rc : Nat) (hL : L = ln p s) (a : Int) (c : List UInt8) (hlen : c.length ≤ 4000000) :
    ∃ (z : Int) (l' : List (List UInt8)), (∀ W, Below w.heap.size w W → Tabs W → Calls Tryz.prog 22 #[.pointer (some ⟨g, 0, none⟩), .int .i64 a, .string ⟨c.toArray⟩] W fun e w' => e = .returned (.int .i64 z) ∧ GoG W lo g A most f l' w') ∧
      (∀ W, RowG W rA L rc (p ++ s) → Calls Tryz.prog 23 #[.agg (rgp rA L rc f most).toArray, .int .i64 a, .string ⟨c.toArray⟩] W (RefG W rA most f l' (.int .i64 z))) := by
  have hL4 : L ≤ 4096 := by have := h.ln_le; have := h.m4; omega
  cases ha : hasB a L with
  | false =>
    refine ⟨5, p ++ s, fun W hW hT => ?_, fun W hR => ?_⟩
    · refine (greplace_no (h.below hW) a c (by rw [← hL]; exact ha)).mono ?_
      rintro e w' ⟨rfl, hb⟩
      exact ⟨rfl, GoG.same (h.below hW) hb⟩
    · refine (rrep_no rA L rc f most a c ha W).mono ?_
      rintro e w' ⟨rfl, hb⟩
      exact RefG.same hR hb
  | true =>
    cases hi : isC c with
    | false =>
      refine ⟨1, p ++ s, fun W hW hT => ?_, fun W hR => ?_⟩
      · refine (greplace_arg (h.below hW) hT a c (by rw [← hL]; exact ha) hlen hi).mono ?_
        rintro e w' ⟨rfl, hb⟩
        exact ⟨rfl, GoG.same (h.below hW) hb⟩
      · refine (rrep_arg rA L rc f most a c ha hlen hi W).mono ?_
        rintro e w' ⟨rfl, hb⟩
        exact RefG.same hR hb
    | true =>
      have hh : 0 ≤ a ∧ a < L := of_decide_eq_true ha
      obtain ⟨k, rfl⟩ := Int.eq_ofNat_of_zero_le hh.1
      have hk : k < L := by omega
      refine ⟨0, (p ++ s).set k c, fun W hW hT => ?_, fun W hR => ?_⟩
      · refine (greplace_ok (h.below hW) hT k c (by rw [← hL]; exact hk) hlen hi).mono ?_
        rintro e w' ⟨rfl, p', s', hps, hg, hch⟩
        exact ⟨rfl, A, n, C, t, p', s', hps, hg, hch, fun k hk => .inl hk⟩
      · refine (rrep_ok (p ++ s) rA L rc f most k c hR.n hR.nc hR.nil hL4 hk hlen hi W hR.s).mono ?_
        rintro e w' ⟨A', c', rfl, ho, hb⟩
        rw [set_cut _ _ _ (by rw [← hR.n]; exact hk)] at ho
        exact RefG.of_row (by rw [List.length_set, ← hR.n]; omega) ho hb
/-- Delete, of both -/
def DelG (w : World) (lo g : Nat) (A : Option Addr) (most f' K : Nat) (l' gone : List (List UInt8)) (e : Ending) (w' : World) : Prop :=
  ∃ B d, e = .returned (.slice B K d) ∧ Sl w' w'.heap.size B (sv gone) ∧ (∀ k, blk B = some k → w.heap.size ≤ k) ∧ GoG w lo g A most f' l' w'
def DelR (w : World) (rA : Option Addr) (most f' K : Nat) (l' gone : List (List UInt8)) (e : Ending) (w' : World) : Prop :=
  ∃ B d, Sl w' w'.heap.size B (sv gone) ∧ RefG w rA most f' l' (.slice B K d) e w'
theorem delete_both (h : GpAt w lo g A n C most f t p s) (rA : Option Addr) (L rc : Nat) (hL : L = ln p s) (x y : Int) :
    ∃ (f' K : Nat) (l' gone : List (List UInt8)), K = gone.length ∧ K ≤ 4096 ∧ (∀ W, Below w.heap.size w W → Calls Tryz.prog 14 #[.pointer (some ⟨g, 0, none⟩), .int .i64 x, .int .i64 y] W (DelG W lo g A most f' K l' gone)) ∧
      (∀ W, RowG W rA L rc (p ++ s) → Calls Tryz.prog 20 #[.agg (rgp rA L rc f most).toArray, .int .i64 x, .int .i64 y] W (DelR W rA most f' K l' gone)) := by
  have hL4 : L ≤ 4096 := by have := h.ln_le; have := h.m4; omega
  have hfL : f ≤ L := by have := h.fp; rw [hL]; unfold ln; omega
  by_cases hlt : clampN x L < clampN y L
  · have hy := clampN_le y L
    have hlen : (p ++ s).length = L := by rw [hL, ln_eq]
    refine ⟨delC f (clampN x L) (clampN y L), clampN y L - clampN x L, (p ++ s).take (clampN x L) ++ (p ++ s).drop (clampN y L), ((p ++ s).drop (clampN x L)).take (clampN y L - clampN x L), by rw [List.length_take, List.length_drop]; omega, by omega, fun W hW => ?_, fun W hR => ?_⟩
    · have hd := gdelete_yes (h.below hW) x y (by rw [← hL]; exact hlt)
      rw [← hL] at hd
      refine hd.mono ?_
      rintro e w' ⟨g2, tl, f', t', rfl, hg2, hbk, hg, hch⟩
      have hdl := delC_le hfL hy hlt
      have hf : f' = delC f (clampN x L) (clampN y L) := by
        rw [← hg.fp, List.length_take]
        refine Nat.min_eq_left ?_
        rw [List.length_append, List.length_take, List.length_drop]
        omega
      subst hf
      refine ⟨_, _, rfl, .inr ⟨g2, 0, rfl, hbk.lt, fun j u hu => ?_⟩, fun k hk => by simp [blk] at hk; omega, A, n, C, t', _, _, List.take_append_drop _ _, hg, hch, fun k hk => .inl hk⟩
      rw [Nat.zero_add, hbk.cell, List.getElem?_append_left (List.getElem?_eq_some_iff.1 hu).1]
      exact hu
    · refine (rdel_yes (p ++ s) rA L rc f most x y hR.n hR.nc hR.nil hL4 hfL hlt W hR.s).mono ?_
      rintro e w' ⟨A', c', A2, c2, rfl, ho, ho2, hb⟩
      exact ⟨A2, c2, ho2.sl, RefG.of_row (by rw [List.length_append, List.length_take, List.length_drop]; omega) ho hb⟩
  · refine ⟨f, 0, p ++ s, [], rfl, by omega, fun W hW => ?_, fun W hR => ?_⟩
    · refine (gdelete_no (h.below hW) x y (by rw [← hL]; omega)).mono ?_
      rintro e w' ⟨rfl, hb⟩
      exact ⟨none, 0, rfl, .inl rfl, (fun k hk => by cases hk), GoG.same (h.below hW) hb⟩
    · refine (rdel_no rA L rc f most x y (by omega) W).mono ?_
      rintro e w' ⟨rfl, hb⟩
      exact ⟨none, 0, .inl rfl, RefG.same hR hb⟩
end
end Go.Proofs.YtjdfajgjejpfeaaGreatDoor

namespace Go.Proofs.YtjdfajgjejpfeaaGreatDoor
open Go.RowKit Go.Sort
set_option linter.unusedVariables false
set_option linter.unusedSimpArgs false
set_option maxRecDepth 100000

/-- both buffers behind a call -/
def StepG (w : World) (lo g : Nat) (A rA : Option Addr) (most f' N rc' : Nat) (rA' : Option Addr) (F : World) : Prop :=
  ∃ l' A' n' C' t' p' s', p' ++ s' = l' ∧ N = l'.length ∧ GpAt F lo g A' n' C' most f' t' p' s' ∧ Chg (GpOwn g A) w F ∧ (∀ k, blk A' = some k → blk A = some k ∨ w.heap.size ≤ k) ∧
    RowG F rA' N rc' l' ∧ (∀ k, blk rA' = some k → ¬ GpOwn g A' k ∧ k < F.heap.size) ∧ (∀ k, blk rA' = some k → blk rA = some k ∨ w.heap.size ≤ k)
theorem StepG.close {w w1 w2 w3 F : World} {lo g n C most f t f' N rc' r : Nat} {A rA rA' : Option Addr} {p s l' : List (List UInt8)} (h : GpAt w lo g A n C most f t p s) (hap : ∀ k, blk rA = some k → ¬ GpOwn g A k ∧ k < w.heap.size) (hb1 : Below w.heap.size w w1) (hr1 : w.heap.size ≤ r) (hr2 : r < w1.heap.size)
    (hg : GoG w1 lo g A most f' l' w2) (hN : N = l'.length) (hrow : RowG w3 rA' N rc' l') (hblk : ∀ k, blk rA' = some k → blk rA = some k ∨ (w2.heap.size ≤ k ∧ k < w3.heap.size)) (hb3 : Below w2.heap.size w2 w3) (hF : Chg (one r) w3 F) : StepG w lo g A rA most f' N rc' rA' F := by
  obtain ⟨A', n', C', t', p', s', hps, hgp, hch, hgr⟩ := hg
  have h1 := hb1.size
  have h2 := hch.size
  have h3 := hb3.size
  have h4 := hF.size
  have hown : ∀ k, GpOwn g A k → k < w.heap.size := fun k hk => (h.own_lt k hk).2
  have hown' : ∀ k, GpOwn g A' k → k ≠ r ∧ k < w2.heap.size := fun k hk => by
    refine ⟨fun e => ?_, (hgp.own_lt k hk).2⟩
    subst e
    rcases hk with rfl | hk
    · have := hown k (.inl rfl); omega
    · rcases hgr k hk with hk2 | hk2
      · have := hown k (.inr hk2); omega
      · omega
  have hrr : ∀ k, blk rA' = some k → k ≠ r ∧ k < w3.heap.size ∧ ¬ GpOwn g A' k := fun k hk => by
    rcases hblk k hk with hk2 | ⟨hk2, hk3⟩
    · obtain ⟨h5, h6⟩ := hap k hk2
      refine ⟨by omega, by omega, fun h7 => ?_⟩
      rcases h7 with rfl | h7
      · exact h5 (.inl rfl)
      · rcases hgr k h7 with h8 | h8
        · exact h5 (.inr h8)
        · omega
    · exact ⟨by omega, hk3, fun h7 => by have := (hown' k h7).2; omega⟩
  refine ⟨l', A', n', C', t', p', s', hps, hN, (hgp.below hb3).keep hF (fun k hk e => (hown' k hk).1 e), ((((Chg.of_below hb1).trans hch (fun _ h => .inl h)).trans (Chg.of_below (S := noB) hb3) (fun _ h => h.elim)).trans hF (fun k e => .inr (by have e' : k = r := e; omega))), fun k hk => (hgr k hk).imp id (fun h => by omega), ⟨hrow.n, (hF.sl hrow.s (Nat.le_refl _) (fun b off e h5 => ?_)).more h4, hrow.nc, hrow.nil⟩, (fun k hk => ⟨(hrr k hk).2.2, by have := (hrr k hk).2.1; omega⟩), fun k hk => (hblk k hk).imp id (fun h => by have := h.1; omega)⟩
  exact (hrr b (by rw [e]; rfl)).1 h5
/-- what step hands back -/
def StepP (w : World) (lo g : Nat) (A rA : Option Addr) (most : Nat) (e : Ending) (w' : World) : Prop :=
  ∃ f' N rc' rA', e = .returned (.tuple #[.agg (rgp rA' N rc' f' most).toArray, .bool true]) ∧ StepG w lo g A rA most f' N rc' rA' w'
theorem RowG.chg {w w' : World} {rA : Option Addr} {L rc : Nat} {l : List (List UInt8)} {S : Nat → Prop} (h : RowG w rA L rc l) (hc : Chg S w w') (hn : ∀ k, blk rA = some k → ¬ S k) : RowG w' rA L rc l :=
  ⟨h.n, (hc.sl h.s (Nat.le_refl _) (fun b off e => hn b (by rw [e]; rfl))).more hc.size, h.nc, h.nil⟩
set_option maxHeartbeats 16000000 in
theorem step_move {w : World} {lo g n C most f t : Nat} {A : Option Addr} {p s : List (List UInt8)} (h : GpAt w lo g A n C most f t p s) (hT : ∀ V, Chg (GpOwn g A) w V → Tabs V) (rA : Option Addr) (L rc : Nat) (hR : RowG w rA L rc (p ++ s)) (hap : ∀ k, blk rA = some k → ¬ GpOwn g A k ∧ k < w.heap.size) (o : OpG) (ho : o.ok w) (hk : o.kd % 8 = 3) :
    Calls Tryz.prog 8 #[.pointer (some ⟨g, 0, none⟩), .agg (rgp rA L rc f most).toArray, .agg o.cells.toArray] w (StepP w lo g A rA most) := by
  obtain ⟨kd, oa, ob, oX, on, oc, oL⟩ := o
  have hL : L = ln p s := by rw [ln_eq]; exact hR.n
  have hd0 : 0 ≤ kd := ho.d0
  have hd1 : kd ≤ 255 := ho.d1
  simp only at hk
  have hq3 : (kd % 8 == 3) = true := by rw [hk]; rfl
  obtain ⟨M, hM⟩ : ∃ M, M = fewL oL := ⟨_, rfl⟩
  have hM80 : ∀ c ∈ M, c.length ≤ 4000000 := by rw [hM]; intro c hc; have := fewL_len oL c hc; omega
  obtain ⟨m, hm⟩ : ∃ m, m = M.length := ⟨_, rfl⟩
  have hm12 : m ≤ 12 := by rw [hm, hM, fewL_length]; omega
  obtain ⟨W, hW⟩ : ∃ W, W = ((w.alloc (.cells (rgp rA L rc f most).toArray 29)).alloc (.cells (OpG.cells ⟨kd, oa, ob, oX, on, oc, oL⟩).toArray 34)).alloc (.cells #[.slice none 0 0, .int .i64 0, .int .i64 0] 29) := ⟨_, rfl⟩
  have hb0 : Below w.heap.size w W := by rw [hW]; exact (((Below.refl _ w).alloc (Nat.le_refl _) _).alloc (by simp) _).alloc (by simp; omega) _
  have hB4 : Blk W w.heap.size 29 (rgp rA L rc f most) := by rw [hW]; exact ((Blk.new w 29 _).alloc _).alloc _
  have hB5 : Blk W (w.heap.size + 1) 34 (OpG.cells ⟨kd, oa, ob, oX, on, oc, oL⟩) := by
    have := (Blk.new (w.alloc (.cells (rgp rA L rc f most).toArray 29)) 34 (OpG.cells ⟨kd, oa, ob, oX, on, oc, oL⟩)).alloc (.cells #[.slice none 0 0, .int .i64 0, .int .i64 0] 29)
    rw [hW]; simpa using this
  have hB6 : Blk W (w.heap.size + 1 + 1) 29 [.slice none 0 0, .int .i64 0, .int .i64 0] := by
    have := Blk.new ((w.alloc (.cells (rgp rA L rc f most).toArray 29)).alloc (.cells (OpG.cells ⟨kd, oa, ob, oX, on, oc, oL⟩).toArray 34)) 29 [.slice none 0 0, .int .i64 0, .int .i64 0]
    rw [hW]; simpa using this
  have hown : ∀ k, GpOwn g A k → k < w.heap.size := fun k hk => (h.own_lt k hk).2
  have hk4 : ∀ V, Chg (GpOwn g A) W V → Blk V w.heap.size 29 (rgp rA L rc f most) ∧ Blk V (w.heap.size + 1) 34 (OpG.cells ⟨kd, oa, ob, oX, on, oc, oL⟩) ∧ Blk V (w.heap.size + 1 + 1) 29 [.slice none 0 0, .int .i64 0, .int .i64 0] := fun V hV =>
    ⟨hB4.chg hV (fun e => by have := hown _ e; omega), hB5.chg hV (fun e => by have := hown _ e; omega), hB6.chg hV (fun e => by have := hown _ e; omega)⟩
  have hfew := few_any oL oX on oc ho.n (Nat.le_trans ho.c ho.cm) W ((ho.s.below hb0).more hb0.size) ho.len
  rw [← hM, ← hm] at hfew
  have HK := Lib.hid hk4
  have HFEW := Lib.hid hfew
  have HB0 := Lib.hid hb0
  have H := Lib.hid h
  have HT := Lib.hid hT
  have HR := Lib.hid hR
  have HAP := Lib.hid hap
  have HOWN := Lib.hid hown
  have HM80 := Lib.hid hM80
  have HM := Lib.hid hm
  obtain ⟨f3, hf3⟩ : ∃ f3, f3 = clampN oa L := ⟨_, rfl⟩
  obtain ⟨q1, q2⟩ := move_both h rA L rc hL oa
  rw [← hf3] at q1 q2
  simp only [rgp] at q2
  have Q1 := Lib.hid q1
  have Q2 := Lib.hid q2
  clear q1 q2 hf3
  clear h hT hR hap hown hM80 hm hM hk4 hfew hb0 hB4 hB5 hB6 ho hk hL
  simp only [rgp, OpG.cells] at hW HK ⊢
  obtain ⟨B4, B5, B6⟩ := HK.out _ (Chg.refl _ W)
  have a0 := B4.cell 0
  have a1 := B4.cell 1
  have a2 := B4.cell 2
  have o0 := B5.cell 0
  have o1 := B5.cell 1
  have o2 := B5.cell 2
  have o3 := B5.cell 3
  have z0 := B6.cell 0
  have y0 := B6.frozen 0
  have z1 := B6.cell 1
  have y1 := B6.frozen 1
  have z2 := B6.cell 2
  have y2 := B6.frozen 2
  have hz : w.heap.size + 1 + 1 < W.heap.size := B6.lt
  clear B4 B5 B6
  go_enter Tryz.func8, Tryz.ntmps8
  go_upto_region 1 with (fail)
  rw [← hW]
  clear hW
  go_wp2_with (fail)
  refine HFEW.out.mono ?_
  rintro e w1 ⟨A1, c1, rfl, ho1, hb1⟩
  have HO1 := Lib.hid ho1
  have HC1 := Lib.hid (Chg.of_below (S := GpOwn g A) hb1)
  have HB1 := Lib.hid (HB0.out.trans (hb1.mono HB0.out.size))
  have HX1 := Lib.hid hb1
  clear ho1 hb1
  clear a0 a1 a2 o0 o1 o2 o3 z0 z1 z2 y0 y1 y2 hz
  obtain ⟨B4, B5, B6⟩ := HK.out _ HC1.out
  have a0 := B4.cell 0
  have a1 := B4.cell 1
  have a2 := B4.cell 2
  have o0 := B5.cell 0
  have o1 := B5.cell 1
  have o2 := B5.cell 2
  have o3 := B5.cell 3
  have z0 := B6.cell 0
  have y0 := B6.frozen 0
  have z1 := B6.cell 1
  have y1 := B6.frozen 1
  have z2 := B6.cell 2
  have y2 := B6.frozen 2
  have hz : w.heap.size + 1 + 1 < w1.heap.size := B6.lt
  clear B4 B5 B6
  have HZ1 : Hid (w.heap.size + 1 + 1 < w1.heap.size) := Lib.hid hz
  go_wp2_with (fail)
  refine (Q1.out w1 HB1.out).mono ?_
  rintro e w2 ⟨rfl, hg2⟩
  obtain ⟨A9, n9, C9, t9, p9, s9, hps9, hgp9, hch9, hgr9⟩ := id hg2
  have HC2 := Lib.hid (HC1.out.trans hch9 (fun _ h => .inl h))
  have HG2 := Lib.hid hg2
  have HCH := Lib.hid hch9
  have HR2 := Lib.hid ((HR.out.below HB1.out).chg hch9 (fun k hk => (HAP.out k hk).1))
  clear hg2 hps9 hgp9 hch9 hgr9
  clear a0 a1 a2 o0 o1 o2 o3 z0 z1 z2 y0 y1 y2 hz
  obtain ⟨B4, B5, B6⟩ := HK.out _ HC2.out
  have a0 := B4.cell 0
  have a1 := B4.cell 1
  have a2 := B4.cell 2
  have o0 := B5.cell 0
  have o1 := B5.cell 1
  have o2 := B5.cell 2
  have o3 := B5.cell 3
  have z0 := B6.cell 0
  have y0 := B6.frozen 0
  have z1 := B6.cell 1
  have y1 := B6.frozen 1
  have z2 := B6.cell 2
  have y2 := B6.frozen 2
  have hz : w.heap.size + 1 + 1 < w2.heap.size := B6.lt
  clear B4 B5 B6
  go_wp2_with (fail)
  refine (Q2.out w2 HR2.out).mono ?_
  rintro e w3 ⟨N3, rA3, rc3, hN3, rfl, hrow3, hblk3, hb3⟩
  have HB3 := Lib.hid hb3
  have HROW := Lib.hid hrow3
  have HBLK := Lib.hid hblk3
  have HN3 := Lib.hid hN3
  have HC3 := Lib.hid (HC2.out.trans (Chg.of_below (S := noB) hb3) (fun _ h => h.elim))
  clear hb3 hrow3 hblk3 hN3
  clear a0 a1 a2 o0 o1 o2 o3 z0 z1 z2 y0 y1 y2 hz
  obtain ⟨B4, B5, B6⟩ := HK.out _ HC3.out
  have a0 := B4.cell 0
  have a1 := B4.cell 1
  have a2 := B4.cell 2
  have o0 := B5.cell 0
  have o1 := B5.cell 1
  have o2 := B5.cell 2
  have o3 := B5.cell 3
  have z0 := B6.cell 0
  have y0 := B6.frozen 0
  have z1 := B6.cell 1
  have y1 := B6.frozen 1
  have z2 := B6.cell 2
  have y2 := B6.frozen 2
  have hz : w.heap.size + 1 + 1 < w3.heap.size := B6.lt
  clear B4 B5 B6
  go_wp2_with (fail)
  refine bodyPost_ret (hresults_ct (ad := w.heap.size + 1 + 1) (cs := rgp rA3 N3 rc3 f3 most) rfl rfl rfl (Blk.hwhole (t := 29) ?_) Tryz.underlying29 rfl (by kernel_rfl)) rfl ?_
  · exact ((((HK.out _ HC3.out).2.2.set_ 0 _).set_ 1 _).set_ 2 _).alloc _
  · exact ⟨f3, N3, rc3, rA3, rfl, StepG.close H.out HAP.out HB1.out (by omega) HZ1.out HG2.out HN3.out HROW.out HBLK.out HB3.out (((((Chg.refl (one (w.heap.size + 1 + 1)) w3).setCell (p := ⟨w.heap.size + 1 + 1, 0, none⟩) (.inl rfl) _).setCell (p := ⟨w.heap.size + 1 + 1, 1, none⟩) (.inl rfl) _).setCell (p := ⟨w.heap.size + 1 + 1, 2, none⟩) (.inl rfl) _).alloc _)⟩
set_option maxHeartbeats 16000000 in
theorem step_rep0 {w : World} {lo g n C most f t : Nat} {A : Option Addr} {p s : List (List UInt8)} (h : GpAt w lo g A n C most f t p s) (hT : ∀ V, Chg (GpOwn g A) w V → Tabs V) (rA : Option Addr) (L rc : Nat) (hR : RowG w rA L rc (p ++ s)) (hap : ∀ k, blk rA = some k → ¬ GpOwn g A k ∧ k < w.heap.size) (o : OpG) (ho : o.ok w) (hk : o.kd % 8 = 5) (hz0 : (fewL o.L).length = 0) :
    Calls Tryz.prog 8 #[.pointer (some ⟨g, 0, none⟩), .agg (rgp rA L rc f most).toArray, .agg o.cells.toArray] w (StepP w lo g A rA most) := by
  obtain ⟨kd, oa, ob, oX, on, oc, oL⟩ := o
  have hL : L = ln p s := by rw [ln_eq]; exact hR.n
  have hd0 : 0 ≤ kd := ho.d0
  have hd1 : kd ≤ 255 := ho.d1
  simp only at hk
  have hq3 : (kd % 8 == 3) = false := by rw [hk]; rfl
  have hq4 : (kd % 8 == 4) = false := by rw [hk]; rfl
  have hq5 : (kd % 8 == 5) = true := by rw [hk]; rfl
  obtain ⟨M, hM⟩ : ∃ M, M = fewL oL := ⟨_, rfl⟩
  have hM80 : ∀ c ∈ M, c.length ≤ 4000000 := by rw [hM]; intro c hc; have := fewL_len oL c hc; omega
  obtain ⟨m, hm⟩ : ∃ m, m = M.length := ⟨_, rfl⟩
  have hm12 : m ≤ 12 := by rw [hm, hM, fewL_length]; omega
  obtain ⟨W, hW⟩ : ∃ W, W = ((w.alloc (.cells (rgp rA L rc f most).toArray 29)).alloc (.cells (OpG.cells ⟨kd, oa, ob, oX, on, oc, oL⟩).toArray 34)).alloc (.cells #[.slice none 0 0, .int .i64 0, .int .i64 0] 29) := ⟨_, rfl⟩
  have hb0 : Below w.heap.size w W := by rw [hW]; exact (((Below.refl _ w).alloc (Nat.le_refl _) _).alloc (by simp) _).alloc (by simp; omega) _
  have hB4 : Blk W w.heap.size 29 (rgp rA L rc f most) := by rw [hW]; exact ((Blk.new w 29 _).alloc _).alloc _
  have hB5 : Blk W (w.heap.size + 1) 34 (OpG.cells ⟨kd, oa, ob, oX, on, oc, oL⟩) := by
    have := (Blk.new (w.alloc (.cells (rgp rA L rc f most).toArray 29)) 34 (OpG.cells ⟨kd, oa, ob, oX, on, oc, oL⟩)).alloc (.cells #[.slice none 0 0, .int .i64 0, .int .i64 0] 29)
    rw [hW]; simpa using this
  have hB6 : Blk W (w.heap.size + 1 + 1) 29 [.slice none 0 0, .int .i64 0, .int .i64 0] := by
    have := Blk.new ((w.alloc (.cells (rgp rA L rc f most).toArray 29)).alloc (.cells (OpG.cells ⟨kd, oa, ob, oX, on, oc, oL⟩).toArray 34)) 29 [.slice none 0 0, .int .i64 0, .int .i64 0]
    rw [hW]; simpa using this
  have hown : ∀ k, GpOwn g A k → k < w.heap.size := fun k hk => (h.own_lt k hk).2
  have hk4 : ∀ V, Chg (GpOwn g A) W V → Blk V w.heap.size 29 (rgp rA L rc f most) ∧ Blk V (w.heap.size + 1) 34 (OpG.cells ⟨kd, oa, ob, oX, on, oc, oL⟩) ∧ Blk V (w.heap.size + 1 + 1) 29 [.slice none 0 0, .int .i64 0, .int .i64 0] := fun V hV =>
    ⟨hB4.chg hV (fun e => by have := hown _ e; omega), hB5.chg hV (fun e => by have := hown _ e; omega), hB6.chg hV (fun e => by have := hown _ e; omega)⟩
  have hfew := few_any oL oX on oc ho.n (Nat.le_trans ho.c ho.cm) W ((ho.s.below hb0).more hb0.size) ho.len
  rw [← hM, ← hm] at hfew
  have HK := Lib.hid hk4
  have HFEW := Lib.hid hfew
  have HB0 := Lib.hid hb0
  have H := Lib.hid h
  have HT := Lib.hid hT
  have HR := Lib.hid hR
  have HAP := Lib.hid hap
  have HOWN := Lib.hid hown
  have HM80 := Lib.hid hM80
  have HM := Lib.hid hm
  obtain rfl : m = 0 := by rw [hm, hM]; exact hz0
  obtain ⟨z, l3, q1, q2⟩ := replace_both h rA L rc hL oa [] (by simp)
  rw [show ([] : List UInt8).toArray = #[] from rfl] at q1 q2
  simp only [rgp] at q2
  have Q1 := Lib.hid q1
  have Q2 := Lib.hid q2
  clear q1 q2 hz0
  clear h hT hR hap hown hM80 hm hM hk4 hfew hb0 hB4 hB5 hB6 ho hk hL
  simp only [rgp, OpG.cells] at hW HK ⊢
  obtain ⟨B4, B5, B6⟩ := HK.out _ (Chg.refl _ W)
  have a0 := B4.cell 0
  have a1 := B4.cell 1
  have a2 := B4.cell 2
  have o0 := B5.cell 0
  have o1 := B5.cell 1
  have o2 := B5.cell 2
  have o3 := B5.cell 3
  have z0 := B6.cell 0
  have y0 := B6.frozen 0
  have z1 := B6.cell 1
  have y1 := B6.frozen 1
  have z2 := B6.cell 2
  have y2 := B6.frozen 2
  have hz : w.heap.size + 1 + 1 < W.heap.size := B6.lt
  clear B4 B5 B6
  go_enter Tryz.func8, Tryz.ntmps8
  go_upto_region 1 with (fail)
  rw [← hW]
  clear hW
  go_wp2_with (fail)
  refine HFEW.out.mono ?_
  rintro e w1 ⟨A1, c1, rfl, ho1, hb1⟩
  have HO1 := Lib.hid ho1
  have HC1 := Lib.hid (Chg.of_below (S := GpOwn g A) hb1)
  have HB1 := Lib.hid (HB0.out.trans (hb1.mono HB0.out.size))
  have HX1 := Lib.hid hb1
  clear ho1 hb1
  clear a0 a1 a2 o0 o1 o2 o3 z0 z1 z2 y0 y1 y2 hz
  obtain ⟨B4, B5, B6⟩ := HK.out _ HC1.out
  have a0 := B4.cell 0
  have a1 := B4.cell 1
  have a2 := B4.cell 2
  have o0 := B5.cell 0
  have o1 := B5.cell 1
  have o2 := B5.cell 2
  have o3 := B5.cell 3
  have z0 := B6.cell 0
  have y0 := B6.frozen 0
  have z1 := B6.cell 1
  have y1 := B6.frozen 1
  have z2 := B6.cell 2
  have y2 := B6.frozen 2
  have hz : w.heap.size + 1 + 1 < w1.heap.size := B6.lt
  clear B4 B5 B6
  have HZ1 : Hid (w.heap.size + 1 + 1 < w1.heap.size) := Lib.hid hz
  go_wp2_with (fail)
  refine (Q1.out w1 HB1.out (HT.out w1 (Chg.of_below HB1.out))).mono ?_
  rintro e w2 ⟨rfl, hg2⟩
  obtain ⟨A9, n9, C9, t9, p9, s9, hps9, hgp9, hch9, hgr9⟩ := id hg2
  have HC2 := Lib.hid (HC1.out.trans hch9 (fun _ h => .inl h))
  have HG2 := Lib.hid hg2
  have HCH := Lib.hid hch9
  have HR2 := Lib.hid ((HR.out.below HB1.out).chg hch9 (fun k hk => (HAP.out k hk).1))
  clear hg2 hps9 hgp9 hch9 hgr9
  clear a0 a1 a2 o0 o1 o2 o3 z0 z1 z2 y0 y1 y2 hz
  obtain ⟨B4, B5, B6⟩ := HK.out _ HC2.out
  have a0 := B4.cell 0
  have a1 := B4.cell 1
  have a2 := B4.cell 2
  have o0 := B5.cell 0
  have o1 := B5.cell 1
  have o2 := B5.cell 2
  have o3 := B5.cell 3
  have z0 := B6.cell 0
  have y0 := B6.frozen 0
  have z1 := B6.cell 1
  have y1 := B6.frozen 1
  have z2 := B6.cell 2
  have y2 := B6.frozen 2
  have hz : w.heap.size + 1 + 1 < w2.heap.size := B6.lt
  clear B4 B5 B6
  go_wp2_with (fail)
  refine (Q2.out w2 HR2.out).mono ?_
  rintro e w3 ⟨N3, rA3, rc3, hN3, rfl, hrow3, hblk3, hb3⟩
  have HB3 := Lib.hid hb3
  have HROW := Lib.hid hrow3
  have HBLK := Lib.hid hblk3
  have HN3 := Lib.hid hN3
  have HC3 := Lib.hid (HC2.out.trans (Chg.of_below (S := noB) hb3) (fun _ h => h.elim))
  clear hb3 hrow3 hblk3 hN3
  clear a0 a1 a2 o0 o1 o2 o3 z0 z1 z2 y0 y1 y2 hz
  obtain ⟨B4, B5, B6⟩ := HK.out _ HC3.out
  have a0 := B4.cell 0
  have a1 := B4.cell 1
  have a2 := B4.cell 2
  have o0 := B5.cell 0
  have o1 := B5.cell 1
  have o2 := B5.cell 2
  have o3 := B5.cell 3
  have z0 := B6.cell 0
  have y0 := B6.frozen 0
  have z1 := B6.cell 1
  have y1 := B6.frozen 1
  have z2 := B6.cell 2
  have y2 := B6.frozen 2
  have hz : w.heap.size + 1 + 1 < w3.heap.size := B6.lt
  clear B4 B5 B6
  go_wp2_with (fail)
  refine bodyPost_ret (hresults_ct (ad := w.heap.size + 1 + 1) (cs := rgp rA3 N3 rc3 f most) rfl rfl rfl (Blk.hwhole (t := 29) ?_) Tryz.underlying29 rfl (by kernel_rfl)) rfl ?_
  · exact ((((HK.out _ HC3.out).2.2.set_ 0 _).set_ 1 _).set_ 2 _).alloc _
  · exact ⟨f, N3, rc3, rA3, rfl, StepG.close H.out HAP.out HB1.out (by omega) HZ1.out HG2.out HN3.out HROW.out HBLK.out HB3.out (((((Chg.refl (one (w.heap.size + 1 + 1)) w3).setCell (p := ⟨w.heap.size + 1 + 1, 0, none⟩) (.inl rfl) _).setCell (p := ⟨w.heap.size + 1 + 1, 1, none⟩) (.inl rfl) _).setCell (p := ⟨w.heap.size + 1 + 1, 2, none⟩) (.inl rfl) _).alloc _)⟩
set_option maxHeartbeats 16000000 in
theorem step_rep1 {w : World} {lo g n C most f t : Nat} {A : Option Addr} {p s : List (List UInt8)} (h : GpAt w lo g A n C most f t p s) (hT : ∀ V, Chg (GpOwn g A) w V → Tabs V) (rA : Option Addr) (L rc : Nat) (hR : RowG w rA L rc (p ++ s)) (hap : ∀ k, blk rA = some k → ¬ GpOwn g A k ∧ k < w.heap.size) (o : OpG) (ho : o.ok w) (hk : o.kd % 8 = 5) (hz0 : 0 < (fewL o.L).length) :
    Calls Tryz.prog 8 #[.pointer (some ⟨g, 0, none⟩), .agg (rgp rA L rc f most).toArray, .agg o.cells.toArray] w (StepP w lo g A rA most) := by
  obtain ⟨kd, oa, ob, oX, on, oc, oL⟩ := o
  have hL : L = ln p s := by rw [ln_eq]; exact hR.n
  have hd0 : 0 ≤ kd := ho.d0
  have hd1 : kd ≤ 255 := ho.d1
  simp only at hk
  have hq3 : (kd % 8 == 3) = false := by rw [hk]; rfl
  have hq4 : (kd % 8 == 4) = false := by rw [hk]; rfl
  have hq5 : (kd % 8 == 5) = true := by rw [hk]; rfl
  obtain ⟨M, hM⟩ : ∃ M, M = fewL oL := ⟨_, rfl⟩
  have hM80 : ∀ c ∈ M, c.length ≤ 4000000 := by rw [hM]; intro c hc; have := fewL_len oL c hc; omega
  obtain ⟨m, hm⟩ : ∃ m, m = M.length := ⟨_, rfl⟩
  have hm12 : m ≤ 12 := by rw [hm, hM, fewL_length]; omega
  obtain ⟨W, hW⟩ : ∃ W, W = ((w.alloc (.cells (rgp rA L rc f most).toArray 29)).alloc (.cells (OpG.cells ⟨kd, oa, ob, oX, on, oc, oL⟩).toArray 34)).alloc (.cells #[.slice none 0 0, .int .i64 0, .int .i64 0] 29) := ⟨_, rfl⟩
  have hb0 : Below w.heap.size w W := by rw [hW]; exact (((Below.refl _ w).alloc (Nat.le_refl _) _).alloc (by simp) _).alloc (by simp; omega) _
  have hB4 : Blk W w.heap.size 29 (rgp rA L rc f most) := by rw [hW]; exact ((Blk.new w 29 _).alloc _).alloc _
  have hB5 : Blk W (w.heap.size + 1) 34 (OpG.cells ⟨kd, oa, ob, oX, on, oc, oL⟩) := by
    have := (Blk.new (w.alloc (.cells (rgp rA L rc f most).toArray 29)) 34 (OpG.cells ⟨kd, oa, ob, oX, on, oc, oL⟩)).alloc (.cells #[.slice none 0 0, .int .i64 0, .int .i64 0] 29)
    rw [hW]; simpa using this
  have hB6 : Blk W (w.heap.size + 1 + 1) 29 [.slice none 0 0, .int .i64 0, .int .i64 0] := by
    have := Blk.new ((w.alloc (.cells (rgp rA L rc f most).toArray 29)).alloc (.cells (OpG.cells ⟨kd, oa, ob, oX, on, oc, oL⟩).toArray 34)) 29 [.slice none 0 0, .int .i64 0, .int .i64 0]
    rw [hW]; simpa using this
  have hown : ∀ k, GpOwn g A k → k < w.heap.size := fun k hk => (h.own_lt k hk).2
  have hk4 : ∀ V, Chg (GpOwn g A) W V → Blk V w.heap.size 29 (rgp rA L rc f most) ∧ Blk V (w.heap.size + 1) 34 (OpG.cells ⟨kd, oa, ob, oX, on, oc, oL⟩) ∧ Blk V (w.heap.size + 1 + 1) 29 [.slice none 0 0, .int .i64 0, .int .i64 0] := fun V hV =>
    ⟨hB4.chg hV (fun e => by have := hown _ e; omega), hB5.chg hV (fun e => by have := hown _ e; omega), hB6.chg hV (fun e => by have := hown _ e; omega)⟩
  have hfew := few_any oL oX on oc ho.n (Nat.le_trans ho.c ho.cm) W ((ho.s.below hb0).more hb0.size) ho.len
  rw [← hM, ← hm] at hfew
  have HK := Lib.hid hk4
  have HFEW := Lib.hid hfew
  have HB0 := Lib.hid hb0
  have H := Lib.hid h
  have HT := Lib.hid hT
  have HR := Lib.hid hR
  have HAP := Lib.hid hap
  have HOWN := Lib.hid hown
  have HM80 := Lib.hid hM80
  have HM := Lib.hid hm
  have hm0 : 0 < M.length := by rw [hM]; exact hz0
  obtain ⟨x, hx⟩ : ∃ x, x = M[0] := ⟨_, rfl⟩
  obtain ⟨z, l3, q1, q2⟩ := replace_both h rA L rc hL oa x (by rw [hx]; exact hM80 _ (List.getElem_mem hm0))
  simp only [rgp] at q2
  have Q1 := Lib.hid q1
  have Q2 := Lib.hid q2
  have HM0 := Lib.hid hm0
  have HX := Lib.hid hx
  have hmi : (m : Int) > 0 := by omega
  have hmj : (0 : Int) < (m : Int) := by omega
  clear q1 q2 hz0 hx
  clear h hT hR hap hown hM80 hm hM hk4 hfew hb0 hB4 hB5 hB6 ho hk hL
  simp only [rgp, OpG.cells] at hW HK ⊢
  obtain ⟨B4, B5, B6⟩ := HK.out _ (Chg.refl _ W)
  have a0 := B4.cell 0
  have a1 := B4.cell 1
  have a2 := B4.cell 2
  have o0 := B5.cell 0
  have o1 := B5.cell 1
  have o2 := B5.cell 2
  have o3 := B5.cell 3
  have z0 := B6.cell 0
  have y0 := B6.frozen 0
  have z1 := B6.cell 1
  have y1 := B6.frozen 1
  have z2 := B6.cell 2
  have y2 := B6.frozen 2
  have hz : w.heap.size + 1 + 1 < W.heap.size := B6.lt
  clear B4 B5 B6
  go_enter Tryz.func8, Tryz.ntmps8
  go_upto_region 1 with (fail)
  rw [← hW]
  clear hW
  go_wp2_with (fail)
  refine HFEW.out.mono ?_
  rintro e w1 ⟨A1, c1, rfl, ho1, hb1⟩
  have HO1 := Lib.hid ho1
  have HC1 := Lib.hid (Chg.of_below (S := GpOwn g A) hb1)
  have HB1 := Lib.hid (HB0.out.trans (hb1.mono HB0.out.size))
  have HX1 := Lib.hid hb1
  clear ho1 hb1
  clear a0 a1 a2 o0 o1 o2 o3 z0 z1 z2 y0 y1 y2 hz
  obtain ⟨B4, B5, B6⟩ := HK.out _ HC1.out
  have a0 := B4.cell 0
  have a1 := B4.cell 1
  have a2 := B4.cell 2
  have o0 := B5.cell 0
  have o1 := B5.cell 1
  have o2 := B5.cell 2
  have o3 := B5.cell 3
  have z0 := B6.cell 0
  have y0 := B6.frozen 0
  have z1 := B6.cell 1
  have y1 := B6.frozen 1
  have z2 := B6.cell 2
  have y2 := B6.frozen 2
  have hz : w.heap.size + 1 + 1 < w1.heap.size := B6.lt
  clear B4 B5 B6
  have HZ1 : Hid (w.heap.size + 1 + 1 < w1.heap.size) := Lib.hid hz
  obtain ⟨b8, off8, rfl, hbb8, hcell8⟩ := sv_at HO1.out.sl (k := 0) HM0.out
  rw [← HX.out, Nat.add_zero] at hcell8
  go_wp2_with (fail)
  refine (Q1.out w1 HB1.out (HT.out w1 (Chg.of_below HB1.out))).mono ?_
  rintro e w2 ⟨rfl, hg2⟩
  obtain ⟨A9, n9, C9, t9, p9, s9, hps9, hgp9, hch9, hgr9⟩ := id hg2
  have HC2 := Lib.hid (HC1.out.trans hch9 (fun _ h => .inl h))
  have HG2 := Lib.hid hg2
  have HCH := Lib.hid hch9
  have HR2 := Lib.hid ((HR.out.below HB1.out).chg hch9 (fun k hk => (HAP.out k hk).1))
  clear hg2 hps9 hgp9 hch9 hgr9
  clear a0 a1 a2 o0 o1 o2 o3 z0 z1 z2 y0 y1 y2 hz
  obtain ⟨B4, B5, B6⟩ := HK.out _ HC2.out
  have a0 := B4.cell 0
  have a1 := B4.cell 1
  have a2 := B4.cell 2
  have o0 := B5.cell 0
  have o1 := B5.cell 1
  have o2 := B5.cell 2
  have o3 := B5.cell 3
  have z0 := B6.cell 0
  have y0 := B6.frozen 0
  have z1 := B6.cell 1
  have y1 := B6.frozen 1
  have z2 := B6.cell 2
  have y2 := B6.frozen 2
  have hz : w.heap.size + 1 + 1 < w2.heap.size := B6.lt
  clear B4 B5 B6
  go_wp2_with (fail)
  refine (Q2.out w2 HR2.out).mono ?_
  rintro e w3 ⟨N3, rA3, rc3, hN3, rfl, hrow3, hblk3, hb3⟩
  have HB3 := Lib.hid hb3
  have HROW := Lib.hid hrow3
  have HBLK := Lib.hid hblk3
  have HN3 := Lib.hid hN3
  have HC3 := Lib.hid (HC2.out.trans (Chg.of_below (S := noB) hb3) (fun _ h => h.elim))
  clear hb3 hrow3 hblk3 hN3
  clear a0 a1 a2 o0 o1 o2 o3 z0 z1 z2 y0 y1 y2 hz
  obtain ⟨B4, B5, B6⟩ := HK.out _ HC3.out
  have a0 := B4.cell 0
  have a1 := B4.cell 1
  have a2 := B4.cell 2
  have o0 := B5.cell 0
  have o1 := B5.cell 1
  have o2 := B5.cell 2
  have o3 := B5.cell 3
  have z0 := B6.cell 0
  have y0 := B6.frozen 0
  have z1 := B6.cell 1
  have y1 := B6.frozen 1
  have z2 := B6.cell 2
  have y2 := B6.frozen 2
  have hz : w.heap.size + 1 + 1 < w3.heap.size := B6.lt
  clear B4 B5 B6
  go_wp2_with (fail)
  refine bodyPost_ret (hresults_ct (ad := w.heap.size + 1 + 1) (cs := rgp rA3 N3 rc3 f most) rfl rfl rfl (Blk.hwhole (t := 29) ?_) Tryz.underlying29 rfl (by kernel_rfl)) rfl ?_
  · exact ((((HK.out _ HC3.out).2.2.set_ 0 _).set_ 1 _).set_ 2 _).alloc _
  · exact ⟨f, N3, rc3, rA3, rfl, StepG.close H.out HAP.out HB1.out (by omega) HZ1.out HG2.out HN3.out HROW.out HBLK.out HB3.out (((((Chg.refl (one (w.heap.size + 1 + 1)) w3).setCell (p := ⟨w.heap.size + 1 + 1, 0, none⟩) (.inl rfl) _).setCell (p := ⟨w.heap.size + 1 + 1, 1, none⟩) (.inl rfl) _).setCell (p := ⟨w.heap.size + 1 + 1, 2, none⟩) (.inl rfl) _).alloc _)⟩
theorem find_prog {w : World} {lo g n C most f t : Nat} {A : Option Addr} {p s : List (List UInt8)} (h : GpAt w lo g A n C most f t p s) (l : List (List UInt8)) (X : Option Addr) (m d : Nat) (hm : m = l.length) (hm5 : m ≤ 1000000) (hX : Sl w w.heap.size X (sv l)) :
    Calls Tryz.prog 24 #[.pointer (some ⟨g, 0, none⟩), .slice X m d] w (FindP w (p ++ s) l f) := by
  by_cases h0 : l = []
  · subst h0
    have hm0 : m = 0 := hm
    subst hm0
    refine (find_empty (some ⟨g, 0, none⟩) d X).mono ?_
    rintro e w' ⟨rfl, hb⟩
    exact ⟨0, false, rfl, .inr ⟨rfl, rfl, .inl rfl⟩, hb⟩
  · exact find_any h l X m d hm h0 hm5 hX
set_option maxHeartbeats 16000000 in
theorem step_find {w : World} {lo g n C most f t : Nat} {A : Option Addr} {p s : List (List UInt8)} (h : GpAt w lo g A n C most f t p s) (hT : ∀ V, Chg (GpOwn g A) w V → Tabs V) (rA : Option Addr) (L rc : Nat) (hR : RowG w rA L rc (p ++ s)) (hap : ∀ k, blk rA = some k → ¬ GpOwn g A k ∧ k < w.heap.size) (o : OpG) (ho : o.ok w) (hk : o.kd % 8 = 6) :
    Calls Tryz.prog 8 #[.pointer (some ⟨g, 0, none⟩), .agg (rgp rA L rc f most).toArray, .agg o.cells.toArray] w (StepP w lo g A rA most) := by
  obtain ⟨kd, oa, ob, oX, on, oc, oL⟩ := o
  have hL : L = ln p s := by rw [ln_eq]; exact hR.n
  have hd0 : 0 ≤ kd := ho.d0
  have hd1 : kd ≤ 255 := ho.d1
  simp only at hk
  have hq3 : (kd % 8 == 3) = false := by rw [hk]; rfl
  have hq4 : (kd % 8 == 4) = false := by rw [hk]; rfl
  have hq5 : (kd % 8 == 5) = false := by rw [hk]; rfl
  have hq6 : (kd % 8 == 6) = true := by rw [hk]; rfl
  obtain ⟨M, hM⟩ : ∃ M, M = fewL oL := ⟨_, rfl⟩
  have hM80 : ∀ c ∈ M, c.length ≤ 4000000 := by rw [hM]; intro c hc; have := fewL_len oL c hc; omega
  obtain ⟨m, hm⟩ : ∃ m, m = M.length := ⟨_, rfl⟩
  have hm12 : m ≤ 12 := by rw [hm, hM, fewL_length]; omega
  obtain ⟨W, hW⟩ : ∃ W, W = ((w.alloc (.cells (rgp rA L rc f most).toArray 29)).alloc (.cells (OpG.cells ⟨kd, oa, ob, oX, on, oc, oL⟩).toArray 34)).alloc (.cells #[.slice none 0 0, .int .i64 0, .int .i64 0] 29) := ⟨_, rfl⟩
  have hb0 : Below w.heap.size w W := by rw [hW]; exact (((Below.refl _ w).alloc (Nat.le_refl _) _).alloc (by simp) _).alloc (by simp; omega) _
  have hB4 : Blk W w.heap.size 29 (rgp rA L rc f most) := by rw [hW]; exact ((Blk.new w 29 _).alloc _).alloc _
  have hB5 : Blk W (w.heap.size + 1) 34 (OpG.cells ⟨kd, oa, ob, oX, on, oc, oL⟩) := by
    have := (Blk.new (w.alloc (.cells (rgp rA L rc f most).toArray 29)) 34 (OpG.cells ⟨kd, oa, ob, oX, on, oc, oL⟩)).alloc (.cells #[.slice none 0 0, .int .i64 0, .int .i64 0] 29)
    rw [hW]; simpa using this
  have hB6 : Blk W (w.heap.size + 1 + 1) 29 [.slice none 0 0, .int .i64 0, .int .i64 0] := by
    have := Blk.new ((w.alloc (.cells (rgp rA L rc f most).toArray 29)).alloc (.cells (OpG.cells ⟨kd, oa, ob, oX, on, oc, oL⟩).toArray 34)) 29 [.slice none 0 0, .int .i64 0, .int .i64 0]
    rw [hW]; simpa using this
  have hown : ∀ k, GpOwn g A k → k < w.heap.size := fun k hk => (h.own_lt k hk).2
  have hk4 : ∀ V, Chg (GpOwn g A) W V → Blk V w.heap.size 29 (rgp rA L rc f most) ∧ Blk V (w.heap.size + 1) 34 (OpG.cells ⟨kd, oa, ob, oX, on, oc, oL⟩) ∧ Blk V (w.heap.size + 1 + 1) 29 [.slice none 0 0, .int .i64 0, .int .i64 0] := fun V hV =>
    ⟨hB4.chg hV (fun e => by have := hown _ e; omega), hB5.chg hV (fun e => by have := hown _ e; omega), hB6.chg hV (fun e => by have := hown _ e; omega)⟩
  have hfew := few_any oL oX on oc ho.n (Nat.le_trans ho.c ho.cm) W ((ho.s.below hb0).more hb0.size) ho.len
  rw [← hM, ← hm] at hfew
  have HK := Lib.hid hk4
  have HFEW := Lib.hid hfew
  have HB0 := Lib.hid hb0
  have H := Lib.hid h
  have HT := Lib.hid hT
  have HR := Lib.hid hR
  have HAP := Lib.hid hap
  have HOWN := Lib.hid hown
  have HM80 := Lib.hid hM80
  have HM := Lib.hid hm
  have hL4 : L ≤ 4096 := by have := h.ln_le; have := h.m4; omega
  have hfL : f ≤ L := by have := h.fp; rw [hL]; unfold ln; omega
  clear h hT hR hap hown hM80 hm hM hk4 hfew hb0 hB4 hB5 hB6 ho hk hL
  simp only [rgp, OpG.cells] at hW HK ⊢
  obtain ⟨B4, B5, B6⟩ := HK.out _ (Chg.refl _ W)
  have a0 := B4.cell 0
  have a1 := B4.cell 1
  have a2 := B4.cell 2
  have o0 := B5.cell 0
  have o1 := B5.cell 1
  have o2 := B5.cell 2
  have o3 := B5.cell 3
  have z0 := B6.cell 0
  have y0 := B6.frozen 0
  have z1 := B6.cell 1
  have y1 := B6.frozen 1
  have z2 := B6.cell 2
  have y2 := B6.frozen 2
  have hz : w.heap.size + 1 + 1 < W.heap.size := B6.lt
  clear B4 B5 B6
  go_enter Tryz.func8, Tryz.ntmps8
  go_upto_region 1 with (fail)
  rw [← hW]
  clear hW
  go_wp2_with (fail)
  refine HFEW.out.mono ?_
  rintro e w1 ⟨A1, c1, rfl, ho1, hb1⟩
  have HO1 := Lib.hid ho1
  have HC1 := Lib.hid (Chg.of_below (S := GpOwn g A) hb1)
  have HB1 := Lib.hid (HB0.out.trans (hb1.mono HB0.out.size))
  have HX1 := Lib.hid hb1
  clear ho1 hb1
  clear a0 a1 a2 o0 o1 o2 o3 z0 z1 z2 y0 y1 y2 hz
  obtain ⟨B4, B5, B6⟩ := HK.out _ HC1.out
  have a0 := B4.cell 0
  have a1 := B4.cell 1
  have a2 := B4.cell 2
  have o0 := B5.cell 0
  have o1 := B5.cell 1
  have o2 := B5.cell 2
  have o3 := B5.cell 3
  have z0 := B6.cell 0
  have y0 := B6.frozen 0
  have z1 := B6.cell 1
  have y1 := B6.frozen 1
  have z2 := B6.cell 2
  have y2 := B6.frozen 2
  have hz : w.heap.size + 1 + 1 < w1.heap.size := B6.lt
  clear B4 B5 B6
  have HZ1 : Hid (w.heap.size + 1 + 1 < w1.heap.size) := Lib.hid hz
  go_wp2_with (fail)
  refine (find_prog (H.out.below HB1.out) M A1 m c1 HM.out (by omega) HO1.out.sl).mono ?_
  rintro e w2 ⟨v2, b2, rfl, hf2, hb2⟩
  have HF2 := Lib.hid hf2
  have hg2 : GoG w1 lo g A most f (p ++ s) w2 := GoG.same (H.out.below HB1.out) hb2
  have HO2 := Lib.hid ((HO1.out.sl.below hb2).more hb2.size)
  clear hf2 hb2
  obtain ⟨A9, n9, C9, t9, p9, s9, hps9, hgp9, hch9, hgr9⟩ := id hg2
  have HC2 := Lib.hid (HC1.out.trans hch9 (fun _ h => .inl h))
  have HG2 := Lib.hid hg2
  have HCH := Lib.hid hch9
  have HR2 := Lib.hid ((HR.out.below HB1.out).chg hch9 (fun k hk => (HAP.out k hk).1))
  clear hg2 hps9 hgp9 hch9 hgr9
  clear a0 a1 a2 o0 o1 o2 o3 z0 z1 z2 y0 y1 y2 hz
  obtain ⟨B4, B5, B6⟩ := HK.out _ HC2.out
  have a0 := B4.cell 0
  have a1 := B4.cell 1
  have a2 := B4.cell 2
  have o0 := B5.cell 0
  have o1 := B5.cell 1
  have o2 := B5.cell 2
  have o3 := B5.cell 3
  have z0 := B6.cell 0
  have y0 := B6.frozen 0
  have z1 := B6.cell 1
  have y1 := B6.frozen 1
  have z2 := B6.cell 2
  have y2 := B6.frozen 2
  have hz : w.heap.size + 1 + 1 < w2.heap.size := B6.lt
  clear B4 B5 B6
  go_wp2_with (fail)
  have HQ2 := Lib.hid (rgfind_any (p ++ s) M rA A1 L rc f most m c1 HR2.out.n HR2.out.nc HM.out hL4 (by omega) hfL w2 HR2.out.s HO2.out)
  simp only [rgp] at HQ2
  refine HQ2.out.mono ?_
  rintro e w3 ⟨v3, b3, rfl, hf3, hb3⟩
  obtain ⟨rfl, rfl⟩ := HF2.out.one hf3
  have hrow3 := HR2.out.below hb3
  have hblk3 : ∀ k, blk rA = some k → blk rA = some k ∨ (w2.heap.size ≤ k ∧ k < w3.heap.size) := fun k hk => .inl hk
  have hN3 := HR.out.n
  clear hf3
  have HB3 := Lib.hid hb3
  have HROW := Lib.hid hrow3
  have HBLK := Lib.hid hblk3
  have HN3 := Lib.hid hN3
  have HC3 := Lib.hid (HC2.out.trans (Chg.of_below (S := noB) hb3) (fun _ h => h.elim))
  clear hb3 hrow3 hblk3 hN3
  clear a0 a1 a2 o0 o1 o2 o3 z0 z1 z2 y0 y1 y2 hz
  obtain ⟨B4, B5, B6⟩ := HK.out _ HC3.out
  have a0 := B4.cell 0
  have a1 := B4.cell 1
  have a2 := B4.cell 2
  have o0 := B5.cell 0
  have o1 := B5.cell 1
  have o2 := B5.cell 2
  have o3 := B5.cell 3
  have z0 := B6.cell 0
  have y0 := B6.frozen 0
  have z1 := B6.cell 1
  have y1 := B6.frozen 1
  have z2 := B6.cell 2
  have y2 := B6.frozen 2
  have hz : w.heap.size + 1 + 1 < w3.heap.size := B6.lt
  clear B4 B5 B6
  cases b2
  all_goals go_wp2_with (fail)
  all_goals
    refine bodyPost_ret (hresults_ct (ad := w.heap.size + 1 + 1) (cs := rgp rA L rc f most) rfl rfl rfl (Blk.hwhole (t := 29) ?_) Tryz.underlying29 rfl (by kernel_rfl)) rfl ?_
    · exact ((((HK.out _ HC3.out).2.2.set_ 0 _).set_ 1 _).set_ 2 _)
    · exact ⟨f, L, rc, rA, rfl, StepG.close H.out HAP.out HB1.out (by omega) HZ1.out HG2.out HN3.out HROW.out HBLK.out HB3.out (((((Chg.refl (one (w.heap.size + 1 + 1)) w3).setCell (p := ⟨w.heap.size + 1 + 1, 0, none⟩) (.inl rfl) _).setCell (p := ⟨w.heap.size + 1 + 1, 1, none⟩) (.inl rfl) _).setCell (p := ⟨w.heap.size + 1 + 1, 2, none⟩) (.inl rfl) _))⟩
set_option maxHeartbeats 16000000 in
theorem step_ins {w : World} {lo g n C most f t : Nat} {A : Option Addr} {p s : List (List UInt8)} (h : GpAt w lo g A n C most f t p s) (hT : ∀ V, Chg (GpOwn g A) w V → Tabs V) (rA : Option Addr) (L rc : Nat) (hR : RowG w rA L rc (p ++ s)) (hap : ∀ k, blk rA = some k → ¬ GpOwn g A k ∧ k < w.heap.size) (o : OpG) (ho : o.ok w) (hk : o.kd % 8 ≠ 3 ∧ o.kd % 8 ≠ 4 ∧ o.kd % 8 ≠ 5 ∧ o.kd % 8 ≠ 6) :
    Calls Tryz.prog 8 #[.pointer (some ⟨g, 0, none⟩), .agg (rgp rA L rc f most).toArray, .agg o.cells.toArray] w (StepP w lo g A rA most) := by
  obtain ⟨kd, oa, ob, oX, on, oc, oL⟩ := o
  have hL : L = ln p s := by rw [ln_eq]; exact hR.n
  have hd0 : 0 ≤ kd := ho.d0
  have hd1 : kd ≤ 255 := ho.d1
  simp only at hk
  have hq3 : (kd % 8 == 3) = false := by simp; omega
  have hq4 : (kd % 8 == 4) = false := by simp; omega
  have hq5 : (kd % 8 == 5) = false := by simp; omega
  have hq6 : (kd % 8 == 6) = false := by simp; omega
  obtain ⟨M, hM⟩ : ∃ M, M = fewL oL := ⟨_, rfl⟩
  have hM80 : ∀ c ∈ M, c.length ≤ 4000000 := by rw [hM]; intro c hc; have := fewL_len oL c hc; omega
  obtain ⟨m, hm⟩ : ∃ m, m = M.length := ⟨_, rfl⟩
  have hm12 : m ≤ 12 := by rw [hm, hM, fewL_length]; omega
  obtain ⟨W, hW⟩ : ∃ W, W = ((w.alloc (.cells (rgp rA L rc f most).toArray 29)).alloc (.cells (OpG.cells ⟨kd, oa, ob, oX, on, oc, oL⟩).toArray 34)).alloc (.cells #[.slice none 0 0, .int .i64 0, .int .i64 0] 29) := ⟨_, rfl⟩
  have hb0 : Below w.heap.size w W := by rw [hW]; exact (((Below.refl _ w).alloc (Nat.le_refl _) _).alloc (by simp) _).alloc (by simp; omega) _
  have hB4 : Blk W w.heap.size 29 (rgp rA L rc f most) := by rw [hW]; exact ((Blk.new w 29 _).alloc _).alloc _
  have hB5 : Blk W (w.heap.size + 1) 34 (OpG.cells ⟨kd, oa, ob, oX, on, oc, oL⟩) := by
    have := (Blk.new (w.alloc (.cells (rgp rA L rc f most).toArray 29)) 34 (OpG.cells ⟨kd, oa, ob, oX, on, oc, oL⟩)).alloc (.cells #[.slice none 0 0, .int .i64 0, .int .i64 0] 29)
    rw [hW]; simpa using this
  have hB6 : Blk W (w.heap.size + 1 + 1) 29 [.slice none 0 0, .int .i64 0, .int .i64 0] := by
    have := Blk.new ((w.alloc (.cells (rgp rA L rc f most).toArray 29)).alloc (.cells (OpG.cells ⟨kd, oa, ob, oX, on, oc, oL⟩).toArray 34)) 29 [.slice none 0 0, .int .i64 0, .int .i64 0]
    rw [hW]; simpa using this
  have hown : ∀ k, GpOwn g A k → k < w.heap.size := fun k hk => (h.own_lt k hk).2
  have hk4 : ∀ V, Chg (GpOwn g A) W V → Blk V w.heap.size 29 (rgp rA L rc f most) ∧ Blk V (w.heap.size + 1) 34 (OpG.cells ⟨kd, oa, ob, oX, on, oc, oL⟩) ∧ Blk V (w.heap.size + 1 + 1) 29 [.slice none 0 0, .int .i64 0, .int .i64 0] := fun V hV =>
    ⟨hB4.chg hV (fun e => by have := hown _ e; omega), hB5.chg hV (fun e => by have := hown _ e; omega), hB6.chg hV (fun e => by have := hown _ e; omega)⟩
  have hfew := few_any oL oX on oc ho.n (Nat.le_trans ho.c ho.cm) W ((ho.s.below hb0).more hb0.size) ho.len
  rw [← hM, ← hm] at hfew
  have HK := Lib.hid hk4
  have HFEW := Lib.hid hfew
  have HB0 := Lib.hid hb0
  have H := Lib.hid h
  have HT := Lib.hid hT
  have HR := Lib.hid hR
  have HAP := Lib.hid hap
  have HOWN := Lib.hid hown
  have HM80 := Lib.hid hM80
  have HM := Lib.hid hm
  obtain ⟨z, f3, l3, q1, q2⟩ := insert_both h rA L rc hL M m hm (by omega) hM80
  simp only [rgp] at q2
  have Q1 := Lib.hid q1
  have Q2 := Lib.hid q2
  clear q1 q2
  clear h hT hR hap hown hM80 hm hM hk4 hfew hb0 hB4 hB5 hB6 ho hk hL
  simp only [rgp, OpG.cells] at hW HK ⊢
  obtain ⟨B4, B5, B6⟩ := HK.out _ (Chg.refl _ W)
  have a0 := B4.cell 0
  have a1 := B4.cell 1
  have a2 := B4.cell 2
  have o0 := B5.cell 0
  have o1 := B5.cell 1
  have o2 := B5.cell 2
  have o3 := B5.cell 3
  have z0 := B6.cell 0
  have y0 := B6.frozen 0
  have z1 := B6.cell 1
  have y1 := B6.frozen 1
  have z2 := B6.cell 2
  have y2 := B6.frozen 2
  have hz : w.heap.size + 1 + 1 < W.heap.size := B6.lt
  clear B4 B5 B6
  go_enter Tryz.func8, Tryz.ntmps8
  go_upto_region 1 with (fail)
  rw [← hW]
  clear hW
  go_wp2_with (fail)
  refine HFEW.out.mono ?_
  rintro e w1 ⟨A1, c1, rfl, ho1, hb1⟩
  have HO1 := Lib.hid ho1
  have HC1 := Lib.hid (Chg.of_below (S := GpOwn g A) hb1)
  have HB1 := Lib.hid (HB0.out.trans (hb1.mono HB0.out.size))
  have HX1 := Lib.hid hb1
  clear ho1 hb1
  clear a0 a1 a2 o0 o1 o2 o3 z0 z1 z2 y0 y1 y2 hz
  obtain ⟨B4, B5, B6⟩ := HK.out _ HC1.out
  have a0 := B4.cell 0
  have a1 := B4.cell 1
  have a2 := B4.cell 2
  have o0 := B5.cell 0
  have o1 := B5.cell 1
  have o2 := B5.cell 2
  have o3 := B5.cell 3
  have z0 := B6.cell 0
  have y0 := B6.frozen 0
  have z1 := B6.cell 1
  have y1 := B6.frozen 1
  have z2 := B6.cell 2
  have y2 := B6.frozen 2
  have hz : w.heap.size + 1 + 1 < w1.heap.size := B6.lt
  clear B4 B5 B6
  have HZ1 : Hid (w.heap.size + 1 + 1 < w1.heap.size) := Lib.hid hz
  go_wp2_with (fail)
  refine (Q1.out w1 A1 c1 HB1.out (HT.out w1 (Chg.of_below HB1.out)) HO1.out.sl (fun b off e => by have h8 := (HO1.out.blk_lt b (by rw [e]; rfl)).1; have h9 := HOWN.out g (.inl rfl); have h7 := HB0.out.size; omega)).mono ?_
  rintro e w2 ⟨rfl, hg2⟩
  obtain ⟨A9, n9, C9, t9, p9, s9, hps9, hgp9, hch9, hgr9⟩ := id hg2
  have HC2 := Lib.hid (HC1.out.trans hch9 (fun _ h => .inl h))
  have HG2 := Lib.hid hg2
  have HCH := Lib.hid hch9
  have HR2 := Lib.hid ((HR.out.below HB1.out).chg hch9 (fun k hk => (HAP.out k hk).1))
  clear hg2 hps9 hgp9 hch9 hgr9
  clear a0 a1 a2 o0 o1 o2 o3 z0 z1 z2 y0 y1 y2 hz
  obtain ⟨B4, B5, B6⟩ := HK.out _ HC2.out
  have a0 := B4.cell 0
  have a1 := B4.cell 1
  have a2 := B4.cell 2
  have o0 := B5.cell 0
  have o1 := B5.cell 1
  have o2 := B5.cell 2
  have o3 := B5.cell 3
  have z0 := B6.cell 0
  have y0 := B6.frozen 0
  have z1 := B6.cell 1
  have y1 := B6.frozen 1
  have z2 := B6.cell 2
  have y2 := B6.frozen 2
  have hz : w.heap.size + 1 + 1 < w2.heap.size := B6.lt
  clear B4 B5 B6
  have HO2 : Hid (Sl w2 w2.heap.size A1 (sv M)) := Lib.hid ((HCH.out.sl HO1.out.sl (Nat.le_refl _) (fun b off e hk => by have h8 := (HO1.out.blk_lt b (by rw [e]; rfl)).1; have h9 := HOWN.out b hk; have h7 := HB0.out.size; omega)).more HCH.out.size)
  go_wp2_with (fail)
  refine (Q2.out w2 A1 c1 HR2.out HO2.out HO1.out.2).mono ?_
  rintro e w3 ⟨N3, rA3, rc3, hN3, rfl, hrow3, hblk3, hb3⟩
  have HB3 := Lib.hid hb3
  have HROW := Lib.hid hrow3
  have HBLK := Lib.hid hblk3
  have HN3 := Lib.hid hN3
  have HC3 := Lib.hid (HC2.out.trans (Chg.of_below (S := noB) hb3) (fun _ h => h.elim))
  clear hb3 hrow3 hblk3 hN3
  clear a0 a1 a2 o0 o1 o2 o3 z0 z1 z2 y0 y1 y2 hz
  obtain ⟨B4, B5, B6⟩ := HK.out _ HC3.out
  have a0 := B4.cell 0
  have a1 := B4.cell 1
  have a2 := B4.cell 2
  have o0 := B5.cell 0
  have o1 := B5.cell 1
  have o2 := B5.cell 2
  have o3 := B5.cell 3
  have z0 := B6.cell 0
  have y0 := B6.frozen 0
  have z1 := B6.cell 1
  have y1 := B6.frozen 1
  have z2 := B6.cell 2
  have y2 := B6.frozen 2
  have hz : w.heap.size + 1 + 1 < w3.heap.size := B6.lt
  clear B4 B5 B6
  go_wp2_with (fail)
  refine bodyPost_ret (hresults_ct (ad := w.heap.size + 1 + 1) (cs := rgp rA3 N3 rc3 f3 most) rfl rfl rfl (Blk.hwhole (t := 29) ?_) Tryz.underlying29 rfl (by kernel_rfl)) rfl ?_
  · exact ((((HK.out _ HC3.out).2.2.set_ 0 _).set_ 1 _).set_ 2 _).alloc _
  · exact ⟨f3, N3, rc3, rA3, rfl, StepG.close H.out HAP.out HB1.out (by omega) HZ1.out HG2.out HN3.out HROW.out HBLK.out HB3.out (((((Chg.refl (one (w.heap.size + 1 + 1)) w3).setCell (p := ⟨w.heap.size + 1 + 1, 0, none⟩) (.inl rfl) _).setCell (p := ⟨w.heap.size + 1 + 1, 1, none⟩) (.inl rfl) _).setCell (p := ⟨w.heap.size + 1 + 1, 2, none⟩) (.inl rfl) _).alloc _)⟩
set_option maxHeartbeats 16000000 in
theorem step_del {w : World} {lo g n C most f t : Nat} {A : Option Addr} {p s : List (List UInt8)} (h : GpAt w lo g A n C most f t p s) (hT : ∀ V, Chg (GpOwn g A) w V → Tabs V) (rA : Option Addr) (L rc : Nat) (hR : RowG w rA L rc (p ++ s)) (hap : ∀ k, blk rA = some k → ¬ GpOwn g A k ∧ k < w.heap.size) (o : OpG) (ho : o.ok w) (hk : o.kd % 8 = 4) :
    Calls Tryz.prog 8 #[.pointer (some ⟨g, 0, none⟩), .agg (rgp rA L rc f most).toArray, .agg o.cells.toArray] w (StepP w lo g A rA most) := by
  obtain ⟨kd, oa, ob, oX, on, oc, oL⟩ := o
  have hL : L = ln p s := by rw [ln_eq]; exact hR.n
  have hd0 : 0 ≤ kd := ho.d0
  have hd1 : kd ≤ 255 := ho.d1
  simp only at hk
  have hq3 : (kd % 8 == 3) = false := by rw [hk]; rfl
  have hq4 : (kd % 8 == 4) = true := by rw [hk]; rfl
  obtain ⟨M, hM⟩ : ∃ M, M = fewL oL := ⟨_, rfl⟩
  have hM80 : ∀ c ∈ M, c.length ≤ 4000000 := by rw [hM]; intro c hc; have := fewL_len oL c hc; omega
  obtain ⟨m, hm⟩ : ∃ m, m = M.length := ⟨_, rfl⟩
  have hm12 : m ≤ 12 := by rw [hm, hM, fewL_length]; omega
  obtain ⟨W, hW⟩ : ∃ W, W = ((w.alloc (.cells (rgp rA L rc f most).toArray 29)).alloc (.cells (OpG.cells ⟨kd, oa, ob, oX, on, oc, oL⟩).toArray 34)).alloc (.cells #[.slice none 0 0, .int .i64 0, .int .i64 0] 29) := ⟨_, rfl⟩
  have hb0 : Below w.heap.size w W := by rw [hW]; exact (((Below.refl _ w).alloc (Nat.le_refl _) _).alloc (by simp) _).alloc (by simp; omega) _
  have hB4 : Blk W w.heap.size 29 (rgp rA L rc f most) := by rw [hW]; exact ((Blk.new w 29 _).alloc _).alloc _
  have hB5 : Blk W (w.heap.size + 1) 34 (OpG.cells ⟨kd, oa, ob, oX, on, oc, oL⟩) := by
    have := (Blk.new (w.alloc (.cells (rgp rA L rc f most).toArray 29)) 34 (OpG.cells ⟨kd, oa, ob, oX, on, oc, oL⟩)).alloc (.cells #[.slice none 0 0, .int .i64 0, .int .i64 0] 29)
    rw [hW]; simpa using this
  have hB6 : Blk W (w.heap.size + 1 + 1) 29 [.slice none 0 0, .int .i64 0, .int .i64 0] := by
    have := Blk.new ((w.alloc (.cells (rgp rA L rc f most).toArray 29)).alloc (.cells (OpG.cells ⟨kd, oa, ob, oX, on, oc, oL⟩).toArray 34)) 29 [.slice none 0 0, .int .i64 0, .int .i64 0]
    rw [hW]; simpa using this
  have hown : ∀ k, GpOwn g A k → k < w.heap.size := fun k hk => (h.own_lt k hk).2
  have hk4 : ∀ V, Chg (GpOwn g A) W V → Blk V w.heap.size 29 (rgp rA L rc f most) ∧ Blk V (w.heap.size + 1) 34 (OpG.cells ⟨kd, oa, ob, oX, on, oc, oL⟩) ∧ Blk V (w.heap.size + 1 + 1) 29 [.slice none 0 0, .int .i64 0, .int .i64 0] := fun V hV =>
    ⟨hB4.chg hV (fun e => by have := hown _ e; omega), hB5.chg hV (fun e => by have := hown _ e; omega), hB6.chg hV (fun e => by have := hown _ e; omega)⟩
  have hfew := few_any oL oX on oc ho.n (Nat.le_trans ho.c ho.cm) W ((ho.s.below hb0).more hb0.size) ho.len
  rw [← hM, ← hm] at hfew
  have HK := Lib.hid hk4
  have HFEW := Lib.hid hfew
  have HB0 := Lib.hid hb0
  have H := Lib.hid h
  have HT := Lib.hid hT
  have HR := Lib.hid hR
  have HAP := Lib.hid hap
  have HOWN := Lib.hid hown
  have HM80 := Lib.hid hM80
  have HM := Lib.hid hm
  obtain ⟨f3, K, l3, gone, hKl, hK4, q1, q2⟩ := delete_both h rA L rc hL oa ob
  simp only [rgp] at q2
  have Q1 := Lib.hid q1
  have Q2 := Lib.hid q2
  have HKL := Lib.hid hKl
  clear q1 q2 hKl
  clear h hT hR hap hown hM80 hm hM hk4 hfew hb0 hB4 hB5 hB6 ho hk hL
  simp only [rgp, OpG.cells] at hW HK ⊢
  obtain ⟨B4, B5, B6⟩ := HK.out _ (Chg.refl _ W)
  have a0 := B4.cell 0
  have a1 := B4.cell 1
  have a2 := B4.cell 2
  have o0 := B5.cell 0
  have o1 := B5.cell 1
  have o2 := B5.cell 2
  have o3 := B5.cell 3
  have z0 := B6.cell 0
  have y0 := B6.frozen 0
  have z1 := B6.cell 1
  have y1 := B6.frozen 1
  have z2 := B6.cell 2
  have y2 := B6.frozen 2
  have hz : w.heap.size + 1 + 1 < W.heap.size := B6.lt
  clear B4 B5 B6
  go_enter Tryz.func8, Tryz.ntmps8
  go_upto_region 1 with (fail)
  rw [← hW]
  clear hW
  go_wp2_with (fail)
  refine HFEW.out.mono ?_
  rintro e w1 ⟨A1, c1, rfl, ho1, hb1⟩
  have HO1 := Lib.hid ho1
  have HC1 := Lib.hid (Chg.of_below (S := GpOwn g A) hb1)
  have HB1 := Lib.hid (HB0.out.trans (hb1.mono HB0.out.size))
  have HX1 := Lib.hid hb1
  clear ho1 hb1
  clear a0 a1 a2 o0 o1 o2 o3 z0 z1 z2 y0 y1 y2 hz
  obtain ⟨B4, B5, B6⟩ := HK.out _ HC1.out
  have a0 := B4.cell 0
  have a1 := B4.cell 1
  have a2 := B4.cell 2
  have o0 := B5.cell 0
  have o1 := B5.cell 1
  have o2 := B5.cell 2
  have o3 := B5.cell 3
  have z0 := B6.cell 0
  have y0 := B6.frozen 0
  have z1 := B6.cell 1
  have y1 := B6.frozen 1
  have z2 := B6.cell 2
  have y2 := B6.frozen 2
  have hz : w.heap.size + 1 + 1 < w1.heap.size := B6.lt
  clear B4 B5 B6
  have HZ1 : Hid (w.heap.size + 1 + 1 < w1.heap.size) := Lib.hid hz
  go_wp2_with (fail)
  refine (Q1.out w1 HB1.out).mono ?_
  rintro e w2 ⟨B1, d1, rfl, hs1, hbk1, hg2⟩
  have HS1 := Lib.hid hs1
  clear hs1 hbk1
  obtain ⟨A9, n9, C9, t9, p9, s9, hps9, hgp9, hch9, hgr9⟩ := id hg2
  have HC2 := Lib.hid (HC1.out.trans hch9 (fun _ h => .inl h))
  have HG2 := Lib.hid hg2
  have HCH := Lib.hid hch9
  have HR2 := Lib.hid ((HR.out.below HB1.out).chg hch9 (fun k hk => (HAP.out k hk).1))
  clear hg2 hps9 hgp9 hch9 hgr9
  clear a0 a1 a2 o0 o1 o2 o3 z0 z1 z2 y0 y1 y2 hz
  obtain ⟨B4, B5, B6⟩ := HK.out _ HC2.out
  have a0 := B4.cell 0
  have a1 := B4.cell 1
  have a2 := B4.cell 2
  have o0 := B5.cell 0
  have o1 := B5.cell 1
  have o2 := B5.cell 2
  have o3 := B5.cell 3
  have z0 := B6.cell 0
  have y0 := B6.frozen 0
  have z1 := B6.cell 1
  have y1 := B6.frozen 1
  have z2 := B6.cell 2
  have y2 := B6.frozen 2
  have hz : w.heap.size + 1 + 1 < w2.heap.size := B6.lt
  clear B4 B5 B6
  go_wp2_with (fail)
  refine (Q2.out w2 HR2.out).mono ?_
  rintro e w3 ⟨B2, d2, hs2, N3, rA3, rc3, hN3, rfl, hrow3, hblk3, hb3⟩
  have HS2 := Lib.hid hs2
  have HS3 := Lib.hid ((HS1.out.below hb3).more hb3.size)
  clear hs2
  have HB3 := Lib.hid hb3
  have HROW := Lib.hid hrow3
  have HBLK := Lib.hid hblk3
  have HN3 := Lib.hid hN3
  have HC3 := Lib.hid (HC2.out.trans (Chg.of_below (S := noB) hb3) (fun _ h => h.elim))
  clear hb3 hrow3 hblk3 hN3
  clear a0 a1 a2 o0 o1 o2 o3 z0 z1 z2 y0 y1 y2 hz
  obtain ⟨B4, B5, B6⟩ := HK.out _ HC3.out
  have a0 := B4.cell 0
  have a1 := B4.cell 1
  have a2 := B4.cell 2
  have o0 := B5.cell 0
  have o1 := B5.cell 1
  have o2 := B5.cell 2
  have o3 := B5.cell 3
  have z0 := B6.cell 0
  have y0 := B6.frozen 0
  have z1 := B6.cell 1
  have y1 := B6.frozen 1
  have z2 := B6.cell 2
  have y2 := B6.frozen 2
  have hz : w.heap.size + 1 + 1 < w3.heap.size := B6.lt
  clear B4 B5 B6
  go_wp2_with (fail)
  obtain ⟨W5, hW5⟩ : ∃ W5, W5 = w3.alloc (.cells #[.slice rA3 N3 rc3, .int .i64 f3, .int .i64 most] 29) := ⟨_, rfl⟩
  have hb5 : Below w3.heap.size w3 W5 := by rw [hW5]; exact (Below.refl _ _).alloc (Nat.le_refl _) _
  have hB7 : Blk W5 w3.heap.size 29 [.slice rA3 N3 rc3, .int .i64 f3, .int .i64 most] := by rw [hW5]; exact Blk.new w3 _ _
  have x0 := cell_regrown (hB7.cell 0)
  have x1 := cell_regrown (hB7.cell 1)
  have x2 := cell_regrown (hB7.cell 2)
  have HB5 := Lib.hid hb5
  have P1 : Hid (∀ d os, Calls Tryz.prog 21 #[.slice B1 K d1, .slice B2 K d2] (grow (redrawn W5 d) os) _) := Lib.hid (fun d os => Calls.regrown_of (sameall_any gone K K B1 B2 d1 d2 (grow (redrawn W5 d) os) (by have := HKL.out; omega) HKL.out HKL.out (((HS3.out.below hb5).below ((below_regrown W5 d os).mono hb5.size)).more (Nat.le_trans hb5.size (below_regrown W5 d os).size)) (((HS2.out.below hb5).below ((below_regrown W5 d os).mono hb5.size)).more (Nat.le_trans hb5.size (below_regrown W5 d os).size))))
  rw [← hW5]
  clear hW5 hb5 hB7
  clear a0 a1 a2 o0 o1 o2 o3 z0 z1 z2 y0 y1 y2 hz
  refine wp_region_below_tail 4 (by kernel_rfl) (by kernel_rfl) ?_
  simp only [List.take_succ_cons, List.take_zero, List.drop_succ_cons, List.drop_zero]
  repeat (first
    | go_big_quiet_step (exact P1.out _ _)
    | quiet_step (exact P1.out _ _))
  refine wpQuiet_nil ?_
  intro _ hw'
  obtain ⟨⟨dq, osq⟩, hw''⟩ := hw'
  subst hw''
  have HB6 := Lib.hid (HB5.out.trans ((below_regrown W5 dq osq).mono HB5.out.size))
  have HC6 := Lib.hid (HC3.out.trans (Chg.of_below (S := noB) HB6.out) (fun _ h => h.elim))
  have HROW6 := Lib.hid (HROW.out.below HB6.out)
  have HBLK6 : Hid (∀ k, blk rA3 = some k → blk rA = some k ∨ (w2.heap.size ≤ k ∧ k < (grow (redrawn W5 dq) osq).heap.size)) := Lib.hid (fun k hk => (HBLK.out k hk).imp id (fun h => ⟨h.1, Nat.lt_of_lt_of_le h.2 HB6.out.size⟩))
  have HB36 := Lib.hid (HB3.out.trans (HB6.out.mono HB3.out.size))
  clear P1 x0 x1 x2
  generalize grow (redrawn W5 dq) osq = W6 at *
  obtain ⟨B4, B5, B6⟩ := HK.out _ HC6.out
  have a0 := B4.cell 0
  have a1 := B4.cell 1
  have a2 := B4.cell 2
  have o0 := B5.cell 0
  have o1 := B5.cell 1
  have o2 := B5.cell 2
  have o3 := B5.cell 3
  have z0 := B6.cell 0
  have y0 := B6.frozen 0
  have z1 := B6.cell 1
  have y1 := B6.frozen 1
  have z2 := B6.cell 2
  have y2 := B6.frozen 2
  have hz : w.heap.size + 1 + 1 < W6.heap.size := B6.lt
  clear B4 B5 B6
  go_wp2_with (fail)
  refine bodyPost_ret (hresults_ct (ad := w.heap.size + 1 + 1) (cs := rgp rA3 N3 rc3 f3 most) rfl rfl rfl (Blk.hwhole (t := 29) ?_) Tryz.underlying29 rfl (by kernel_rfl)) rfl ?_
  · exact ((((HK.out _ HC6.out).2.2.set_ 0 _).set_ 1 _).set_ 2 _)
  · exact ⟨f3, N3, rc3, rA3, rfl, StepG.close H.out HAP.out HB1.out (by omega) HZ1.out HG2.out HN3.out HROW6.out HBLK6.out HB36.out (((((Chg.refl (one (w.heap.size + 1 + 1)) W6).setCell (p := ⟨w.heap.size + 1 + 1, 0, none⟩) (.inl rfl) _).setCell (p := ⟨w.heap.size + 1 + 1, 1, none⟩) (.inl rfl) _).setCell (p := ⟨w.heap.size + 1 + 1, 2, none⟩) (.inl rfl) _))⟩
end Go.Proofs.YtjdfajgjejpfeaaGreatDoor

namespace Go.Proofs.YtjdfajgjejpfeaaGreatDoor
open Go.RowKit Go.Sort
set_option linter.unusedVariables false
set_option linter.unusedSimpArgs false
set_option maxRecDepth 100000

theorem GpAt.low {w : World} {lo lo' g n C most f t : Nat} {A : Option Addr} {p s : List (List UInt8)} (h : GpAt w lo g A n C most f t p s) (hl : lo' ≤ lo) : GpAt w lo' g A n C most f t p s :=
  ⟨h.head, h.fp, h.ft, h.tn, h.nC, h.all.imp id (fun ⟨ab, tl, e, h1, h2, hb, h3⟩ => ⟨ab, tl, e, h1, h2, hb, Nat.le_trans hl h3⟩), h.le, h.m1, h.m4, Nat.le_trans hl h.lo, h.is⟩
theorem OpG.ok.below {w w' : World} {o : OpG} (h : o.ok w) (hb : Below w.heap.size w w') : o.ok w' :=
  ⟨h.d0, h.d1, h.r0, h.r1, h.c0, h.c1, h.n, h.c, h.cm, h.nil, (h.s.below hb).more hb.size, h.len⟩
theorem step_any {w : World} {lo g n C most f t : Nat} {A : Option Addr} {p s : List (List UInt8)} (h : GpAt w lo g A n C most f t p s) (hT : ∀ V, Chg (GpOwn g A) w V → Tabs V) (rA : Option Addr) (L rc : Nat) (hR : RowG w rA L rc (p ++ s)) (hap : ∀ k, blk rA = some k → ¬ GpOwn g A k ∧ k < w.heap.size) (o : OpG) (ho : o.ok w) :
    Calls Tryz.prog 8 #[.pointer (some ⟨g, 0, none⟩), .agg (rgp rA L rc f most).toArray, .agg o.cells.toArray] w (StepP w lo g A rA most) := by
  by_cases h3 : o.kd % 8 = 3
  · exact step_move h hT rA L rc hR hap o ho h3
  by_cases h4 : o.kd % 8 = 4
  · exact step_del h hT rA L rc hR hap o ho h4
  by_cases h5 : o.kd % 8 = 5
  · rcases Nat.eq_zero_or_pos (fewL o.L).length with h0 | h0
    · exact step_rep0 h hT rA L rc hR hap o ho h5 h0
    · exact step_rep1 h hT rA L rc hR hap o ho h5 h0
  by_cases h6 : o.kd % 8 = 6
  · exact step_find h hT rA L rc hR hap o ho h6
  exact step_ins h hT rA L rc hR hap o ho ⟨h3, h4, h5, h6⟩
/-- both buffers between two rounds -/
structure GRun (w : World) (rb most : Nat) (g : Nat) (A : Option Addr) (L rc : Nat) (rA : Option Addr) (f : Nat) (p s : List (List UInt8)) (X : World) : Prop where
  gp : ∃ n C t, GpAt X w.heap.size g A n C most f t p s
  row : RowG X rA L rc (p ++ s)
  ap : ∀ k, blk rA = some k → ¬ GpOwn g A k ∧ k < X.heap.size
  bx : Blk X rb 29 [.slice rA L rc, .int .i64 f, .int .i64 most]
  nb : ¬ GpOwn g A rb
  nr : blk rA ≠ some rb
  wr : w.heap.size ≤ rb
  bel : Below w.heap.size w X
theorem GRun.below {w X Y : World} {rb most g L rc f : Nat} {A rA : Option Addr} {p s : List (List UInt8)} (h : GRun w rb most g A L rc rA f p s X) (hb : Below X.heap.size X Y) : GRun w rb most g A L rc rA f p s Y := by
  obtain ⟨n, C, t, hg⟩ := h.gp
  exact ⟨⟨n, C, t, hg.below hb⟩, h.row.below hb, fun k hk => ⟨(h.ap k hk).1, Nat.lt_of_lt_of_le (h.ap k hk).2 hb.size⟩, h.bx.below hb h.bx.lt, h.nb, h.nr, h.wr, h.bel.trans (hb.mono h.bel.size)⟩
theorem GRun.stepped {w X X5 F : World} {rb most g L rc f f' N rc' : Nat} {A rA rA' : Option Addr} {p s : List (List UInt8)} (h : GRun w rb most g A L rc rA f p s X) (hst : StepG X w.heap.size g A rA most f' N rc' rA' X5) (hF : Chg (one rb) X5 F) (hbx : Blk F rb 29 [.slice rA' N rc', .int .i64 f', .int .i64 most]) :
    ∃ A' p' s', GRun w rb most g A' N rc' rA' f' p' s' F := by
  obtain ⟨l', A', n', C', t', p', s', rfl, hN, hg, hch, hgr, hrow, hap, hra⟩ := hst
  have hrbX := h.bx.lt
  have h5 := hch.size
  have h6 := hF.size
  have hnb : ¬ GpOwn g A' rb := fun hk => by
    rcases hk with hk | hk
    · exact h.nb (.inl hk)
    · rcases hgr rb hk with h7 | h7
      · exact h.nb (.inr h7)
      · omega
  have hnr : ∀ k, blk rA' = some k → k ≠ rb := fun k hk e => by
    subst e
    rcases hra k hk with h7 | h7
    · exact h.nr h7
    · omega
  refine ⟨A', p', s', ⟨n', C', t', hg.keep hF (fun k hk e => hnb (by rw [← show k = rb from e]; exact hk))⟩, hrow.chg hF (fun k hk e => hnr k hk e), fun k hk => ⟨(hap k hk).1, Nat.lt_of_lt_of_le (hap k hk).2 h6⟩, hbx, hnb, fun e => hnr rb e rfl, h.wr, ?_⟩
  obtain ⟨n, C, t, hg0⟩ := h.gp
  exact h.bel.trans ((hch.below h.bel.size (fun k hk => (hg0.own_lt k hk).1)).trans (hF.below (Nat.le_trans h.bel.size h5) (fun k e => by rw [show k = rb from e]; exact h.wr)))
theorem GRun.forked {w X Y : World} {rb most g g' n C' f t L rc : Nat} {A A' rA : Option Addr} {p s : List (List UInt8)} (h : GRun w rb most g A L rc rA f p s X) (hg : GpAt Y X.heap.size g' A' n C' most f t p s) (hch : Chg (GpOwn g A) X Y) : GRun w rb most g' A' L rc rA f p s Y := by
  obtain ⟨n0, C0, t0, hg0⟩ := h.gp
  have hrb := h.bx.lt
  refine ⟨⟨n, C', t, hg.low h.bel.size⟩, h.row.chg hch (fun k hk => (h.ap k hk).1), fun k hk => ⟨fun h7 => ?_, Nat.lt_of_lt_of_le (h.ap k hk).2 hch.size⟩, h.bx.chg hch h.nb, fun h7 => ?_, h.nr, h.wr, h.bel.trans (hch.below h.bel.size (fun k hk => (hg0.own_lt k hk).1))⟩
  · have h8 := (hg.own_lt k h7).1
    have h9 := (h.ap k hk).2
    omega
  · have h8 := (hg.own_lt rb h7).1
    omega
def GRel (w : World) (rb most nn : Nat) (v9 v13 : Value) (X : World) : Prop :=
  ∃ (k g : Nat) (A : Option Addr) (L rc : Nat) (rA : Option Addr) (f : Nat) (p s : List (List UInt8)), v9 = .pointer (some ⟨g, 0, none⟩) ∧ v13 = .int .i64 k ∧ k ≤ nn ∧ k ≤ 60 ∧ GRun w rb most g A L rc rA f p s X

set_option maxHeartbeats 16000000 in
theorem gapRuns_ok (most : Nat) (h1 : 1 ≤ most) (h2 : most ≤ 4096) (l : List OpG) (nn c : Nat) (AA : Option Addr) (hn : nn = l.length) (hm : nn ≤ maxLen) (at_ : Int) (st : Nat) (hst : st ≤ 255) (w : World) (hok : ∀ o ∈ l, o.ok w) (hS : Sl w w.heap.size AA (ogc l)) (hT : Tabs w) :
    Calls Tryz.prog 3 #[.int .i64 most, .slice AA nn c, .int .i64 at_, .int .u8 st] w fun e w' => e = .returned (.bool true) ∧ Below w.heap.size w w' := by
  unfold maxLen at hm
  have HT := Lib.hid hT
  have HOK := Lib.hid hok
  have HS := Lib.hid hS
  have HN := Lib.hid hn
  have hq1 := fun V => rgnew_ok most h1 h2 V
  simp only [rgp] at hq1
  have HQ1 := Lib.hid hq1
  clear hT hok hS hn hq1
  go_enter Tryz.func3, Tryz.ntmps3
  go_wp2_with (fail)
  refine (gnew_ok most h1 h2 w).mono ?_
  rintro e w1 ⟨g, rfl, hg, hb1⟩
  have HG1 := Lib.hid hg
  have HB1 := Lib.hid hb1
  clear hg hb1
  go_wp2_with (fail)
  refine (HQ1.out _).mono ?_
  rintro e w2 ⟨rfl, hb2⟩
  obtain ⟨W3, hW3⟩ : ∃ W3, W3 = w2.alloc (.cells #[.slice none 0 0, .int .i64 0, .int .i64 most] 29) := ⟨_, rfl⟩
  have hb23 : Below w2.heap.size w2 W3 := by rw [hW3]; exact (Below.refl _ _).alloc (Nat.le_refl _) _
  have hbx : Blk W3 w2.heap.size 29 [.slice none 0 0, .int .i64 0, .int .i64 most] := by rw [hW3]; exact Blk.new w2 _ _
  have hg3 := (HG1.out.below hb2).below hb23
  have hb13 : Below w.heap.size w W3 := HB1.out.trans ((hb2.trans (hb23.mono hb2.size)).mono HB1.out.size)
  have hlt2 : ∀ k, GpOwn g none k → k < w2.heap.size := fun k hk => Nat.lt_of_lt_of_le (HG1.out.own_lt k hk).2 hb2.size
  have hR0 : GRun w w2.heap.size most g none 0 0 none 0 [] [] W3 :=
    ⟨⟨0, 0, 0, hg3⟩, ⟨rfl, .inl rfl, Nat.le_refl _, fun _ => rfl⟩, fun k hk => by simp [blk] at hk, hbx, fun hk => Nat.lt_irrefl _ (hlt2 _ hk), (by simp [blk]), Nat.le_trans HB1.out.size hb2.size, hb13⟩
  have HR0 := Lib.hid hR0
  obtain ⟨rb, hrb⟩ : ∃ rb, rb = w2.heap.size := ⟨_, rfl⟩
  rw [← hrb] at HR0
  clear hb2 hb23 hbx hg3 hb13 hlt2 hR0
  go_wp2_with (fail)
  rw [← hrb, ← hW3]
  clear hrb hW3
  refine (gawake_any _ (HT.out.below HR0.out.bel)).mono ?_
  rintro e w4 ⟨rfl, hb4⟩
  have HR4 := Lib.hid (HR0.out.below hb4)
  clear hb4
  go_wp2_with (fail)
  go_loopw [9, 13] (fun v9 v13 wr => GRel w rb most nn v9 v13 wr) (fun _ v _ => (60 - intOf v).toNat)
  case atStart => exact ⟨0, g, none, 0, 0, none, 0, [], [], rfl, rfl, Nat.zero_le _, Nat.zero_le _, HR4.out⟩
  case round =>
    obtain ⟨k, g, A, L, rc, rA, f, p, s, rfl, rfl, hkn, hk60, hr⟩ := hrel
    have HR := Lib.hid hr
    clear hr
    by_cases hg : k < nn ∧ k < 60
    · obtain ⟨hg1, hg2⟩ := hg
      have hgi1 : (k : Int) < nn := by omega
      have hgi2 : (k : Int) < 60 := by omega
      have hkl : k < l.length := by have := HN.out; omega
      obtain ⟨o, hx⟩ : ∃ o, l[k]? = some o := ⟨l[k], List.getElem?_eq_getElem hkl⟩
      have hoo := HOK.out o (List.mem_of_getElem? hx)
      obtain ⟨ab, off, rfl, hab, hcell⟩ := HS.out.open_ (by rw [ogc_length]; omega)
      have hcl : ∀ j v, o.cells[j]? = some v → wr.cell? ⟨ab, off + k * 4 + j, none⟩ = some v := fun j v hv => by
        rw [Nat.add_assoc]
        exact (HR.out.bel.cell (p := ⟨ab, off + (k * 4 + j), none⟩) hab).trans (hcell _ v (ogc_get hx hv))
      have HCL := Lib.hid hcl
      have HOO := Lib.hid hoo
      have hd0 := hoo.d0
      have hd1 := hoo.d1
      clear hx hoo hcell hcl
      obtain ⟨kd, oa, ob, oX, on, oc, oL⟩ := o
      simp only at hd0 hd1
      have e0 : wr.cell? ⟨ab, off + k * 4, none⟩ = some (.int .u8 kd) := HCL.out 0 _ rfl
      have e1 : wr.cell? ⟨ab, off + k * 4 + 1, none⟩ = some (.int .i64 oa) := HCL.out 1 _ rfl
      have e2 : wr.cell? ⟨ab, off + k * 4 + 2, none⟩ = some (.int .i64 ob) := HCL.out 2 _ rfl
      have e3 : wr.cell? ⟨ab, off + k * 4 + 3, none⟩ = some (.slice oX on oc) := HCL.out 3 _ rfl
      have SHOW : ∀ (g' : Nat) (A' : Option Addr) (L' rc' : Nat) (rA' : Option Addr) (f' : Nat) (p' s' : List (List UInt8)) (V : World), GRun w rb most g' A' L' rc' rA' f' p' s' V → Calls Tryz.prog 9 #[.pointer (some ⟨g', 0, none⟩), .agg #[.slice rA' L' rc', .int .i64 f', .int .i64 most], .int .i64 at_, .int .i64 st] V fun e w' => e = .returned (.bool true) ∧ Below V.heap.size V w' := fun g' A' L' rc' rA' f' p' s' V hV => by
        obtain ⟨n9, C9, t9, hg9⟩ := hV.gp
        exact shows_any hg9 (HT.out.below hV.bel) rA' L' rc' hV.row at_ st hst
      have HSHOW := Lib.hid SHOW
      clear SHOW
      by_cases h7 : kd % 8 = 7
      · have hq : (kd % 8 == 7) = true := by rw [h7]; rfl
        obtain ⟨n0, C0, t0, hg0⟩ := HR.out.gp
        have HF := Lib.hid (forked_any hg0)
        clear hg0
        go_wp2_with (fail)
        refine HF.out.mono ?_
        rintro e w5 ⟨g5, A5, C5, rfl, hg5, hc5⟩
        have HR5 := Lib.hid (HR.out.forked hg5 hc5)
        have k0 := HR5.out.bx.cell 0
        have k1 := HR5.out.bx.cell 1
        have k2 := HR5.out.bx.cell 2
        clear hg5 hc5
        go_wp2_with (fail)
        refine (HSHOW.out _ _ _ _ _ _ _ _ _ HR5.out).mono ?_
        rintro e w6 ⟨rfl, hb6⟩
        go_wp2_with (fail)
        go_roundw
        case rel => exact ⟨k + 1, g5, A5, L, rc, rA, f, p, s, rfl, by go_num, by omega, by omega, HR5.out.below hb6⟩
        case measure => simp [intOf]; omega
      · have hq : (kd % 8 == 7) = false := by simp; omega
        have HRD := Lib.hid (HR.out.below ((Below.refl _ wr).drew))
        have hstep : Calls Tryz.prog 8 #[.pointer (some ⟨g, 0, none⟩), .agg #[.slice rA L rc, .int .i64 f, .int .i64 most], .agg #[.int .u8 kd, .int .i64 oa, .int .i64 ob, .slice oX on oc]] wr.drew fun e w' => ∃ (f' N rc' : Nat) (rA' : Option Addr), e = .returned (.tuple #[.agg #[.slice rA' N rc', .int .i64 f', .int .i64 most], .bool true]) ∧ StepG wr.drew w.heap.size g A rA most f' N rc' rA' w' := by
          obtain ⟨n0, C0, t0, hg0⟩ := HRD.out.gp
          exact step_any hg0 (fun V hV => HT.out.below (HRD.out.bel.trans (hV.below HRD.out.bel.size (fun k hk => (hg0.own_lt k hk).1)))) rA L rc HRD.out.row HRD.out.ap ⟨kd, oa, ob, oX, on, oc, oL⟩ (HOO.out.below HRD.out.bel)
        have HSTEP := Lib.hid hstep
        have k0 := HR.out.bx.cell 0
        have k1 := HR.out.bx.cell 1
        have k2 := HR.out.bx.cell 2
        clear hstep
        go_wp2_with (fail)
        go_region_law (refine step_call rfl 8 _ _ rfl (enters_of Tryz.func8 (by kernel_rfl) rfl) #[.pointer (some ⟨g, 0, none⟩), .agg #[.slice rA L rc, .int .i64 f, .int .i64 most], .agg #[.int .u8 kd, .int .i64 oa, .int .i64 ob, .slice oX on oc]] (by simp [Act.eval, Act.put]) HSTEP.out ?_; rintro e w5 ⟨f6, N6, rc6, rA6, rfl, hst⟩; refine ⟨_, rfl, ?_⟩
                       have HST := Lib.hid hst
                       have hb5 : Blk w5 rb 29 [.slice rA L rc, .int .i64 f, .int .i64 most] := by
                         obtain ⟨l', A', n', C', t', p', s', _, _, _, hch, _⟩ := hst
                         exact HRD.out.bx.chg hch HRD.out.nb
                       have HB5 := Lib.hid hb5
                       have m0 := hb5.cell 0
                       have m1 := hb5.cell 1
                       have m2 := hb5.cell 2
                       have y0 := hb5.frozen 0
                       have y1 := hb5.frozen 1
                       have y2 := hb5.frozen 2
                       clear hst hb5)
        all_goals
          obtain ⟨A6, p6, s6, hr6⟩ := HRD.out.stepped HST.out (F := ((w5.setCell ⟨rb, 0, none⟩ (.slice rA6 N6 rc6)).setCell ⟨rb, 1, none⟩ (.int .i64 f6)).setCell ⟨rb, 2, none⟩ (.int .i64 most))
            ((((Chg.refl (one rb) w5).setCell (p := ⟨rb, 0, none⟩) (.inl rfl) _).setCell (p := ⟨rb, 1, none⟩) (.inl rfl) _).setCell (p := ⟨rb, 2, none⟩) (.inl rfl) _)
            (((HB5.out.set_ 0 _).set_ 1 _).set_ 2 _)
          have HR6 := Lib.hid hr6
          have s0 := hr6.bx.cell 0
          have s1 := hr6.bx.cell 1
          have s2 := hr6.bx.cell 2
          clear hr6
          go_wp2_with (fail)
          refine (HSHOW.out _ _ _ _ _ _ _ _ _ HR6.out).mono ?_
          rintro e w6 ⟨rfl, hb6⟩
          go_wp2_with (fail)
          go_roundw
          case rel => exact ⟨k + 1, g, A6, N6, rc6, rA6, f6, p6, s6, rfl, by go_num, by omega, by omega, HR6.out.below hb6⟩
          case measure => simp [intOf]; omega
    · have HBL := Lib.hid HR.out.bel
      by_cases hg1 : k < nn
      · have hgi1 : (k : Int) < nn := by omega
        have hgi2 : ¬ (k : Int) < 60 := by omega
        clear hg
        go_wp2_with (fail)
        go_ret
        exact ⟨rfl, HBL.out⟩
      · have hgi1 : ¬ (k : Int) < nn := by omega
        clear hg
        go_wp2_with (fail)
        go_ret
        exact ⟨rfl, HBL.out⟩
set_option maxHeartbeats 4000000 in
theorem gapRuns_no (most : Int) (h : most < 1 ∨ 4096 < most) (nn c : Nat) (AA : Option Addr) (hm : nn ≤ maxLen) (at_ : Int) (st : Int) (w : World) (hT : Tabs w) :
    Calls Tryz.prog 3 #[.int .i64 most, .slice AA nn c, .int .i64 at_, .int .u8 st] w fun e w' => e = .returned (.bool true) ∧ Below w.heap.size w w' := by
  unfold maxLen at hm
  have HT := Lib.hid hT
  have HQ0 := Lib.hid (gnew_no most h w)
  have hq1 := rgnew_no most h w
  simp only [rgp] at hq1
  have HQ1 := Lib.hid hq1
  clear hT hq1 h
  go_enter Tryz.func3, Tryz.ntmps3
  go_wp2_with (fail)
  refine HQ0.out.mono ?_
  rintro e w1 ⟨rfl, rfl⟩
  go_wp2_with (fail)
  refine HQ1.out.mono ?_
  rintro e w2 ⟨rfl, hb2⟩
  have HB2 := Lib.hid (hb2.alloc hb2.size (.cells #[.slice none 0 0, .int .i64 0, .int .i64 0] 29))
  clear hb2
  go_wp2_with (fail)
  refine (gawake_any _ (HT.out.below HB2.out)).mono ?_
  rintro e w4 ⟨rfl, hb4⟩
  have HB4 := Lib.hid (HB2.out.trans (hb4.mono HB2.out.size))
  clear hb4
  by_cases h0 : 0 < nn
  · have h0i : (0 : Int) < nn := by omega
    go_wp2_with (fail)
    go_loopw [9, 13] (fun v9 v wr => v9 = .pointer none ∧ v = .int .i64 0 ∧ Below w.heap.size w wr) (fun _ _ _ => 0)
    case atStart => exact ⟨rfl, rfl, HB4.out⟩
    case round =>
      obtain ⟨rfl, rfl, hbr⟩ := hrel
      have HBR := Lib.hid hbr
      clear hbr
      go_wp2_with (fail)
      go_ret
      exact ⟨rfl, HBR.out⟩
  · have h0i : ¬ (0 : Int) < nn := by omega
    go_wp2_with (fail)
    go_loopw [9, 13] (fun v9 v wr => v9 = .pointer none ∧ v = .int .i64 0 ∧ Below w.heap.size w wr) (fun _ _ _ => 0)
    case atStart => exact ⟨rfl, rfl, HB4.out⟩
    case round =>
      obtain ⟨rfl, rfl, hbr⟩ := hrel
      have HBR := Lib.hid hbr
      clear hbr
      go_wp2_with (fail)
      go_ret
      exact ⟨rfl, HBR.out⟩
theorem gapRuns_walk (most : Int) (l : List OpG) (nn c : Nat) (AA : Option Addr) (hn : nn = l.length) (hm : nn ≤ maxLen) (at_ : Int) (st : Int) (h0 : 0 ≤ st) (h1 : st ≤ 255) (w : World) (hok : ∀ o ∈ l, o.ok w) (hS : Sl w w.heap.size AA (ogc l)) (hT : Tabs w) :
    Calls Tryz.prog 3 #[.int .i64 most, .slice AA nn c, .int .i64 at_, .int .u8 st] w fun e w' => e = .returned (.bool true) ∧ Below w.heap.size w w' := by
  by_cases h : most < 1 ∨ 4096 < most
  · exact gapRuns_no most h nn c AA hm at_ st w hT
  · obtain ⟨m, rfl⟩ := Int.eq_ofNat_of_zero_le (show 0 ≤ most by omega)
    obtain ⟨t, rfl⟩ := Int.eq_ofNat_of_zero_le h0
    exact gapRuns_ok m (by omega) (by omega) l nn c AA hn hm at_ t (by omega) w hok hS hT
end Go.Proofs.YtjdfajgjejpfeaaGreatDoor

