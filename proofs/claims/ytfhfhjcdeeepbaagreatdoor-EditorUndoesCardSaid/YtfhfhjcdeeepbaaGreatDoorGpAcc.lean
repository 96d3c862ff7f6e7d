/-
  Walks: Cursor, Len, Room, At, Replace, Move of a buffer.
-/
import Derived.Test.YtfhfhjcdeeepbaaGreatDoorGpFill2
namespace Go.Proofs.YtfhfhjcdeeepbaaGreatDoor
open Go.RowKit Go.Sort
set_option linter.unusedVariables false
set_option linter.unusedSimpArgs false

theorem fill_any {w : World} {lo g n C most f t : Nat} {A : Option Addr} {p s : List (List UInt8)} (h : GpAt w lo g A n C most f t p s) (l : List (List UInt8)) (X : Option Addr) (m d : Nat) (hm : m = l.length) (hX : Sl w w.heap.size X (sv l)) (hXg : ∀ b off, X = some ⟨b, off, none⟩ → b ≠ g) (hc : ∀ c ∈ l, isC c = true) (hmost : ln p s + m ≤ most) :
    Calls Tryz.prog 93 #[.pointer (some ⟨g, 2, none⟩), .slice X m d, .int .i64 most] w (FillP w lo g A most (p ++ l) s) := by
  by_cases hr : m ≤ t - f
  · exact fill_room h l X m d hm hX hc hr
  · exact fill_wide h l X m d hm hX hXg hc (by omega) hmost

set_option maxHeartbeats 1000000 in
theorem gcursor_any {w : World} {lo g n C most f t : Nat} {A : Option Addr} {p s : List (List UInt8)} (h : GpAt w lo g A n C most f t p s) :
    Calls Tryz.prog 26 #[.pointer (some ⟨g, 0, none⟩)] w fun e w' => e = .returned (.int .i64 f) ∧ Below w.heap.size w w' := by
  have H := Lib.hid h
  have h0 := h.c0
  clear h
  go_enter Tryz.func26, Tryz.ntmps26
  go_wp2_with (first
    | (go_at_call 40; refine (gmade_yes g w h0).mono ?_; rintro e w' ⟨rfl, rfl⟩)
    | (go_at_call 41; refine (ahead_any H.out).mono ?_; rintro e w1 ⟨rfl, hb1⟩))
  go_ret
  exact ⟨rfl, hb1⟩
set_option maxHeartbeats 1000000 in
theorem glen_any {w : World} {lo g n C most f t : Nat} {A : Option Addr} {p s : List (List UInt8)} (h : GpAt w lo g A n C most f t p s) :
    Calls Tryz.prog 32 #[.pointer (some ⟨g, 0, none⟩)] w fun e w' => e = .returned (.int .i64 (ln p s : Nat)) ∧ Below w.heap.size w w' := by
  have H := Lib.hid h
  have h0 := h.c0
  clear h
  go_enter Tryz.func32, Tryz.ntmps32
  go_wp2_with (first
    | (go_at_call 40; refine (gmade_yes g w h0).mono ?_; rintro e w' ⟨rfl, rfl⟩)
    | (go_at_call 61; refine (gcount_any H.out).mono ?_; rintro e w1 ⟨rfl, hb1⟩))
  go_ret
  exact ⟨rfl, hb1⟩
theorem GpAt.ln_le {w : World} {lo g n C most f t : Nat} {A : Option Addr} {p s : List (List UInt8)} (h : GpAt w lo g A n C most f t p s) : ln p s ≤ most := by
  have := h.lnf; have := h.tn; have := h.ft; have := h.le; omega
set_option maxHeartbeats 1000000 in
theorem groom_any {w : World} {lo g n C most f t : Nat} {A : Option Addr} {p s : List (List UInt8)} (h : GpAt w lo g A n C most f t p s) :
    Calls Tryz.prog 68 #[.pointer (some ⟨g, 0, none⟩)] w fun e w' => e = .returned (.int .i64 (most - ln p s : Nat)) ∧ Below w.heap.size w w' := by
  have H := Lib.hid h
  have h0 := h.c0
  have h1 := h.c1
  have hl := h.ln_le
  have hm4 := h.m4
  have e1 : IntKind.i64.wrap ((most : Int) - ((ln p s : Nat) : Int)) = (most : Int) - ((ln p s : Nat) : Int) := IntWalk.i64_in _ (by omega)
  have Q1 := Lib.hid (fun d os => Calls.regrown_of (gcount_any (h.below (below_regrown w d os))))
  have k1 := cell_regrown h1
  have HL := Lib.hid hl
  clear h hl
  go_enter Tryz.func68, Tryz.ntmps68
  go_wp2_with (go_at_call 40; refine (gmade_yes g w h0).mono ?_; rintro e w' ⟨rfl, rfl⟩)
  refine region_below0 (by kernel_rfl) (by kernel_rfl) ?_
  repeat (first
    | go_big_quiet_step (exact Q1.out _ _)
    | quiet_step (exact Q1.out _ _))
  refine wpQuiet_nil ?_
  intro _ hw'
  obtain ⟨⟨dq, osq⟩, hw''⟩ := hw'
  subst hw''
  go_wp2
  go_ret
  exact ⟨ret_int (by have := HL.out; omega), below_regrown _ _ _⟩

/-- the slot's cell -/
theorem GpAt.slot_cell {w : World} {lo g n C most f t : Nat} {A : Option Addr} {p s : List (List UInt8)} (h : GpAt w lo g A n C most f t p s) {a : Nat} {c : List UInt8} (ha : (p ++ s)[a]? = some c) :
    ∃ ab, A = some ⟨ab, 0, none⟩ ∧ w.cell? ⟨ab, slotN a f t, none⟩ = some (.string ⟨c.toArray⟩) ∧ slotN a f t < n := by
  have hl : a < p.length + s.length := by have := (List.getElem?_eq_some_iff.1 ha).1; simpa using this
  have hfp := h.fp
  have htn := h.tn
  have hft := h.ft
  rcases h.all with ⟨_, hC⟩ | ⟨ab, tl, rfl, _, hC, hb, _⟩
  · have := h.nC; omega
  · refine ⟨ab, rfl, ?_, ?_⟩
    · rw [hb.cell]
      unfold slotN
      by_cases hf : a < f
      · rw [if_pos hf, gc_pre _ _ _ _ _ (by rw [sv_length]; omega)]
        rw [List.getElem?_append_left (by omega)] at ha
        simp [sv, ha]
      · rw [if_neg hf, show a + (t - f) = t + (a - f) by omega, gc_suf _ _ _ _ _ (by rw [sv_length]; omega) (by rw [sv_length]; omega)]
        rw [List.getElem?_append_right (by omega), hfp] at ha
        simp [sv, ha]
    · unfold slotN; split <;> omega

set_option maxRecDepth 100000 in
set_option maxHeartbeats 2000000 in
theorem gat_yes {w : World} {lo g n C most f t : Nat} {A : Option Addr} {p s : List (List UInt8)} (h : GpAt w lo g A n C most f t p s) (a : Nat) (c : List UInt8) (ha : (p ++ s)[a]? = some c) :
    Calls Tryz.prog 89 #[.pointer (some ⟨g, 0, none⟩), .int .i64 a] w fun e w' => e = .returned (.tuple #[.string ⟨c.toArray⟩, .bool true]) ∧ Below w.heap.size w w' := by
  have hl : a < ln p s := by have := (List.getElem?_eq_some_iff.1 ha).1; unfold ln; simpa using this
  obtain ⟨ab, rfl, hcell, hsn⟩ := h.slot_cell ha
  have h0 := h.c0
  have hhas : hasB a (ln p s) = true := by rw [hasB_at]; simpa using hl
  have HH := Lib.hid hhas
  have H := Lib.hid h
  have HCE := Lib.hid hcell
  have hle := h.le
  have hm4 := h.m4
  have HL := Lib.hid hl
  obtain ⟨sn, hsn'⟩ : ∃ sn, sn = slotN a f t := ⟨_, rfl⟩
  rw [← hsn'] at hsn HCE
  have HSN := Lib.hid hsn'
  have hsni : (sn : Int) < n := by omega
  clear h hl hcell hhas ha hsn'
  go_enter Tryz.func89, Tryz.ntmps89
  go_wp2_with (first
    | (go_at_call 40; refine (gmade_yes g w h0).mono ?_; rintro e w' ⟨rfl, rfl⟩)
    | (go_at_call 115; refine (ghas_any H.out a).mono ?_; rintro e w1 ⟨rfl, hb1⟩; rw [HH.out]))
  have H1 := Lib.hid (H.out.below hb1)
  have k2 := cell_regrown H1.out.c2
  have kc := cell_regrown ((hb1.cell (p := ⟨ab, sn, none⟩) (World.block_lt_of_cell? w _ HCE.out)).trans HCE.out)
  have Q1 : Hid (∀ d os, Calls Tryz.prog 116 #[.pointer (some ⟨g, 2, none⟩), .int .i64 a] (grow (redrawn w1 d) os) _) := Lib.hid (fun d os => Calls.regrown_of (by have := gslot_any (H1.out.below (below_regrown w1 d os)) a HL.out; rw [← HSN.out] at this; exact this))
  refine region_below0 (by kernel_rfl) (by kernel_rfl) ?_
  repeat (first
    | go_big_quiet_step (exact Q1.out _ _)
    | quiet_step (exact Q1.out _ _))
  refine wpQuiet_nil ?_
  intro _ hw'
  obtain ⟨⟨dq, osq⟩, hw''⟩ := hw'
  subst hw''
  go_wp2
  go_ret2
  exact ⟨rfl, hb1.trans ((below_regrown _ _ _).mono hb1.size)⟩

set_option maxHeartbeats 1000000 in
theorem gat_no {w : World} {lo g n C most f t : Nat} {A : Option Addr} {p s : List (List UInt8)} (h : GpAt w lo g A n C most f t p s) (a : Int) (ha : hasB a (ln p s) = false) :
    Calls Tryz.prog 89 #[.pointer (some ⟨g, 0, none⟩), .int .i64 a] w fun e w' => e = .returned (.tuple #[.string ⟨#[]⟩, .bool false]) ∧ Below w.heap.size w w' := by
  have h0 := h.c0
  have HH := Lib.hid ha
  have H := Lib.hid h
  clear h ha
  go_enter Tryz.func89, Tryz.ntmps89
  go_wp2_with (first
    | (go_at_call 40; refine (gmade_yes g w h0).mono ?_; rintro e w' ⟨rfl, rfl⟩)
    | (go_at_call 115; refine (ghas_any H.out a).mono ?_; rintro e w1 ⟨rfl, hb1⟩; rw [HH.out]))
  go_ret2
  exact ⟨rfl, hb1⟩

set_option maxRecDepth 100000 in
set_option maxHeartbeats 2000000 in
theorem gmove_any {w : World} {lo g n C most f t : Nat} {A : Option Addr} {p s : List (List UInt8)} (h : GpAt w lo g A n C most f t p s) (a : Int) :
    Calls Tryz.prog 74 #[.pointer (some ⟨g, 0, none⟩), .int .i64 a] w fun e w' => e = .returned (.int .i64 (clampN a (ln p s) : Nat)) ∧
      (∃ f' t', GpAt w' lo g A n C most f' t' ((p ++ s).take (clampN a (ln p s))) ((p ++ s).drop (clampN a (ln p s)))) ∧ Chg (GpOwn g A) w w' := by
  have h0 := h.c0
  have H := Lib.hid h
  have hcl := clampN_le a (ln p s)
  have Q1 := Lib.hid (fun d os => Calls.regrown_of (gclamp_any (h.below (below_regrown w d os)) a))
  generalize clampN a (ln p s) = m at *
  clear h
  go_enter Tryz.func74, Tryz.ntmps74
  go_wp2_with (go_at_call 40; refine (gmade_yes g w h0).mono ?_; rintro e w' ⟨rfl, rfl⟩)
  refine wp_region_below_tail 6 (by kernel_rfl) (by kernel_rfl) ?_
  simp only [List.take_succ_cons, List.take_zero, List.drop_succ_cons, List.drop_zero]
  repeat (first
    | go_big_quiet_step (exact Q1.out _ _)
    | quiet_step (exact Q1.out _ _))
  refine wpQuiet_nil ?_
  intro _ hw'
  obtain ⟨⟨dq, osq⟩, hw''⟩ := hw'
  subst hw''
  have HBQ := Lib.hid (below_regrown w dq osq)
  have H1 := Lib.hid (H.out.below HBQ.out)
  clear Q1
  generalize grow (redrawn w dq) osq = w1 at *
  go_wp2_with (first
    | (go_at_call 100; refine (open_any H1.out m hcl).mono ?_; rintro e w2 ⟨rfl, hg2, hc2⟩; have H2 := Lib.hid hg2; have HC2 := Lib.hid hc2; clear hg2 hc2)
    | (go_at_call 26; refine (gcursor_any H2.out).mono ?_; rintro e w3 ⟨rfl, hb3⟩))
  go_ret
  exact ⟨rfl, ⟨_, _, H2.out.below hb3⟩, ((Chg.of_below (S := GpOwn g A) HBQ.out).trans HC2.out (fun _ h => .inl h)).trans (Chg.of_below (S := GpOwn g A) hb3) (fun _ h => .inl h)⟩
end Go.Proofs.YtfhfhjcdeeepbaaGreatDoor
