/-
  Walks: what an editor that nobody made does: Set.
  Walks: what an editor that nobody made does and tells.
  Plain mathematics: a text made flat is at most three times as long.
  Walk: EditorNobody.
-/
import Derived.Test.YtfhfhjcdeeepbaaGreatDoorEdNob5
import Derived.Test.YtfhfhjcdeeepbaaGreatDoorGfF
namespace Go.Proofs.YtfhfhjcdeeepbaaGreatDoor
open Go.RowKit Go.Shelf Go.Sort
set_option linter.unusedVariables false
set_option linter.unusedSimpArgs false
set_option maxRecDepth 100000

set_option maxHeartbeats 4000000 in
theorem stsetN {w : World} {b : Nat} (h : StN w b) (hT : TL b w) (x : ByteArray) (hx : x.size ≤ 4000000) (hfl : (flatB x.data.toList).length ≤ 4000000) :
    Calls Tryz.prog 28 #[.pointer (some ⟨b, 0, none⟩), .string x] w (FalC b w) := by
  have hb0 : Below w.heap.size w (w.alloc (.cells #[.pointer (some ⟨b, 0, none⟩)] 61)) := (Below.refl _ w).alloc (Nat.le_refl _) _
  have y0 := Boxed.new w 61 (.pointer (some ⟨b, 0, none⟩))
  have hq := fun (W : World) (hW : Tabs W) => ccut_any ⟨(flatB x.data.toList).toArray⟩ (by rw [size_of]; exact hfl) W hW
  rw [show (⟨(flatB x.data.toList).toArray⟩ : ByteArray).data.toList = flatB x.data.toList from rfl] at hq
  generalize hk : (cls (rs (flatB x.data.toList))).length = m at hq
  have HQ := Lib.hid hq
  have HQ0 := Lib.hid (begin_none (h.bel hb0))
  have HB0 := Lib.hid hb0
  have HY0 := Lib.hid y0
  have HLT := Lib.hid h.lt
  have HT0 := Lib.hid (hT.below hb0)
  clear hT hb0 y0 hq hfl hk h
  by_cases hm : 0 < m
  case' pos =>
    have hmi : (0 : Int) < m := by omega
    have hmi2 : ¬ ((m : Int) ≤ 0) := by omega
    have hmi3 : ¬ ((m : Int) < 0) := by omega
    have hmin : min (m : Int) 0 = 0 := by omega
    clear hm
  case' neg =>
    obtain rfl : m = 0 := by omega
    clear hm
  all_goals go_enter Tryz.func28, Tryz.ntmps28
  all_goals go_wp2_with (first
    | (go_at_call 42; refine HQ0.out.mono ?_; rintro e w1 ⟨rfl, h1, hc1⟩
       have hn : ∀ k, w.heap.size ≤ k → ¬ one b k := fun k hk e => by have h9 : k = b := e; have := HLT.out; omega
       have z0 : Boxed w1 w.heap.size 61 (.pointer (some ⟨b, 0, none⟩)) := hc1.heap HY0.out (hn _ (Nat.le_refl _))
       have HZ0 := Lib.hid z0
       have H1 := Lib.hid h1
       have HC1 := Lib.hid ((Chg.of_below HB0.out).trans hc1 (S' := one b) (fun k hk => .inl hk))
       have HT1 := Lib.hid (HT0.out.chg hc1 (fun k e => Nat.le_of_eq (show k = b from e).symm))
       clear hn z0 h1 hc1)
    | (go_at_call 47; refine (cflat_any x hx _ HT1.out.tb).mono ?_; rintro e w2 ⟨rfl, hb2⟩; have HB2 := Lib.hid hb2; clear hb2)
    | (go_at_call 46; refine (HQ.out _ (HT1.out.tb.below HB2.out)).mono ?_; rintro e w3 ⟨A3, c3, rfl, ho3, hb3⟩; have HB3 := Lib.hid (HB2.out.trans (hb3.mono HB2.out.size)); clear hb3 ho3))
  · obtain ⟨W, hW⟩ : ∃ W, W = w3.alloc (.cells #[.slice A3 0 c3] 38) := ⟨_, rfl⟩
    have hbW : Below w1.heap.size w1 W := by rw [hW]; exact HB3.out.alloc HB3.out.size _
    have hxW : Boxed W w3.heap.size 38 (.slice A3 0 c3) := by rw [hW]; exact Boxed.new w3 _ _
    have q2 := cell_regrown (box_bel HZ0.out hbW).cell
    have qb := cell_regrown (H1.out.bel hbW).c0
    have q5 := cell_regrown hxW.cell
    have Q1 := Lib.hid (fun d os => Calls.regrown_of (lmost_none (grow (redrawn W d) os)))
    have HBW := Lib.hid hbW
    have HXW := Lib.hid hxW
    rw [← hW]
    clear hW hbW hxW
    refine wp_region_below_tail 10 (by kernel_rfl) (by kernel_rfl) ?_
    simp only [List.take_succ_cons, List.take_zero, List.drop_succ_cons, List.drop_zero]
    repeat (first
      | go_big_quiet_step (exact Q1.out _ _)
      | quiet_step (exact Q1.out _ _))
    refine wpQuiet_nil ?_
    intro _ hw'
    obtain ⟨⟨dq, osq⟩, hw''⟩ := hw'
    subst hw''
    have hbq := below_regrown W dq osq
    have HBQ := Lib.hid (HBW.out.trans (hbq.mono HBW.out.size))
    have HXQ := Lib.hid (box_bel HXW.out hbq)
    clear q2 qb q5 Q1 hbq
    generalize grow (redrawn W dq) osq = W2 at *
    have c5 := HXQ.out.cell
    have f5 := HXQ.out.frozen
    go_wp2_with (fail)
    obtain ⟨W3, hW3⟩ : ∃ W3, W3 = W2.setCell ⟨w3.heap.size, 0, none⟩ (.slice A3 0 c3) := ⟨_, rfl⟩
    have hb3 : Below w1.heap.size w1 W3 := by rw [hW3]; exact HBQ.out.setCell (p := ⟨w3.heap.size, 0, none⟩) HB3.out.size _
    have hx3 : Boxed W3 w3.heap.size 38 (.slice A3 0 c3) := by rw [hW3]; exact HXQ.out.set _
    have q2 := cell_regrown (box_bel HZ0.out hb3).cell
    have qb := cell_regrown (H1.out.bel hb3).c0
    have q5 := cell_regrown hx3.cell
    have Q1 := Lib.hid (fun d os => Calls.regrown_of (lis_none (w := grow (redrawn W3 d) os) A3 c3))
    have HB3' := Lib.hid hb3
    rw [← hW3]
    clear hW3 hb3 hx3 c5 f5
    refine region_below0 (by kernel_rfl) (by kernel_rfl) ?_
    repeat (first
      | go_big_quiet_step (exact Q1.out _ _)
      | quiet_step (exact Q1.out _ _))
    refine wpQuiet_nil ?_
    intro _ hw'
    obtain ⟨⟨dq2, osq2⟩, hw''⟩ := hw'
    subst hw''
    have HBF := Lib.hid (HB3'.out.trans ((below_regrown W3 dq2 osq2).mono HB3'.out.size))
    clear q2 qb q5 Q1
    generalize grow (redrawn W3 dq2) osq2 = W4 at *
    go_wp2_with (fail)
    go_ret
    exact ⟨rfl, HC1.out.trans (Chg.of_below (S := one b) HBF.out) (fun _ h => .inl h)⟩
  · obtain ⟨W, hW⟩ : ∃ W, W = w3.alloc (.cells #[.slice A3 m c3] 38) := ⟨_, rfl⟩
    have hbW : Below w1.heap.size w1 W := by rw [hW]; exact HB3.out.alloc HB3.out.size _
    have hxW : Boxed W w3.heap.size 38 (.slice A3 m c3) := by rw [hW]; exact Boxed.new w3 _ _
    have q2 := cell_regrown (box_bel HZ0.out hbW).cell
    have qb := cell_regrown (H1.out.bel hbW).c0
    have q5 := cell_regrown hxW.cell
    have Q1 := Lib.hid (fun d os => Calls.regrown_of (lmost_none (grow (redrawn W d) os)))
    have HBW := Lib.hid hbW
    have HXW := Lib.hid hxW
    rw [← hW]
    clear hW hbW hxW
    refine wp_region_below_tail 10 (by kernel_rfl) (by kernel_rfl) ?_
    simp only [List.take_succ_cons, List.take_zero, List.drop_succ_cons, List.drop_zero]
    repeat (first
      | go_big_quiet_step (exact Q1.out _ _)
      | quiet_step (exact Q1.out _ _))
    refine wpQuiet_nil ?_
    intro _ hw'
    obtain ⟨⟨dq, osq⟩, hw''⟩ := hw'
    subst hw''
    have hbq := below_regrown W dq osq
    have HBQ := Lib.hid (HBW.out.trans (hbq.mono HBW.out.size))
    have HXQ := Lib.hid (box_bel HXW.out hbq)
    clear q2 qb q5 Q1 hbq
    generalize grow (redrawn W dq) osq = W2 at *
    have c5 := HXQ.out.cell
    have f5 := HXQ.out.frozen
    go_wp2_with (fail)
    obtain ⟨W3, hW3⟩ : ∃ W3, W3 = W2.setCell ⟨w3.heap.size, 0, none⟩ (.slice A3 0 c3) := ⟨_, rfl⟩
    have hb3 : Below w1.heap.size w1 W3 := by rw [hW3]; exact HBQ.out.setCell (p := ⟨w3.heap.size, 0, none⟩) HB3.out.size _
    have hx3 : Boxed W3 w3.heap.size 38 (.slice A3 0 c3) := by rw [hW3]; exact HXQ.out.set _
    have q2 := cell_regrown (box_bel HZ0.out hb3).cell
    have qb := cell_regrown (H1.out.bel hb3).c0
    have q5 := cell_regrown hx3.cell
    have Q1 := Lib.hid (fun d os => Calls.regrown_of (lis_none (w := grow (redrawn W3 d) os) A3 c3))
    have HB3' := Lib.hid hb3
    rw [← hW3]
    clear hW3 hb3 hx3 c5 f5
    refine region_below0 (by kernel_rfl) (by kernel_rfl) ?_
    repeat (first
      | go_big_quiet_step (exact Q1.out _ _)
      | quiet_step (exact Q1.out _ _))
    refine wpQuiet_nil ?_
    intro _ hw'
    obtain ⟨⟨dq2, osq2⟩, hw''⟩ := hw'
    subst hw''
    have HBF := Lib.hid (HB3'.out.trans ((below_regrown W3 dq2 osq2).mono HB3'.out.size))
    clear q2 qb q5 Q1
    generalize grow (redrawn W3 dq2) osq2 = W4 at *
    go_wp2_with (fail)
    go_ret
    exact ⟨rfl, HC1.out.trans (Chg.of_below (S := one b) HBF.out) (fun _ h => .inl h)⟩
end Go.Proofs.YtfhfhjcdeeepbaaGreatDoor

namespace Go.Proofs.YtfhfhjcdeeepbaaGreatDoor
open Go.RowKit Go.Shelf Go.Sort
set_option linter.unusedVariables false
set_option linter.unusedSimpArgs false
set_option maxRecDepth 100000

theorem nst_bel (w : World) : Below w.heap.size w (w.alloc (.cells (stc false false 0 0).toArray 50)) := (Below.refl _ w).alloc (Nat.le_refl _) _

set_option maxHeartbeats 1000000 in
theorem neIns {w : World} {p : Option Addr} (h : EdNo w p) (hT : Tabs w) (x : ByteArray) (hx : x.size ≤ 4000000) (hfl : (flatB x.data.toList).length ≤ 4000000) :
    Calls Tryz.prog 10 #[.pointer p, .string x] w fun e w' => e = .returned (.bool false) ∧ Below w.heap.size w w' := by
  have H := Lib.hid h
  have HQ := Lib.hid (stinsN (stN_new w) (TL.of hT (nst_bel w)) x hx hfl)
  clear h hT hx hfl
  go_enter Tryz.func10, Tryz.ntmps10
  go_wp2_with (first
    | (go_at_call 24; refine (estate_not H.out).mono ?_; rintro e w1 ⟨rfl, rfl⟩)
    | (go_at_call 27; refine HQ.out.mono ?_; rintro e w2 hr; obtain ⟨rfl, hb⟩ := FalC.bel hr; have HR := Lib.hid hb; clear hb hr))
  go_ret
  exact ⟨rfl, HR.out⟩

set_option maxHeartbeats 1000000 in
theorem neSet {w : World} {p : Option Addr} (h : EdNo w p) (hT : Tabs w) (x : ByteArray) (hx : x.size ≤ 4000000) (hfl : (flatB x.data.toList).length ≤ 4000000) :
    Calls Tryz.prog 12 #[.pointer p, .string x] w fun e w' => e = .returned (.bool false) ∧ Below w.heap.size w w' := by
  have H := Lib.hid h
  have HQ := Lib.hid (stsetN (stN_new w) (TL.of hT (nst_bel w)) x hx hfl)
  clear h hT hx hfl
  go_enter Tryz.func12, Tryz.ntmps12
  go_wp2_with (first
    | (go_at_call 24; refine (estate_not H.out).mono ?_; rintro e w1 ⟨rfl, rfl⟩)
    | (go_at_call 28; refine HQ.out.mono ?_; rintro e w2 hr; obtain ⟨rfl, hb⟩ := FalC.bel hr; have HR := Lib.hid hb; clear hb hr))
  go_ret
  exact ⟨rfl, HR.out⟩

set_option maxHeartbeats 1000000 in
theorem neDo {w : World} {p : Option Addr} (h : EdNo w p) (a : Int) :
    Calls Tryz.prog 13 #[.pointer p, .int .i64 a] w fun e w' => e = .returned (.bool false) ∧ Below w.heap.size w w' := by
  have H := Lib.hid h
  have HQ := Lib.hid (doN (stN_new w) a)
  clear h
  go_enter Tryz.func13, Tryz.ntmps13
  go_wp2_with (first
    | (go_at_call 24; refine (estate_not H.out).mono ?_; rintro e w1 ⟨rfl, rfl⟩)
    | (go_at_call 29; refine HQ.out.mono ?_; rintro e w2 hr; obtain ⟨rfl, hb⟩ := FalC.bel hr; have HR := Lib.hid hb; clear hb hr))
  go_ret
  exact ⟨rfl, HR.out⟩

set_option maxHeartbeats 1000000 in
theorem neText {w : World} {p : Option Addr} (h : EdNo w p) :
    Calls Tryz.prog 8 #[.pointer p] w fun e w' => e = .returned (.string ⟨#[]⟩) ∧ Below w.heap.size w w' := by
  have H := Lib.hid h
  have k0 := (stN_new w).c0
  clear h
  go_enter Tryz.func8, Tryz.ntmps8
  go_wp2_with (first
    | (go_at_call 24; refine (estate_not H.out).mono ?_; rintro e w1 ⟨rfl, rfl⟩)
    | (go_at_call 25; refine (gtext_not (gno _)).mono ?_; rintro e w2 ⟨rfl, hr⟩; have HR := Lib.hid ((nst_bel w).trans (hr.mono (nst_bel w).size)); clear hr))
  go_ret
  exact ⟨rfl, HR.out⟩

set_option maxHeartbeats 1000000 in
theorem neLine {w : World} {p : Option Addr} (h : EdNo w p) :
    Calls Tryz.prog 16 #[.pointer p] w fun e w' => e = .returned (.slice none 0 0) ∧ Below w.heap.size w w' := by
  have H := Lib.hid h
  have k0 := (stN_new w).c0
  clear h
  go_enter Tryz.func16, Tryz.ntmps16
  go_wp2_with (first
    | (go_at_call 24; refine (estate_not H.out).mono ?_; rintro e w1 ⟨rfl, rfl⟩)
    | (go_at_call 30; refine (gline_not (gno _)).mono ?_; rintro e w2 ⟨rfl, rfl⟩; have HR := Lib.hid (nst_bel w)))
  go_ret
  exact ⟨rfl, HR.out⟩

set_option maxHeartbeats 1000000 in
theorem neWidths {w : World} {p : Option Addr} (h : EdNo w p) :
    Calls Tryz.prog 18 #[.pointer p] w fun e w' => e = .returned (.slice none 0 0) ∧ Below w.heap.size w w' := by
  have H := Lib.hid h
  have k0 := (stN_new w).c0
  clear h
  go_enter Tryz.func18, Tryz.ntmps18
  go_wp2_with (first
    | (go_at_call 24; refine (estate_not H.out).mono ?_; rintro e w1 ⟨rfl, rfl⟩)
    | (go_at_call 31; refine (gwidths_not (gno _)).mono ?_; rintro e w2 ⟨rfl, hr⟩; have HR := Lib.hid ((nst_bel w).trans (hr.mono (nst_bel w).size)); clear hr))
  go_ret
  exact ⟨rfl, HR.out⟩

set_option maxHeartbeats 1000000 in
theorem neCursor {w : World} {p : Option Addr} (h : EdNo w p) :
    Calls Tryz.prog 9 #[.pointer p] w fun e w' => e = .returned (.int .i64 0) ∧ Below w.heap.size w w' := by
  have H := Lib.hid h
  have k0 := (stN_new w).c0
  clear h
  go_enter Tryz.func9, Tryz.ntmps9
  go_wp2_with (first
    | (go_at_call 24; refine (estate_not H.out).mono ?_; rintro e w1 ⟨rfl, rfl⟩)
    | (go_at_call 26; refine (gcursor_not (gno _)).mono ?_; rintro e w2 ⟨rfl, rfl⟩; have HR := Lib.hid (nst_bel w)))
  go_ret
  exact ⟨rfl, HR.out⟩

set_option maxHeartbeats 1000000 in
theorem neLen {w : World} {p : Option Addr} (h : EdNo w p) :
    Calls Tryz.prog 19 #[.pointer p] w fun e w' => e = .returned (.int .i64 0) ∧ Below w.heap.size w w' := by
  have H := Lib.hid h
  have k0 := (stN_new w).c0
  clear h
  go_enter Tryz.func19, Tryz.ntmps19
  go_wp2_with (first
    | (go_at_call 24; refine (estate_not H.out).mono ?_; rintro e w1 ⟨rfl, rfl⟩)
    | (go_at_call 32; refine (glen_not (gno _)).mono ?_; rintro e w2 ⟨rfl, rfl⟩; have HR := Lib.hid (nst_bel w)))
  go_ret
  exact ⟨rfl, HR.out⟩

set_option maxHeartbeats 1000000 in
theorem neKills {w : World} {p : Option Addr} (h : EdNo w p) :
    Calls Tryz.prog 20 #[.pointer p] w fun e w' => e = .returned (.slice none 0 0) ∧ Below w.heap.size w w' := by
  have H := Lib.hid h
  have k0 := (stN_new w).c1
  clear h
  go_enter Tryz.func20, Tryz.ntmps20
  go_wp2_with (first
    | (go_at_call 24; refine (estate_not H.out).mono ?_; rintro e w1 ⟨rfl, rfl⟩)
    | (go_at_call 33; refine (sclone_none _).mono ?_; rintro e w2 ⟨rfl, hr⟩; have HR := Lib.hid ((nst_bel w).trans (hr.mono (nst_bel w).size)); clear hr))
  go_ret
  exact ⟨rfl, HR.out⟩

set_option maxHeartbeats 1000000 in
theorem neUndos {w : World} {p : Option Addr} (h : EdNo w p) :
    Calls Tryz.prog 14 #[.pointer p] w fun e w' => e = .returned (.int .i64 0) ∧ Below w.heap.size w w' := by
  have H := Lib.hid h
  have k0 := (stN_new w).c2
  clear h
  go_enter Tryz.func14, Tryz.ntmps14
  go_wp2_with (go_at_call 24; refine (estate_not H.out).mono ?_; rintro e w1 ⟨rfl, rfl⟩)
  go_ret
  exact ⟨rfl, nst_bel w⟩

set_option maxHeartbeats 1000000 in
theorem neBefore {w : World} {p : Option Addr} (h : EdNo w p) (n : Int) :
    Calls Tryz.prog 15 #[.pointer p, .int .i64 n] w fun e w' => e = .returned (.string ⟨#[]⟩) ∧ Below w.heap.size w w' := by
  have H := Lib.hid h
  have k0 := (stN_new w).c2
  clear h
  by_cases hn : n < 0
  case' neg => have hn2 : 0 ≤ n := by omega
  all_goals go_enter Tryz.func15, Tryz.ntmps15
  all_goals go_wp2_with (go_at_call 24; refine (estate_not H.out).mono ?_; rintro e w1 ⟨rfl, rfl⟩)
  all_goals go_ret
  all_goals exact ⟨rfl, nst_bel w⟩

set_option maxHeartbeats 1000000 in
theorem neFork {w : World} {p : Option Addr} (h : EdNo w p) :
    Calls Tryz.prog 21 #[.pointer p] w fun e w' => e = .returned (.pointer none) ∧ w = w' := by
  have H := Lib.hid h
  clear h
  go_enter Tryz.func21, Tryz.ntmps21
  go_wp2_with (go_at_call 34; refine (emade_not H.out).mono ?_; rintro e w1 ⟨rfl, rfl⟩)
  go_ret
  exact ⟨rfl, rfl⟩
end Go.Proofs.YtfhfhjcdeeepbaaGreatDoor

namespace Go.Proofs.YtfhfhjcdeeepbaaGreatDoor
set_option linter.unusedVariables false
set_option linter.unusedSimpArgs false

theorem e4_3 {r : Int} (h : r < 65536) : (e4 r).length ≤ 3 := by
  have hx : rfix r < 65536 := by unfold rfix; split <;> omega
  unfold e4 enc
  (repeat' split) <;> simp
theorem e4_4 (r : Int) : (e4 r).length ≤ 4 := (enc_le _).1
theorem nxt_c (k : Nat) : ∀ (s r lo hi : Int) (t : List UInt8), (nxt k s r lo hi t).2.2 = false → (nxt k s r lo hi t).2.1 = s ∨ (nxt k s r lo hi t).1 = 65533 := by
  induction k with
  | zero => intro s r lo hi t _; exact .inl rfl
  | succ k ih =>
    intro s r lo hi t h
    cases t with
    | nil => simp [nxt] at h
    | cons c t =>
      unfold nxt at h ⊢
      simp only at h ⊢
      split
      · exact .inr rfl
      · next hc => rw [if_neg hc] at h; exact ih _ _ _ _ _ h
theorem nx_c {l : List UInt8} (h : (nx l).2.2 = false) : 2 ≤ (nx l).2.1 ∨ (nx l).1 < 65536 := by
  cases l with
  | nil => simp [nx] at h
  | cons c t =>
    have hs := hsz_cases c.toNat
    have hc := u8lt c
    unfold nx at h ⊢
    simp only at h ⊢
    by_cases h0 : hsz c.toNat = 0
    · rw [if_pos h0]; exact .inr (by decide)
    · rw [if_neg h0] at h ⊢
      by_cases h1 : hsz c.toNat = 1
      · rw [if_pos h1]; exact .inr (by show (c.toNat : Int) < 65536; omega)
      · rw [if_neg h1] at h ⊢
        rcases nxt_c _ _ _ _ _ _ h with h2 | h2
        · rw [h2]; left; omega
        · rw [h2]; exact .inr (by decide)
theorem stp_e3 (l : List UInt8) : (e4 (stp l).1).length ≤ 3 * (stp l).2 := by
  unfold stp
  split
  · have := e4_3 (r := 65533) (by decide); simpa using this
  · next h =>
    have h' : (nx l).2.2 = false := by simpa using h
    have hn := nx_n l h'
    rcases nx_c h' with h2 | h2
    · have := e4_4 (nx l).1; simp only; omega
    · have := e4_3 h2; simp only; omega
theorem rns_e3 (f : Nat) : ∀ (a : Nat) (l : List UInt8), (eb ((rns f a l).map (·.2))).length ≤ 3 * l.length := by
  induction f with
  | zero => intro a l; simp [rns, eb]
  | succ f ih =>
    intro a l
    by_cases h : l = []
    · subst h; simp [rns, eb]
    · rw [rns, if_neg h, List.map_cons, eb_cons, List.length_append]
      have h1 := ih (a + (stp l).2) (l.drop (stp l).2)
      have h2 := stp_e3 l
      have h3 := stp_len h
      rw [List.length_drop] at h1
      simp only at *
      omega
def runW (q : List (List Int) × List Int) : Nat := (eb q.1.flatten).length + (eb q.2).length
theorem fin_runW (q : List (List Int) × List Int) : (eb (fin q).flatten).length ≤ runW q := by
  unfold fin runW
  split
  · omega
  · simp [eb_append]
theorem runW_step (q : List (List Int) × List Int) (r : Int) : runW (st2 q r) ≤ runW q + (e4 r).length := by
  rcases kinds r with hc | hm | hb
  · rw [st2_ct hc]; omega
  · rw [st2_mk hm.1 hm.2]
    unfold runW jn
    simp only
    split
    · omega
    · rw [eb_snoc, List.length_append]; omega
  · rw [st2_base hb]
    have := fin_runW q
    unfold runW at this ⊢
    simp only [eb_cons, eb_nil, List.length_append, List.length_nil]
    omega
theorem runW_fold (xs : List Int) : ∀ q, runW (xs.foldl st2 q) ≤ runW q + (eb xs).length := by
  induction xs with
  | nil => intro q; simp [eb]
  | cons x xs ih => intro q; rw [List.foldl_cons, eb_cons, List.length_append]; have := ih (st2 q x); have := runW_step q x; omega
theorem cls_eb_le (xs : List Int) : (eb (cls xs).flatten).length ≤ (eb xs).length := by
  unfold cls
  have h1 := fin_runW (run xs)
  have h2 := runW_fold xs ([], [])
  have e : runW (([], []) : List (List Int) × List Int) = 0 := rfl
  unfold run at h1 ⊢
  omega
theorem flatB_le3 (s : List UInt8) : (flatB s).length ≤ 3 * s.length := by
  unfold flatB cleanB
  have h1 := cls_eb_le (rs (s.map fl1))
  have h2 := rns_e3 (s.map fl1).length 0 (s.map fl1)
  have h3 : (s.map fl1).length = s.length := List.length_map ..
  unfold rs rnsOf at h1
  unfold rs rnsOf
  omega
end Go.Proofs.YtfhfhjcdeeepbaaGreatDoor

namespace Go.Proofs.YtfhfhjcdeeepbaaGreatDoor
open Go.RowKit
set_option linter.unusedVariables false
set_option linter.unusedSimpArgs false

set_option maxRecDepth 100000 in
set_option maxHeartbeats 8000000 in
theorem editorNobody_walk (x : ByteArray) (hx : x.size ≤ 1048576) (a n : Int) (w : World) (hT : Tabs w) :
    Calls Tryz.prog 5 #[.string x, .int .i64 a, .int .i64 n] w fun e w' => e = .returned (.bool true) ∧ Below w.heap.size w w' := by
  have HT := Lib.hid hT
  have hfl : (flatB x.data.toList).length ≤ 4000000 := by
    have h1 := flatB_le3 x.data.toList
    have h2 : x.data.toList.length = x.size := by rw [Array.length_toList]; rfl
    omega
  have HFL := Lib.hid hfl
  have HX : Hid (x.size ≤ 4000000) := Lib.hid (by omega)
  obtain ⟨W0, hW0⟩ : ∃ W0, W0 = (w.alloc (.cells #[.pointer none, .pointer none, .slice none 0 0, .slice none 0 0, .bool false, .bool false, .int .i64 0, .int .i64 0] 52)).alloc (.cells #[.pointer none, .pointer (some ⟨w.heap.size, 0, none⟩)] 23) := ⟨_, rfl⟩
  have HB0 : Hid (Below w.heap.size w W0) := Lib.hid (by rw [hW0]; exact ((Below.refl _ w).alloc (Nat.le_refl _) _).alloc (by simp) _)
  have x0 : Blk W0 w.heap.size 52 [.pointer none, .pointer none, .slice none 0 0, .slice none 0 0, .bool false, .bool false, .int .i64 0, .int .i64 0] := by
    rw [hW0]; exact (Blk.new w 52 [.pointer none, .pointer none, .slice none 0 0, .slice none 0 0, .bool false, .bool false, .int .i64 0, .int .i64 0]).alloc _
  have x1 : Blk W0 (w.heap.size + 1) 23 [.pointer none, .pointer (some ⟨w.heap.size, 0, none⟩)] := by
    have := Blk.new (w.alloc (.cells #[.pointer none, .pointer none, .slice none 0 0, .slice none 0 0, .bool false, .bool false, .int .i64 0, .int .i64 0] 52)) 23 [.pointer none, .pointer (some ⟨w.heap.size, 0, none⟩)]
    rw [hW0]
    simpa using this
  have each : ∀ k, k < 2 → ∃ p, ∀ W, Below W0.heap.size W0 W →
      (W.cell? ⟨w.heap.size + 1, k, none⟩ = some (.pointer p) ∧ EdNo W p) := fun k hk => by
    have hcase : k = 0 ∨ k = 1 := by omega
    rcases hcase with rfl | rfl
    · exact ⟨none, fun W hW => ⟨(x1.below hW x1.lt).cell 0, .inl rfl⟩⟩
    · exact ⟨some ⟨w.heap.size, 0, none⟩, fun W hW => ⟨(x1.below hW x1.lt).cell 1, .inr ⟨_, rfl, (x0.below hW x0.lt).cell 0⟩⟩⟩
  have HEACH := Lib.hid each
  clear hT hx hfl x0 x1 each
  go_enter Tryz.func5, Tryz.ntmps5
  go_wp2_with (fail)
  obtain ⟨h1, hh1⟩ : ∃ h1, h1 = w.heap.size + 1 := ⟨_, rfl⟩
  rw [← hh1] at HEACH ⊢
  rw [← hW0]
  clear hW0 hh1
  go_loopw [15] (fun v wr => ∃ k : Nat, v = .int .i64 k ∧ k ≤ 2 ∧ Below W0.heap.size W0 wr) (fun v _ => 2 - (intOf v).toNat)
  case atStart => exact ⟨0, rfl, by omega, Below.refl _ _⟩
  case round =>
    obtain ⟨k, rfl, hk, hbr⟩ := hrel
    have HBr := Lib.hid hbr
    clear hbr
    by_cases hlt : k < 2
    · have hki : (k : Int) < 2 := by omega
      obtain ⟨p, hp⟩ := HEACH.out k hlt
      have hcell := (hp wr HBr.out).1
      have HNO := Lib.hid (fun W hW => (hp W hW).2)
      clear hp
      go_wp2_with (first
        | (go_at_call 10; refine (neIns (HNO.out _ HBr.out) (HT.out.below (HB0.out.trans (HBr.out.mono HB0.out.size))) x HX.out HFL.out).mono ?_; rintro e w1 ⟨rfl, hb⟩; have HB1 := Lib.hid (HBr.out.trans (hb.mono HBr.out.size)); clear hb)
        | (go_at_call 13; refine (neDo (HNO.out _ HB1.out) a).mono ?_; rintro e w2 ⟨rfl, hb⟩; have HB2 := Lib.hid (HB1.out.trans (hb.mono HB1.out.size)); clear hb)
        | (go_at_call 12; refine (neSet (HNO.out _ HB2.out) (HT.out.below (HB0.out.trans (HB2.out.mono HB0.out.size))) x HX.out HFL.out).mono ?_; rintro e w3 ⟨rfl, hb⟩; have HB3 := Lib.hid (HB2.out.trans (hb.mono HB2.out.size)); clear hb)
        | (go_at_call 8; refine (neText (HNO.out _ HB3.out)).mono ?_; rintro e w4 ⟨rfl, hb⟩; have HB4 := Lib.hid (HB3.out.trans (hb.mono HB3.out.size)); clear hb)
        | (go_at_call 15; refine (neBefore (HNO.out _ HB4.out) n).mono ?_; rintro e w5 ⟨rfl, hb⟩; have HB5 := Lib.hid (HB4.out.trans (hb.mono HB4.out.size)); clear hb)
        | (go_at_call 16; refine (neLine (HNO.out _ HB5.out)).mono ?_; rintro e w6 ⟨rfl, hb⟩; have HB6 := Lib.hid (HB5.out.trans (hb.mono HB5.out.size)); clear hb)
        | (go_at_call 18; refine (neWidths (HNO.out _ HB6.out)).mono ?_; rintro e w7 ⟨rfl, hb⟩; have HB7 := Lib.hid (HB6.out.trans (hb.mono HB6.out.size)); clear hb)
        | (go_at_call 9; refine (neCursor (HNO.out _ HB7.out)).mono ?_; rintro e w8 ⟨rfl, hb⟩; have HB8 := Lib.hid (HB7.out.trans (hb.mono HB7.out.size)); clear hb)
        | (go_at_call 19; refine (neLen (HNO.out _ HB8.out)).mono ?_; rintro e w9 ⟨rfl, hb⟩; have HB9 := Lib.hid (HB8.out.trans (hb.mono HB8.out.size)); clear hb)
        | (go_at_call 20; refine (neKills (HNO.out _ HB9.out)).mono ?_; rintro e w10 ⟨rfl, hb⟩; have HB10 := Lib.hid (HB9.out.trans (hb.mono HB9.out.size)); clear hb)
        | (go_at_call 14; refine (neUndos (HNO.out _ HB10.out)).mono ?_; rintro e w11 ⟨rfl, hb⟩; have HB11 := Lib.hid (HB10.out.trans (hb.mono HB10.out.size)); clear hb)
        | (go_at_call 21; refine (neFork (HNO.out _ HB11.out)).mono ?_; rintro e w' ⟨rfl, rfl⟩))
      go_roundw
      case rel => exact ⟨k + 1, by go_num, by omega, HB11.out⟩
      case measure => simp [intOf]; omega
    · have hki : ¬ (k : Int) < 2 := by omega
      have HBW := Lib.hid (HB0.out.trans (HBr.out.mono HB0.out.size))
      go_wp2_with (go_at_call 7; refine (eawake_any _ (HT.out.below HBW.out)).mono ?_; rintro e w8 ⟨rfl, hb8⟩)
      go_ret
      exact ⟨rfl, HBW.out.trans (hb8.mono HBW.out.size)⟩
end Go.Proofs.YtfhfhjcdeeepbaaGreatDoor

