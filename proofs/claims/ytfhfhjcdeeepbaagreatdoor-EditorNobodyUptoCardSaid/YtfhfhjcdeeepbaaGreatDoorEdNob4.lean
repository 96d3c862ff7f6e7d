/-
  Walks: what a state without a buffer does: change, edit, do.
-/
import Derived.Test.YtfhfhjcdeeepbaaGreatDoorEdNob3
namespace Go.Proofs.YtfhfhjcdeeepbaaGreatDoor
open Go.RowKit Go.Shelf Go.Sort
set_option linter.unusedVariables false
set_option linter.unusedSimpArgs false
set_option maxRecDepth 100000

abbrev StN (w : World) (b : Nat) : Prop := Blk w b 50 (stc false false 0 0)
theorem StN.c0 {w : World} {b : Nat} (h : StN w b) : w.cell? ⟨b, 0, none⟩ = some (.pointer none) := h.cell 0
theorem StN.c1 {w : World} {b : Nat} (h : StN w b) : w.cell? ⟨b, 1, none⟩ = some (.slice none 0 0) := h.cell 1
theorem StN.c2 {w : World} {b : Nat} (h : StN w b) : w.cell? ⟨b, 2, none⟩ = some (.slice none 0 0) := h.cell 2
theorem StN.bel {w w' : World} {b : Nat} (h : StN w b) (hb : Below w.heap.size w w') : StN w' b := blk_bel h hb

set_option maxHeartbeats 2000000 in
theorem kill_none {w : World} {b : Nat} (h : StN w b) (x y : Int) (kd yd : Bool) (ki fr : Int) :
    Calls Tryz.prog 79 #[.pointer (some ⟨b, 0, none⟩), .int .i64 x, .int .i64 y, .agg #[.bool kd, .bool yd, .int .i64 ki, .int .i64 fr]] w fun e w' => e = .returned (.bool false) ∧ Below w.heap.size w w' := by
  have hb0 : Below w.heap.size w (w.alloc (.cells #[.bool kd, .bool yd, .int .i64 ki, .int .i64 fr] 48)) := (Below.refl _ w).alloc (Nat.le_refl _) _
  have kb := (h.bel hb0).c0
  have HB0 := Lib.hid hb0
  clear h hb0
  go_enter Tryz.func79, Tryz.ntmps79
  go_wp2_with (first
    | (go_at_call 26; refine (gcursor_not (gno _)).mono ?_; rintro e w1 ⟨rfl, rfl⟩)
    | (go_at_call 99; refine (gdelete_not (gno _) _ _).mono ?_; rintro e w2 ⟨rfl, rfl⟩)
    | (go_at_call 67; refine (sh_strings_Join_none none 0 ⟨#[]⟩ _).mono ?_; rintro e w3 ⟨rfl, rfl⟩))
  all_goals go_ret
  all_goals exact ⟨rfl, HB0.out⟩
set_option maxHeartbeats 2000000 in
theorem swap_none (w : World) :
    Calls Tryz.prog 81 #[.agg #[.pointer none]] w fun e w' => e = .returned (.bool false) ∧ Below w.heap.size w w' := by
  obtain ⟨hb0, hx0⟩ := line_box (w := w) (v := .pointer none)
  obtain ⟨W1, hW1⟩ : ∃ W1, W1 = w.alloc (.cells #[.pointer none] 45) := ⟨_, rfl⟩
  have HB1 : Hid (Below w.heap.size w W1) := Lib.hid (by rw [hW1]; exact hb0)
  have hcd1 : W1.cell? ⟨w.heap.size, 0, none⟩ = some (.pointer none) := by rw [hW1]; exact hx0.cell
  clear hb0 hx0
  go_enter Tryz.func81, Tryz.ntmps81
  go_upto_region 1 with (fail)
  rw [← hW1]
  clear hW1
  go_region_law (first
    | (refine step_call rfl 26 _ _ rfl (enters_of Tryz.func26 (by kernel_rfl) rfl) #[.pointer none] (by simp [Act.eval, Act.put]) (gcursor_not (gno _)) ?_; rintro e w2 ⟨rfl, rfl⟩; refine ⟨_, rfl, ?_⟩)
    | (refine step_call rfl 32 _ _ rfl (enters_of Tryz.func32 (by kernel_rfl) rfl) #[.pointer none] (by simp [Act.eval, Act.put]) (glen_not (gno _)) ?_; rintro e w2 ⟨rfl, rfl⟩; refine ⟨_, rfl, ?_⟩))
  all_goals
    go_wp2_with (fail)
    go_ret
    exact ⟨rfl, HB1.out.trans ((gp_drewN _ _).mono HB1.out.size)⟩
set_option maxHeartbeats 1000000 in
theorem undo_none {w : World} {b : Nat} (h : StN w b) :
    Calls Tryz.prog 55 #[.pointer (some ⟨b, 0, none⟩)] w fun e w' => e = .returned (.bool false) ∧ Below w.heap.size w w' := by
  have k2 := h.c2
  clear h
  go_enter Tryz.func55, Tryz.ntmps55
  go_wp2
  go_ret
  exact ⟨rfl, Below.refl _ _⟩
set_option maxHeartbeats 2000000 in
theorem edit_none {w : World} {b : Nat} (h : StN w b) (gf : Nat) (cap : Array Value) (eg : ∀ args w, (callFunc gf args).run Tryz.prog w = .ok (.enter gf args) w)
    (hdo : ∀ W, Below w.heap.size w W → Calls Tryz.prog gf cap W fun e w' => e = .returned (.bool false) ∧ Below W.heap.size W w') :
    Calls Tryz.prog 43 #[.pointer (some ⟨b, 0, none⟩), .func (.func gf) #[] cap] w fun e w' => e = .returned (.bool false) ∧ Below w.heap.size w w' := by
  have kb := h.c0
  have HDO := Lib.hid hdo
  have HS := Lib.hid h
  clear h hdo
  go_enter Tryz.func43, Tryz.ntmps43
  go_wp2_with (fail)
  go_cut [5, 6] from 8 to 19 (fun v5 v6 wr => v5 = .slice none 0 0 ∧ v6 = .int .i64 0 ∧ Below w.heap.size w wr)
  case first =>
    go_region_law (first
      | (refine step_call rfl 30 _ _ rfl (enters_of Tryz.func30 (by kernel_rfl) rfl) #[.pointer none] (by simp [Act.eval, Act.put]) (gline_not (gno _)) ?_; rintro e w2 ⟨rfl, rfl⟩; refine ⟨_, rfl, ?_⟩)
      | (refine step_call rfl 26 _ _ rfl (enters_of Tryz.func26 (by kernel_rfl) rfl) #[.pointer none] (by simp [Act.eval, Act.put]) (gcursor_not (gno _)) ?_; rintro e w3 ⟨rfl, rfl⟩; refine ⟨_, rfl, ?_⟩))
    all_goals (go_wp2_with (fail); go_meet; exact ⟨rfl, rfl, (Below.refl _ w).drew⟩)
  case rest =>
    obtain ⟨rfl, rfl, hbel⟩ := hcut
    have HBEL := Lib.hid hbel
    clear hbel kb
    go_wp2_with (first
      | (go_at_fn gf; refine (HDO.out _ HBEL.out).mono ?_; rintro e w3 ⟨rfl, hb3⟩; have kb3 := (HS.out.bel (HBEL.out.trans (hb3.mono HBEL.out.size))).c0; have HB3 := Lib.hid hb3; clear hb3)
      | (go_at_call 49; refine (lis_none none 0).mono ?_; rintro e w4 ⟨rfl, hb4⟩; have HB4 := Lib.hid hb4; clear hb4))
    go_ret
    exact ⟨rfl, HBEL.out.trans ((HB3.out.trans (HB4.out.mono HB3.out.size)).mono HBEL.out.size)⟩

set_option maxHeartbeats 4000000 in
theorem chgN_7 {w : World} {b : Nat} (h : StN w b)  :
    Calls Tryz.prog 57 #[.pointer (some ⟨b, 0, none⟩), .int .i64 7, .agg #[.bool false, .bool false, .int .i64 0, .int .i64 0]] w fun e w' => e = .returned (.bool false) ∧ Below w.heap.size w w' := by
  obtain ⟨hb0, ht0⟩ := trc_new w false false 0 0
  have h0 := h.bel hb0
  have kb0 := h0.c0
  have k1 := h0.c1
  have z0 : (w.alloc (.cells #[.bool false, .bool false, .int .i64 0, .int .i64 0] 48)).cell? ⟨w.heap.size, 0, none⟩ = some (.bool false) := ht0.cell 0
  have z1 : (w.alloc (.cells #[.bool false, .bool false, .int .i64 0, .int .i64 0] 48)).cell? ⟨w.heap.size, 1, none⟩ = some (.bool false) := ht0.cell 1
  have z2 : (w.alloc (.cells #[.bool false, .bool false, .int .i64 0, .int .i64 0] 48)).cell? ⟨w.heap.size, 2, none⟩ = some (.int .i64 0) := ht0.cell 2
  have z3 : (w.alloc (.cells #[.bool false, .bool false, .int .i64 0, .int .i64 0] 48)).cell? ⟨w.heap.size, 3, none⟩ = some (.int .i64 0) := ht0.cell 3
  have H0 := Lib.hid h0
  have HB0 := Lib.hid hb0
  have HT0 := Lib.hid ht0
  clear h hb0 ht0 h0
  go_enter Tryz.func57, Tryz.ntmps57
  go_wp2_with (first
    | (go_at_call 26; refine (gcursor_not (gno _)).mono ?_; rintro e w1 ⟨rfl, rfl⟩)
    | (go_at_call 73; refine (lerase_none _ _ _).mono ?_; rintro e w3 ⟨rfl, hr⟩; have HR := Lib.hid hr; clear hr))
  go_ret
  exact ⟨rfl, HB0.out.trans (HR.out.mono HB0.out.size)⟩

set_option maxHeartbeats 4000000 in
theorem chgN_8 {w : World} {b : Nat} (h : StN w b)  :
    Calls Tryz.prog 57 #[.pointer (some ⟨b, 0, none⟩), .int .i64 8, .agg #[.bool false, .bool false, .int .i64 0, .int .i64 0]] w fun e w' => e = .returned (.bool false) ∧ Below w.heap.size w w' := by
  obtain ⟨hb0, ht0⟩ := trc_new w false false 0 0
  have h0 := h.bel hb0
  have kb0 := h0.c0
  have k1 := h0.c1
  have z0 : (w.alloc (.cells #[.bool false, .bool false, .int .i64 0, .int .i64 0] 48)).cell? ⟨w.heap.size, 0, none⟩ = some (.bool false) := ht0.cell 0
  have z1 : (w.alloc (.cells #[.bool false, .bool false, .int .i64 0, .int .i64 0] 48)).cell? ⟨w.heap.size, 1, none⟩ = some (.bool false) := ht0.cell 1
  have z2 : (w.alloc (.cells #[.bool false, .bool false, .int .i64 0, .int .i64 0] 48)).cell? ⟨w.heap.size, 2, none⟩ = some (.int .i64 0) := ht0.cell 2
  have z3 : (w.alloc (.cells #[.bool false, .bool false, .int .i64 0, .int .i64 0] 48)).cell? ⟨w.heap.size, 3, none⟩ = some (.int .i64 0) := ht0.cell 3
  have H0 := Lib.hid h0
  have HB0 := Lib.hid hb0
  have HT0 := Lib.hid ht0
  clear h hb0 ht0 h0
  go_enter Tryz.func57, Tryz.ntmps57
  go_wp2_with (first
    | (go_at_call 26; refine (gcursor_not (gno _)).mono ?_; rintro e w1 ⟨rfl, rfl⟩)
    | (go_at_call 73; refine (lerase_none _ _ _).mono ?_; rintro e w3 ⟨rfl, hr⟩; have HR := Lib.hid hr; clear hr))
  go_ret
  exact ⟨rfl, HB0.out.trans (HR.out.mono HB0.out.size)⟩

set_option maxHeartbeats 4000000 in
theorem chgN_10 {w : World} {b : Nat} (h : StN w b)  :
    Calls Tryz.prog 57 #[.pointer (some ⟨b, 0, none⟩), .int .i64 10, .agg #[.bool false, .bool false, .int .i64 0, .int .i64 0]] w fun e w' => e = .returned (.bool false) ∧ Below w.heap.size w w' := by
  obtain ⟨hb0, ht0⟩ := trc_new w false false 0 0
  have h0 := h.bel hb0
  have kb0 := h0.c0
  have k1 := h0.c1
  have z0 : (w.alloc (.cells #[.bool false, .bool false, .int .i64 0, .int .i64 0] 48)).cell? ⟨w.heap.size, 0, none⟩ = some (.bool false) := ht0.cell 0
  have z1 : (w.alloc (.cells #[.bool false, .bool false, .int .i64 0, .int .i64 0] 48)).cell? ⟨w.heap.size, 1, none⟩ = some (.bool false) := ht0.cell 1
  have z2 : (w.alloc (.cells #[.bool false, .bool false, .int .i64 0, .int .i64 0] 48)).cell? ⟨w.heap.size, 2, none⟩ = some (.int .i64 0) := ht0.cell 2
  have z3 : (w.alloc (.cells #[.bool false, .bool false, .int .i64 0, .int .i64 0] 48)).cell? ⟨w.heap.size, 3, none⟩ = some (.int .i64 0) := ht0.cell 3
  have H0 := Lib.hid h0
  have HB0 := Lib.hid hb0
  have HT0 := Lib.hid ht0
  clear h hb0 ht0 h0
  go_enter Tryz.func57, Tryz.ntmps57
  go_wp2_with (first
    | (go_at_call 26; refine (gcursor_not (gno _)).mono ?_; rintro e w1 ⟨rfl, rfl⟩)
    | (go_at_call 79; refine (kill_none H0.out _ _ _ _ _ _).mono ?_; rintro e w3 ⟨rfl, hr⟩; have HR := Lib.hid hr; clear hr))
  go_ret
  exact ⟨rfl, HB0.out.trans (HR.out.mono HB0.out.size)⟩

set_option maxHeartbeats 4000000 in
theorem chgN_13 {w : World} {b : Nat} (h : StN w b)  :
    Calls Tryz.prog 57 #[.pointer (some ⟨b, 0, none⟩), .int .i64 13, .agg #[.bool false, .bool false, .int .i64 0, .int .i64 0]] w fun e w' => e = .returned (.bool false) ∧ Below w.heap.size w w' := by
  obtain ⟨hb0, ht0⟩ := trc_new w false false 0 0
  have h0 := h.bel hb0
  have kb0 := h0.c0
  have k1 := h0.c1
  have z0 : (w.alloc (.cells #[.bool false, .bool false, .int .i64 0, .int .i64 0] 48)).cell? ⟨w.heap.size, 0, none⟩ = some (.bool false) := ht0.cell 0
  have z1 : (w.alloc (.cells #[.bool false, .bool false, .int .i64 0, .int .i64 0] 48)).cell? ⟨w.heap.size, 1, none⟩ = some (.bool false) := ht0.cell 1
  have z2 : (w.alloc (.cells #[.bool false, .bool false, .int .i64 0, .int .i64 0] 48)).cell? ⟨w.heap.size, 2, none⟩ = some (.int .i64 0) := ht0.cell 2
  have z3 : (w.alloc (.cells #[.bool false, .bool false, .int .i64 0, .int .i64 0] 48)).cell? ⟨w.heap.size, 3, none⟩ = some (.int .i64 0) := ht0.cell 3
  have H0 := Lib.hid h0
  have HB0 := Lib.hid hb0
  have HT0 := Lib.hid ht0
  clear h hb0 ht0 h0
  go_enter Tryz.func57, Tryz.ntmps57
  go_wp2_with (first
    | (go_at_call 26; refine (gcursor_not (gno _)).mono ?_; rintro e w1 ⟨rfl, rfl⟩))
  all_goals go_ret
  all_goals exact ⟨rfl, HB0.out⟩

set_option maxHeartbeats 4000000 in
theorem chgN_14 {w : World} {b : Nat} (h : StN w b)  :
    Calls Tryz.prog 57 #[.pointer (some ⟨b, 0, none⟩), .int .i64 14, .agg #[.bool false, .bool false, .int .i64 0, .int .i64 0]] w fun e w' => e = .returned (.bool false) ∧ Below w.heap.size w w' := by
  obtain ⟨hb0, ht0⟩ := trc_new w false false 0 0
  have h0 := h.bel hb0
  have kb0 := h0.c0
  have k1 := h0.c1
  have z0 : (w.alloc (.cells #[.bool false, .bool false, .int .i64 0, .int .i64 0] 48)).cell? ⟨w.heap.size, 0, none⟩ = some (.bool false) := ht0.cell 0
  have z1 : (w.alloc (.cells #[.bool false, .bool false, .int .i64 0, .int .i64 0] 48)).cell? ⟨w.heap.size, 1, none⟩ = some (.bool false) := ht0.cell 1
  have z2 : (w.alloc (.cells #[.bool false, .bool false, .int .i64 0, .int .i64 0] 48)).cell? ⟨w.heap.size, 2, none⟩ = some (.int .i64 0) := ht0.cell 2
  have z3 : (w.alloc (.cells #[.bool false, .bool false, .int .i64 0, .int .i64 0] 48)).cell? ⟨w.heap.size, 3, none⟩ = some (.int .i64 0) := ht0.cell 3
  have H0 := Lib.hid h0
  have HB0 := Lib.hid hb0
  have HT0 := Lib.hid ht0
  clear h hb0 ht0 h0
  go_enter Tryz.func57, Tryz.ntmps57
  go_wp2_with (first
    | (go_at_call 26; refine (gcursor_not (gno _)).mono ?_; rintro e w1 ⟨rfl, rfl⟩))
  go_quiet (fail)
  go_wp2_with (fail)
  go_ret
  exact ⟨rfl, HB0.out.trans ((gp_drewN _ _).mono HB0.out.size)⟩

set_option maxHeartbeats 4000000 in
theorem chgN_16 {w : World} {b : Nat} (h : StN w b)  :
    Calls Tryz.prog 57 #[.pointer (some ⟨b, 0, none⟩), .int .i64 16, .agg #[.bool false, .bool false, .int .i64 0, .int .i64 0]] w fun e w' => e = .returned (.bool false) ∧ Below w.heap.size w w' := by
  obtain ⟨hb0, ht0⟩ := trc_new w false false 0 0
  have h0 := h.bel hb0
  have kb0 := h0.c0
  have k1 := h0.c1
  have z0 : (w.alloc (.cells #[.bool false, .bool false, .int .i64 0, .int .i64 0] 48)).cell? ⟨w.heap.size, 0, none⟩ = some (.bool false) := ht0.cell 0
  have z1 : (w.alloc (.cells #[.bool false, .bool false, .int .i64 0, .int .i64 0] 48)).cell? ⟨w.heap.size, 1, none⟩ = some (.bool false) := ht0.cell 1
  have z2 : (w.alloc (.cells #[.bool false, .bool false, .int .i64 0, .int .i64 0] 48)).cell? ⟨w.heap.size, 2, none⟩ = some (.int .i64 0) := ht0.cell 2
  have z3 : (w.alloc (.cells #[.bool false, .bool false, .int .i64 0, .int .i64 0] 48)).cell? ⟨w.heap.size, 3, none⟩ = some (.int .i64 0) := ht0.cell 3
  have H0 := Lib.hid h0
  have HB0 := Lib.hid hb0
  have HT0 := Lib.hid ht0
  clear h hb0 ht0 h0
  go_enter Tryz.func57, Tryz.ntmps57
  go_wp2_with (first
    | (go_at_call 26; refine (gcursor_not (gno _)).mono ?_; rintro e w1 ⟨rfl, rfl⟩)
    | (go_at_call 81; refine (swap_none _).mono ?_; rintro e w3 ⟨rfl, hr⟩; have HR := Lib.hid hr; clear hr))
  go_ret
  exact ⟨rfl, HB0.out.trans (HR.out.mono HB0.out.size)⟩

set_option maxHeartbeats 4000000 in
theorem chgN_9 {w : World} {b : Nat} (h : StN w b)  :
    Calls Tryz.prog 57 #[.pointer (some ⟨b, 0, none⟩), .int .i64 9, .agg #[.bool false, .bool false, .int .i64 0, .int .i64 0]] w fun e w' => e = .returned (.bool false) ∧ Below w.heap.size w w' := by
  obtain ⟨hb0, ht0⟩ := trc_new w false false 0 0
  have h0 := h.bel hb0
  have kb0 := h0.c0
  have k1 := h0.c1
  have z0 : (w.alloc (.cells #[.bool false, .bool false, .int .i64 0, .int .i64 0] 48)).cell? ⟨w.heap.size, 0, none⟩ = some (.bool false) := ht0.cell 0
  have z1 : (w.alloc (.cells #[.bool false, .bool false, .int .i64 0, .int .i64 0] 48)).cell? ⟨w.heap.size, 1, none⟩ = some (.bool false) := ht0.cell 1
  have z2 : (w.alloc (.cells #[.bool false, .bool false, .int .i64 0, .int .i64 0] 48)).cell? ⟨w.heap.size, 2, none⟩ = some (.int .i64 0) := ht0.cell 2
  have z3 : (w.alloc (.cells #[.bool false, .bool false, .int .i64 0, .int .i64 0] 48)).cell? ⟨w.heap.size, 3, none⟩ = some (.int .i64 0) := ht0.cell 3
  have H0 := Lib.hid h0
  have HB0 := Lib.hid hb0
  have HT0 := Lib.hid ht0
  clear h hb0 ht0 h0
  go_enter Tryz.func57, Tryz.ntmps57
  go_wp2_with (first
    | (go_at_call 26; refine (gcursor_not (gno _)).mono ?_; rintro e w1 ⟨rfl, rfl⟩))
  go_region_law (first
    | (refine step_call rfl 32 _ _ rfl (enters_of Tryz.func32 (by kernel_rfl) rfl) #[.pointer none] (by simp [Act.eval, Act.put]) (glenN _) ?_; rintro e w2 ⟨rfl, hb2⟩; refine ⟨_, rfl, ?_⟩
       have hb12 := (Below.drew (Below.refl _ _)).trans hb2
       have ht2 := blk_bel HT0.out hb12
       have hn2 := H0.out.bel hb12
       have kb2 := hn2.c0
       have y0 : w2.cell? ⟨w.heap.size, 0, none⟩ = some (.bool false) := ht2.cell 0
       have y1 : w2.cell? ⟨w.heap.size, 1, none⟩ = some (.bool false) := ht2.cell 1
       have y2 : w2.cell? ⟨w.heap.size, 2, none⟩ = some (.int .i64 0) := ht2.cell 2
       have y3 : w2.cell? ⟨w.heap.size, 3, none⟩ = some (.int .i64 0) := ht2.cell 3
       have HN2 := Lib.hid hn2
       have HB2 := Lib.hid (HB0.out.trans (hb12.mono HB0.out.size))
       clear hb2 hb12 ht2 hn2)
    | (refine step_call rfl 79 _ _ rfl (enters_of Tryz.func79 (by kernel_rfl) rfl) #[.pointer (some ⟨b, 0, none⟩), .int .i64 0, .int .i64 0, .agg #[.bool false, .bool false, .int .i64 0, .int .i64 0]] (by simp [Act.eval, Act.put]) (kill_none HN2.out _ _ _ _ _ _) ?_; rintro e w3 ⟨rfl, hr⟩; refine ⟨_, rfl, ?_⟩; have HR := Lib.hid (HB2.out.trans (hr.mono HB2.out.size)); clear hr))
  all_goals (go_wp2_with (fail); go_ret; exact ⟨rfl, HR.out⟩)

set_option maxHeartbeats 4000000 in
theorem chgN_11 {w : World} {b : Nat} (h : StN w b)  :
    Calls Tryz.prog 57 #[.pointer (some ⟨b, 0, none⟩), .int .i64 11, .agg #[.bool false, .bool false, .int .i64 0, .int .i64 0]] w fun e w' => e = .returned (.bool false) ∧ Below w.heap.size w w' := by
  obtain ⟨hb0, ht0⟩ := trc_new w false false 0 0
  have h0 := h.bel hb0
  have kb0 := h0.c0
  have k1 := h0.c1
  have z0 : (w.alloc (.cells #[.bool false, .bool false, .int .i64 0, .int .i64 0] 48)).cell? ⟨w.heap.size, 0, none⟩ = some (.bool false) := ht0.cell 0
  have z1 : (w.alloc (.cells #[.bool false, .bool false, .int .i64 0, .int .i64 0] 48)).cell? ⟨w.heap.size, 1, none⟩ = some (.bool false) := ht0.cell 1
  have z2 : (w.alloc (.cells #[.bool false, .bool false, .int .i64 0, .int .i64 0] 48)).cell? ⟨w.heap.size, 2, none⟩ = some (.int .i64 0) := ht0.cell 2
  have z3 : (w.alloc (.cells #[.bool false, .bool false, .int .i64 0, .int .i64 0] 48)).cell? ⟨w.heap.size, 3, none⟩ = some (.int .i64 0) := ht0.cell 3
  have H0 := Lib.hid h0
  have HB0 := Lib.hid hb0
  have HT0 := Lib.hid ht0
  clear h hb0 ht0 h0
  go_enter Tryz.func57, Tryz.ntmps57
  go_wp2_with (first
    | (go_at_call 26; refine (gcursor_not (gno _)).mono ?_; rintro e w1 ⟨rfl, rfl⟩))
  go_region_law (first
    | (refine step_call rfl 54 _ _ rfl (enters_of Tryz.func54 (by kernel_rfl) rfl) #[.agg #[.pointer none]] (by simp [Act.eval, Act.put]) (lwordr_none _) ?_; rintro e w2 ⟨rfl, hb2⟩; refine ⟨_, rfl, ?_⟩
       have hb12 := (Below.drew (Below.refl _ _)).trans hb2
       have ht2 := blk_bel HT0.out hb12
       have hn2 := H0.out.bel hb12
       have kb2 := hn2.c0
       have y0 : w2.cell? ⟨w.heap.size, 0, none⟩ = some (.bool false) := ht2.cell 0
       have y1 : w2.cell? ⟨w.heap.size, 1, none⟩ = some (.bool false) := ht2.cell 1
       have y2 : w2.cell? ⟨w.heap.size, 2, none⟩ = some (.int .i64 0) := ht2.cell 2
       have y3 : w2.cell? ⟨w.heap.size, 3, none⟩ = some (.int .i64 0) := ht2.cell 3
       have HN2 := Lib.hid hn2
       have HB2 := Lib.hid (HB0.out.trans (hb12.mono HB0.out.size))
       clear hb2 hb12 ht2 hn2)
    | (refine step_call rfl 79 _ _ rfl (enters_of Tryz.func79 (by kernel_rfl) rfl) #[.pointer (some ⟨b, 0, none⟩), .int .i64 0, .int .i64 0, .agg #[.bool false, .bool false, .int .i64 0, .int .i64 0]] (by simp [Act.eval, Act.put]) (kill_none HN2.out _ _ _ _ _ _) ?_; rintro e w3 ⟨rfl, hr⟩; refine ⟨_, rfl, ?_⟩; have HR := Lib.hid (HB2.out.trans (hr.mono HB2.out.size)); clear hr))
  all_goals (go_wp2_with (fail); go_ret; exact ⟨rfl, HR.out⟩)

set_option maxHeartbeats 4000000 in
theorem chgN_12 {w : World} {b : Nat} (h : StN w b)  :
    Calls Tryz.prog 57 #[.pointer (some ⟨b, 0, none⟩), .int .i64 12, .agg #[.bool false, .bool false, .int .i64 0, .int .i64 0]] w fun e w' => e = .returned (.bool false) ∧ Below w.heap.size w w' := by
  obtain ⟨hb0, ht0⟩ := trc_new w false false 0 0
  have h0 := h.bel hb0
  have kb0 := h0.c0
  have k1 := h0.c1
  have z0 : (w.alloc (.cells #[.bool false, .bool false, .int .i64 0, .int .i64 0] 48)).cell? ⟨w.heap.size, 0, none⟩ = some (.bool false) := ht0.cell 0
  have z1 : (w.alloc (.cells #[.bool false, .bool false, .int .i64 0, .int .i64 0] 48)).cell? ⟨w.heap.size, 1, none⟩ = some (.bool false) := ht0.cell 1
  have z2 : (w.alloc (.cells #[.bool false, .bool false, .int .i64 0, .int .i64 0] 48)).cell? ⟨w.heap.size, 2, none⟩ = some (.int .i64 0) := ht0.cell 2
  have z3 : (w.alloc (.cells #[.bool false, .bool false, .int .i64 0, .int .i64 0] 48)).cell? ⟨w.heap.size, 3, none⟩ = some (.int .i64 0) := ht0.cell 3
  have H0 := Lib.hid h0
  have HB0 := Lib.hid hb0
  have HT0 := Lib.hid ht0
  clear h hb0 ht0 h0
  go_enter Tryz.func57, Tryz.ntmps57
  go_wp2_with (first
    | (go_at_call 26; refine (gcursor_not (gno _)).mono ?_; rintro e w1 ⟨rfl, rfl⟩))
  go_region_law (first
    | (refine step_call rfl 53 _ _ rfl (enters_of Tryz.func53 (by kernel_rfl) rfl) #[.agg #[.pointer none]] (by simp [Act.eval, Act.put]) (lwordl_none _) ?_; rintro e w2 ⟨rfl, hb2⟩; refine ⟨_, rfl, ?_⟩
       have hb12 := (Below.drew (Below.refl _ _)).trans hb2
       have ht2 := blk_bel HT0.out hb12
       have hn2 := H0.out.bel hb12
       have kb2 := hn2.c0
       have y0 : w2.cell? ⟨w.heap.size, 0, none⟩ = some (.bool false) := ht2.cell 0
       have y1 : w2.cell? ⟨w.heap.size, 1, none⟩ = some (.bool false) := ht2.cell 1
       have y2 : w2.cell? ⟨w.heap.size, 2, none⟩ = some (.int .i64 0) := ht2.cell 2
       have y3 : w2.cell? ⟨w.heap.size, 3, none⟩ = some (.int .i64 0) := ht2.cell 3
       have HN2 := Lib.hid hn2
       have HB2 := Lib.hid (HB0.out.trans (hb12.mono HB0.out.size))
       clear hb2 hb12 ht2 hn2)
    | (refine step_call rfl 79 _ _ rfl (enters_of Tryz.func79 (by kernel_rfl) rfl) #[.pointer (some ⟨b, 0, none⟩), .int .i64 0, .int .i64 0, .agg #[.bool false, .bool false, .int .i64 0, .int .i64 0]] (by simp [Act.eval, Act.put]) (kill_none HN2.out _ _ _ _ _ _) ?_; rintro e w3 ⟨rfl, hr⟩; refine ⟨_, rfl, ?_⟩; have HR := Lib.hid (HB2.out.trans (hr.mono HB2.out.size)); clear hr))
  all_goals (go_wp2_with (fail); go_ret; exact ⟨rfl, HR.out⟩)

set_option maxHeartbeats 4000000 in
theorem chgN_17 {w : World} {b : Nat} (h : StN w b)  :
    Calls Tryz.prog 57 #[.pointer (some ⟨b, 0, none⟩), .int .i64 17, .agg #[.bool false, .bool false, .int .i64 0, .int .i64 0]] w fun e w' => e = .returned (.bool false) ∧ Below w.heap.size w w' := by
  obtain ⟨hb0, ht0⟩ := trc_new w false false 0 0
  have h0 := h.bel hb0
  have kb0 := h0.c0
  have k1 := h0.c1
  have z0 : (w.alloc (.cells #[.bool false, .bool false, .int .i64 0, .int .i64 0] 48)).cell? ⟨w.heap.size, 0, none⟩ = some (.bool false) := ht0.cell 0
  have z1 : (w.alloc (.cells #[.bool false, .bool false, .int .i64 0, .int .i64 0] 48)).cell? ⟨w.heap.size, 1, none⟩ = some (.bool false) := ht0.cell 1
  have z2 : (w.alloc (.cells #[.bool false, .bool false, .int .i64 0, .int .i64 0] 48)).cell? ⟨w.heap.size, 2, none⟩ = some (.int .i64 0) := ht0.cell 2
  have z3 : (w.alloc (.cells #[.bool false, .bool false, .int .i64 0, .int .i64 0] 48)).cell? ⟨w.heap.size, 3, none⟩ = some (.int .i64 0) := ht0.cell 3
  have H0 := Lib.hid h0
  have HB0 := Lib.hid hb0
  have HT0 := Lib.hid ht0
  clear h hb0 ht0 h0
  go_enter Tryz.func57, Tryz.ntmps57
  go_wp2_with (first
    | (go_at_call 26; refine (gcursor_not (gno _)).mono ?_; rintro e w1 ⟨rfl, rfl⟩))
  go_region_law (first
    | (refine step_call rfl 32 _ _ rfl (enters_of Tryz.func32 (by kernel_rfl) rfl) #[.pointer none] (by simp [Act.eval, Act.put]) (glenN _) ?_; rintro e w2 ⟨rfl, hb2⟩; refine ⟨_, rfl, ?_⟩
       have hb12 := (Below.drew (Below.refl _ _)).trans hb2
       have ht2 := blk_bel HT0.out hb12
       have hn2 := H0.out.bel hb12
       have kb2 := hn2.c0
       have y0 : w2.cell? ⟨w.heap.size, 0, none⟩ = some (.bool false) := ht2.cell 0
       have y1 : w2.cell? ⟨w.heap.size, 1, none⟩ = some (.bool false) := ht2.cell 1
       have y2 : w2.cell? ⟨w.heap.size, 2, none⟩ = some (.int .i64 0) := ht2.cell 2
       have y3 : w2.cell? ⟨w.heap.size, 3, none⟩ = some (.int .i64 0) := ht2.cell 3
       have HN2 := Lib.hid hn2
       have HB2 := Lib.hid (HB0.out.trans (hb12.mono HB0.out.size))
       clear hb2 hb12 ht2 hn2)
    | (refine step_call rfl 73 _ _ rfl (enters_of Tryz.func73 (by kernel_rfl) rfl) #[.agg #[.pointer none], .int .i64 0, .int .i64 0] (by simp [Act.eval, Act.put]) (lerase_none _ _ _) ?_; rintro e w3 ⟨rfl, hr⟩; refine ⟨_, rfl, ?_⟩; have HR := Lib.hid (HB2.out.trans (hr.mono HB2.out.size)); clear hr))
  all_goals (go_wp2_with (fail); go_ret; exact ⟨rfl, HR.out⟩)

set_option maxHeartbeats 4000000 in
theorem chgN_any {w : World} {b : Nat} (h : StN w b) (a : Int) (h7 : a ≠ 7) (h8 : a ≠ 8) (h9 : a ≠ 9) (h10 : a ≠ 10) (h11 : a ≠ 11) (h12 : a ≠ 12) (h13 : a ≠ 13) (h14 : a ≠ 14) (h16 : a ≠ 16) (h17 : a ≠ 17) :
    Calls Tryz.prog 57 #[.pointer (some ⟨b, 0, none⟩), .int .i64 a, .agg #[.bool false, .bool false, .int .i64 0, .int .i64 0]] w fun e w' => e = .returned (.bool false) ∧ Below w.heap.size w w' := by
  obtain ⟨hb0, ht0⟩ := trc_new w false false 0 0
  have h0 := h.bel hb0
  have kb0 := h0.c0
  have k1 := h0.c1
  have z0 : (w.alloc (.cells #[.bool false, .bool false, .int .i64 0, .int .i64 0] 48)).cell? ⟨w.heap.size, 0, none⟩ = some (.bool false) := ht0.cell 0
  have z1 : (w.alloc (.cells #[.bool false, .bool false, .int .i64 0, .int .i64 0] 48)).cell? ⟨w.heap.size, 1, none⟩ = some (.bool false) := ht0.cell 1
  have z2 : (w.alloc (.cells #[.bool false, .bool false, .int .i64 0, .int .i64 0] 48)).cell? ⟨w.heap.size, 2, none⟩ = some (.int .i64 0) := ht0.cell 2
  have z3 : (w.alloc (.cells #[.bool false, .bool false, .int .i64 0, .int .i64 0] 48)).cell? ⟨w.heap.size, 3, none⟩ = some (.int .i64 0) := ht0.cell 3
  have H0 := Lib.hid h0
  have HB0 := Lib.hid hb0
  have HT0 := Lib.hid ht0
  clear h hb0 ht0 h0
  go_enter Tryz.func57, Tryz.ntmps57
  go_wp2_with (first
    | (go_at_call 26; refine (gcursor_not (gno _)).mono ?_; rintro e w1 ⟨rfl, rfl⟩))
  all_goals go_ret
  all_goals exact ⟨rfl, HB0.out⟩

theorem change_none {w : World} {b : Nat} (h : StN w b) (a : Int) :
    Calls Tryz.prog 57 #[.pointer (some ⟨b, 0, none⟩), .int .i64 a, .agg #[.bool false, .bool false, .int .i64 0, .int .i64 0]] w fun e w' => e = .returned (.bool false) ∧ Below w.heap.size w w' := by
  by_cases h7 : a = 7
  · subst h7; exact chgN_7 h
  by_cases h8 : a = 8
  · subst h8; exact chgN_8 h
  by_cases h9 : a = 9
  · subst h9; exact chgN_9 h
  by_cases h10 : a = 10
  · subst h10; exact chgN_10 h
  by_cases h11 : a = 11
  · subst h11; exact chgN_11 h
  by_cases h12 : a = 12
  · subst h12; exact chgN_12 h
  by_cases h13 : a = 13
  · subst h13; exact chgN_13 h
  by_cases h14 : a = 14
  · subst h14; exact chgN_14 h
  by_cases h16 : a = 16
  · subst h16; exact chgN_16 h
  by_cases h17 : a = 17
  · subst h17; exact chgN_17 h
  exact chgN_any h a h7 h8 h9 h10 h11 h12 h13 h14 h16 h17
end Go.Proofs.YtfhfhjcdeeepbaaGreatDoor
