/-
  Walks: runes.Bytes, isRune, tail, and the reference's.
-/
import Derived.Test.YteolafeeggjblaaDoorRows
import Derived.Test.YteolafeeggjblaaDoorRnBytesM
namespace Go.Proofs.YteolafeeggjblaaDoor
open Go.RowKit
set_option linter.unusedVariables false

theorem dis_sur (r : Int) (h : 55296 ≤ r ∧ r ≤ 57343) : (decide (r < 55296) || decide (57343 < r)) = decide (isR r) := by
  have e : ¬ isR r := by unfold isR; omega
  rw [decide_eq_false e, decide_eq_false (by omega), decide_eq_false (by omega)]; rfl

set_option maxHeartbeats 400000 in
theorem tail_any (r : Int) (w : World) (h0 : 0 ≤ r) (h1 : r ≤ 1114111) :
    Calls Tryd.prog 75 #[.int .i32 r] w fun e w' => e = .returned (.int .u8 (128 + r % 64)) ∧ w = w' := by
  go_enter Tryd.func75, Tryd.ntmps75
  go_wp2
  go_ret
  exact ⟨rfl, rfl⟩

set_option maxHeartbeats 400000 in
theorem low_any (r : Int) (w : World) (h0 : 0 ≤ r) (h1 : r ≤ 1114111) :
    Calls Tryd.prog 44 #[.int .i32 r] w fun e w' => e = .returned (.int .u8 (128 + r % 64)) ∧ w = w' := by
  go_enter Tryd.func44, Tryd.ntmps44
  go_wp2
  go_ret
  exact ⟨rfl, rfl⟩

set_option maxHeartbeats 400000 in
theorem isRune_any (r : Int) (w : World) :
    Calls Tryd.prog 74 #[.int .i32 r] w fun e w' => e = .returned (.bool (decide (isR r))) ∧ w = w' := by
  have hc : r < 0 ∨ 1114111 < r ∨ (0 ≤ r ∧ r < 55296) ∨ (55296 ≤ r ∧ r ≤ 57343) ∨ (57343 < r ∧ r ≤ 1114111) := by omega
  rcases hc with h | h | h | h | h
  all_goals
    go_enter Tryd.func74, Tryd.ntmps74
    go_wp2
    go_ret
    exact ⟨ret_bool (by first | exact (decide_eq_true (show isR r from by unfold isR; omega)).symm | exact (decide_eq_false (show ¬ isR r from by unfold isR; omega)).symm | exact dis_sur r h), rfl⟩
set_option maxHeartbeats 400000 in
theorem is_any (r : Int) (w : World) :
    Calls Tryd.prog 43 #[.int .i32 r] w fun e w' => e = .returned (.bool (decide (isR r))) ∧ w = w' := by
  have hc : r < 0 ∨ 1114111 < r ∨ (0 ≤ r ∧ r < 55296) ∨ (55296 ≤ r ∧ r ≤ 57343) ∨ (57343 < r ∧ r ≤ 1114111) := by omega
  rcases hc with h | h | h | h | h
  all_goals
    go_enter Tryd.func43, Tryd.ntmps43
    go_wp2
    go_ret
    exact ⟨ret_bool (by first | exact (decide_eq_true (show isR r from by unfold isR; omega)).symm | exact (decide_eq_false (show ¬ isR r from by unfold isR; omega)).symm | exact dis_sur r h), rfl⟩

set_option maxHeartbeats 1000000 in
theorem bytes_in (r : Int) (w : World) (h : isR r) :
    Calls Tryd.prog 62 #[.int .i32 r] w fun e w' => e = .returned (.slice (some ⟨w.heap.size, 0, none⟩) (enc r).length (enc r).length) ∧ w' = w.alloc (.cells (bv (enc r)).toArray 5) := by
  have H := Lib.hid (decide_eq_true h)
  have h0 : 0 ≤ r := h.1
  have h1 : r ≤ 1114111 := h.2.1
  clear h
  have hc : r < 128 ∨ (128 ≤ r ∧ r < 2048) ∨ (2048 ≤ r ∧ r < 65536) ∨ (65536 ≤ r) := by omega
  rcases hc with h | h | h | h
  all_goals
    go_enter Tryd.func62, Tryd.ntmps62
    go_wp2_with (first | (go_at_call 74; refine (isRune_any _ _).mono ?_; rintro e w' ⟨rfl, rfl⟩; rw [H.out]) | (go_at_call 75; refine (tail_any _ _ (by omega) (by omega)).mono ?_; rintro e w' ⟨rfl, rfl⟩))
    go_ret
    first
    | (have f := enc_c1 r h0 h; rw [f.1, f.2]; exact ⟨rfl, rfl⟩)
    | (have f := enc_c2 r h.1 h.2; rw [f.1, f.2]; exact ⟨rfl, rfl⟩)
    | (have f := enc_c3 r h.1 h.2; rw [f.1, f.2]; exact ⟨rfl, rfl⟩)
    | (have f := enc_c4 r h h1; rw [f.1, f.2]; exact ⟨rfl, rfl⟩)

set_option maxHeartbeats 1000000 in
theorem bytes_out (r : Int) (w : World) (h : ¬ isR r) :
    Calls Tryd.prog 62 #[.int .i32 r] w fun e w' => e = .returned (.slice (some ⟨w.heap.size, 0, none⟩) (enc 65533).length (enc 65533).length) ∧ w' = w.alloc (.cells (bv (enc 65533)).toArray 5) := by
  have H := Lib.hid (decide_eq_false h)
  clear h
  go_enter Tryd.func62, Tryd.ntmps62
  go_wp2_with (first | (go_at_call 74; refine (isRune_any _ _).mono ?_; rintro e w' ⟨rfl, rfl⟩; rw [H.out]) | (go_at_call 75; refine (tail_any _ _ (by omega) (by omega)).mono ?_; rintro e w' ⟨rfl, rfl⟩))
  go_ret
  have f := enc_c3 65533 (by omega) (by omega)
  rw [f.1, f.2]
  exact ⟨rfl, rfl⟩

theorem bytes_any (r : Int) (w : World) :
    Calls Tryd.prog 62 #[.int .i32 r] w fun e w' => e = .returned (.slice (some ⟨w.heap.size, 0, none⟩) (enc (rfix r)).length (enc (rfix r)).length) ∧ w' = w.alloc (.cells (bv (enc (rfix r))).toArray 5) := by
  by_cases h : isR r
  · rw [show rfix r = r from if_pos h]; exact bytes_in r w h
  · rw [show rfix r = 65533 from if_neg h]; exact bytes_out r w h

set_option maxHeartbeats 1000000 in
theorem rbytes_in (r : Int) (w : World) (h : isR r) :
    Calls Tryd.prog 33 #[.int .i32 r] w fun e w' => e = .returned (.slice (some ⟨w.heap.size, 0, none⟩) (enc r).length (enc r).length) ∧ w' = w.alloc (.cells (bv (enc r)).toArray 5) := by
  have H := Lib.hid (decide_eq_true h)
  have h0 : 0 ≤ r := h.1
  have h1 : r ≤ 1114111 := h.2.1
  clear h
  have hc : r < 128 ∨ (128 ≤ r ∧ r < 2048) ∨ (2048 ≤ r ∧ r < 65536) ∨ (65536 ≤ r) := by omega
  rcases hc with h | h | h | h
  all_goals
    go_enter Tryd.func33, Tryd.ntmps33
    go_wp2_with (first | (go_at_call 43; refine (is_any _ _).mono ?_; rintro e w' ⟨rfl, rfl⟩; rw [H.out]) | (go_at_call 44; refine (low_any _ _ (by omega) (by omega)).mono ?_; rintro e w' ⟨rfl, rfl⟩))
    go_ret
    first
    | (have f := enc_c1 r h0 h; rw [f.1, f.2]; exact ⟨rfl, rfl⟩)
    | (have f := enc_c2 r h.1 h.2; rw [f.1, f.2]; exact ⟨rfl, rfl⟩)
    | (have f := enc_c3 r h.1 h.2; rw [f.1, f.2]; exact ⟨rfl, rfl⟩)
    | (have f := enc_c4 r h h1; rw [f.1, f.2]; exact ⟨rfl, rfl⟩)

set_option maxHeartbeats 1000000 in
theorem rbytes_out (r : Int) (w : World) (h : ¬ isR r) :
    Calls Tryd.prog 33 #[.int .i32 r] w fun e w' => e = .returned (.slice (some ⟨w.heap.size, 0, none⟩) (enc 65533).length (enc 65533).length) ∧ w' = w.alloc (.cells (bv (enc 65533)).toArray 5) := by
  have H := Lib.hid (decide_eq_false h)
  clear h
  go_enter Tryd.func33, Tryd.ntmps33
  go_wp2_with (first | (go_at_call 43; refine (is_any _ _).mono ?_; rintro e w' ⟨rfl, rfl⟩; rw [H.out]) | (go_at_call 44; refine (low_any _ _ (by omega) (by omega)).mono ?_; rintro e w' ⟨rfl, rfl⟩))
  go_ret
  have f := enc_c3 65533 (by omega) (by omega)
  rw [f.1, f.2]
  exact ⟨rfl, rfl⟩

theorem rbytes_any (r : Int) (w : World) :
    Calls Tryd.prog 33 #[.int .i32 r] w fun e w' => e = .returned (.slice (some ⟨w.heap.size, 0, none⟩) (enc (rfix r)).length (enc (rfix r)).length) ∧ w' = w.alloc (.cells (bv (enc (rfix r))).toArray 5) := by
  by_cases h : isR r
  · rw [show rfix r = r from if_pos h]; exact rbytes_in r w h
  · rw [show rfix r = 65533 from if_neg h]; exact rbytes_out r w h
end Go.Proofs.YteolafeeggjblaaDoor
