/-
  Walks: List, Bar, Page at the page's example; the law's awake.
-/
import Derived.Test.YthkdedoambmfkaaWnLine
namespace Go.Proofs.Ythkdedoambmfkaa
open Go.RowKit Go.Shelf Go.Sort
set_option linter.unusedVariables false
set_option linter.unusedSimpArgs false
set_option maxRecDepth 100000

set_option maxHeartbeats 1000000 in
theorem wlist_ex (w : World) : Calls Try.prog 19 #[.int .i64 10, .int .i64 4, .int .i64 9] w fun e w' => e = .returned (.tuple #[.int .i64 6, .int .i64 10]) ∧ w = w' := by
  go_enter Try.func19, Try.ntmps19
  go_wp2
  go_ret2
  exact ⟨rfl, rfl⟩
set_option maxHeartbeats 1000000 in
theorem wbar_ex (w : World) : Calls Try.prog 20 #[.int .i64 100, .int .i64 10, .int .i64 90] w fun e w' => e = .returned (.tuple #[.int .i64 9, .int .i64 1]) ∧ w = w' := by
  go_enter Try.func20, Try.ntmps20
  go_wp2_with (refine (wclamp_any _ _ _ _).mono ?_; rintro e w' ⟨rfl, rfl⟩)
  go_ret2
  exact ⟨rfl, rfl⟩
set_option maxHeartbeats 1000000 in
theorem wpage_ex (w : World) : Calls Try.prog 21 #[.int .i64 10, .int .i64 4, .int .i64 5, .int .i64 1] w fun e w' => e = .returned (.int .i64 8) ∧ w = w' := by
  go_enter Try.func21, Try.ntmps21
  go_wp2_with (refine (wclamp_any _ _ _ _).mono ?_; rintro e w' ⟨rfl, rfl⟩)
  go_ret
  exact ⟨rfl, rfl⟩
set_option maxHeartbeats 1000000 in
theorem wawake_any (w : World) : Calls Try.prog 9 #[] w fun e w' => e = .returned (.bool true) ∧ Below w.heap.size w w' := by
  have hb : Below w.heap.size w (w.alloc (.cells #[.int .i64 1, .int .i64 1, .int .i64 1, .int .i64 1, .int .i64 1] 3)) := (Below.refl _ w).alloc (Nat.le_refl _) _
  have hs := Sl.new w #[.int .i64 1, .int .i64 1, .int .i64 1, .int .i64 1, .int .i64 1] 3
  have h1 : (lnA [1, 1, 1, 1, 1] (clampN 5 5) 3) = 3 := by decide +kernel
  have h2 : (lnB [1, 1, 1, 1, 1] (clampN 5 5) 3) = 5 := by decide +kernel
  have HL : Hid (Calls Try.prog 5 #[.int .i64 5, .int .i64 3, .slice (some ⟨w.heap.size, 0, none⟩) 5 5] (w.alloc (.cells #[.int .i64 1, .int .i64 1, .int .i64 1, .int .i64 1, .int .i64 1] 3)) fun e w' => e = .returned (.tuple #[.int .i64 3, .int .i64 5]) ∧ Below w.heap.size w w') :=
    Lib.hid ((wline_any 5 3 (by omega) [1, 1, 1, 1, 1] (some ⟨w.heap.size, 0, none⟩) 5 5 _ rfl (by omega) (by omega) (hs.more (by simp))).mono (by rintro e w' ⟨rfl, h⟩; exact ⟨by rw [h1, h2]; rfl, hb.trans (h.mono (by simp))⟩))
  clear hb hs h1 h2
  go_enter Try.func9, Try.ntmps9
  go_wp2_with (first
    | (go_at_call 5; refine HL.out.mono ?_; rintro e w1 ⟨rfl, hb1⟩)
    | (go_at_call 19; refine (wlist_ex _).mono ?_; rintro e w2 ⟨rfl, rfl⟩)
    | (go_at_call 20; refine (wbar_ex _).mono ?_; rintro e w3 ⟨rfl, rfl⟩)
    | (go_at_call 21; refine (wpage_ex _).mono ?_; rintro e w4 ⟨rfl, rfl⟩))
  go_ret
  exact ⟨rfl, hb1⟩
end Go.Proofs.Ythkdedoambmfkaa
