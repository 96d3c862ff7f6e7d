/-
  Walks: the reference's style.
-/
import Derived.Test.YtfmkeeaenjeneaaGreatDoorRtMem
namespace Go.Proofs.YtfmkeeaenjeneaaGreatDoor
open Go.RowKit
set_option linter.unusedVariables false
set_option linter.unusedSimpArgs false

set_option maxRecDepth 100000 in
set_option maxHeartbeats 16000000 in
theorem rtstyle_any (y : Sty) (n : Int) (h0 : 0 ≤ n) (h1 : n ≤ 9999) (w : World) :
    Calls Tryz.prog 143 #[.agg #[.bool y.b, .bool y.u, .bool y.i, .int .i64 y.f, .int .i64 y.g], .int .i64 n] w fun e w' => e = .returned (.agg (styT y n).cells.toArray) ∧ Below w.heap.size w w' := by
  obtain ⟨W0, hW0⟩ : ∃ W, W = (w.alloc (.cells #[.bool y.b, .bool y.u, .bool y.i, .int .i64 y.f, .int .i64 y.g] 31)).alloc (.cells #[.bool false, .bool false, .bool false, .int .i64 0, .int .i64 0] 31) := ⟨_, rfl⟩
  have HX : Hid (Blk W0 w.heap.size 31 y.cells) := Lib.hid (by rw [hW0]; exact (Blk.new w 31 y.cells).alloc _)
  have HZ : Hid (Blk W0 (w.heap.size + 1) 31 Sty.zero.cells) := Lib.hid (by
    have := Blk.new (w.alloc (.cells y.cells.toArray 31)) 31 Sty.zero.cells
    rw [hW0]
    simpa [Sty.cells, Sty.zero] using this)
  have HB0 : Hid (Below w.heap.size w W0) := Lib.hid (by rw [hW0]; exact ((Below.refl w.heap.size w).alloc (Nat.le_refl _) _).alloc (by simp) _)
  have HS0 : Hid (W0.heap.size = w.heap.size + 2) := Lib.hid (by rw [hW0]; simp)
  have HW0 := Lib.hid hW0
  clear hW0
  have hc : (n = 0) ∨ (n = 1) ∨ (n = 22) ∨ (n = 4) ∨ (n = 24) ∨ (n = 7) ∨ (n = 27) ∨ (30 ≤ n ∧ n ≤ 37) ∨ (n = 39) ∨ (40 ≤ n ∧ n ≤ 47) ∨ (n = 49) ∨ ((2 ≤ n ∧ n ≤ 3) ∨ (5 ≤ n ∧ n ≤ 6) ∨ (8 ≤ n ∧ n ≤ 21) ∨ n = 23 ∨ (25 ≤ n ∧ n ≤ 26) ∨ (28 ≤ n ∧ n < 30)) ∨ (n = 38) ∨ (n = 48) ∨ (50 ≤ n) := by omega
  rcases hc with h | h | h | h | h | h | h | h | h | h | h | h | h | h | h
  · subst h
    have HE : Hid (styT y 0 = Sty.zero) := Lib.hid rfl
    go_enter Tryz.func143, Tryz.ntmps143
    go_upto_region 1 with fail
    rw [← HW0.out]
    clear HW0
    go_wp2_with (first
      | ((with_reducible refine at_store 4 ?_); refine wpList_store_blk rfl _ _ _ rfl rfl (w.heap.size + 1) 0 _ Sty.zero.cells Sty.zero.cells rfl rfl HZ.out (by simp [tsty_len]) tsty_size (tsty_one _) ?_; intro w9 hn9 hg9)
      )
    rw [HE.out]
    exact bodyPost_ret (results_c rfl rfl (tswhole hn9) Tryz.underlying31 rfl tsty_size) rfl ⟨rfl, HB0.out.grown hg9 (by have := HS0.out; omega) (fun j hj => by injection hj with hj; omega)⟩
  · subst h
    have HE : Hid (styT y 1 = { y with b := true }) := Lib.hid rfl
    go_enter Tryz.func143, Tryz.ntmps143
    go_upto_region 1 with fail
    rw [← HW0.out]
    clear HW0
    go_wp2_with (first
      | ((with_reducible refine at_store 18 ?_); refine wpList_store_cell rfl _ _ _ rfl rfl w.heap.size 0 _ y.cells (.bool true) rfl rfl HX.out (by simp [Sty.cells]) (by kernel_rfl) rfl ?_; intro w2 hn2 hg2; have hn2' : Blk w2 w.heap.size 31 (({ y with b := true : Sty }).cells) := hn2; have HX2 := Lib.hid hn2'; have HB2 := Lib.hid (HB0.out.grown hg2 (by have := HS0.out; omega) (fun j hj => by injection hj with hj; omega)); have HZ2 : Hid (Blk w2 (w.heap.size + 1) 31 Sty.zero.cells) := Lib.hid ((hg2.block (w.heap.size + 1) (by have := HS0.out; omega) (fun h => by injection h with h; omega)).trans HZ.out); have HS2 := Lib.hid (show w.heap.size + 2 ≤ w2.heap.size by have := HS0.out; have := hg2.size; omega); clear hn2 hn2' hg2)
      | ((with_reducible refine at_dst 67 ?_); refine wpList_load_mid rfl _ _ rfl w.heap.size 0 rfl (({ y with b := true : Sty }).cells) _ (tswhole HX2.out) Tryz.underlying31 rfl tsty_size ?_)
      | ((with_reducible refine at_store 4 ?_); refine wpList_store_blk rfl _ _ _ rfl rfl (w.heap.size + 1) 0 _ Sty.zero.cells (({ y with b := true : Sty }).cells) rfl rfl HZ2.out (by simp [tsty_len]) tsty_size (tsty_one _) ?_; intro w9 hn9 hg9)
      )
    rw [HE.out]
    exact bodyPost_ret (results_c rfl rfl (tswhole hn9) Tryz.underlying31 rfl tsty_size) rfl ⟨rfl, HB2.out.grown hg9 (by have := HS2.out; omega) (fun j hj => by injection hj with hj; omega)⟩
  · subst h
    have HE : Hid (styT y 22 = { y with b := false }) := Lib.hid rfl
    go_enter Tryz.func143, Tryz.ntmps143
    go_upto_region 1 with fail
    rw [← HW0.out]
    clear HW0
    go_wp2_with (first
      | ((with_reducible refine at_store 18 ?_); refine wpList_store_cell rfl _ _ _ rfl rfl w.heap.size 0 _ y.cells (.bool false) rfl rfl HX.out (by simp [Sty.cells]) (by kernel_rfl) rfl ?_; intro w2 hn2 hg2; have hn2' : Blk w2 w.heap.size 31 (({ y with b := false : Sty }).cells) := hn2; have HX2 := Lib.hid hn2'; have HB2 := Lib.hid (HB0.out.grown hg2 (by have := HS0.out; omega) (fun j hj => by injection hj with hj; omega)); have HZ2 : Hid (Blk w2 (w.heap.size + 1) 31 Sty.zero.cells) := Lib.hid ((hg2.block (w.heap.size + 1) (by have := HS0.out; omega) (fun h => by injection h with h; omega)).trans HZ.out); have HS2 := Lib.hid (show w.heap.size + 2 ≤ w2.heap.size by have := HS0.out; have := hg2.size; omega); clear hn2 hn2' hg2)
      | ((with_reducible refine at_dst 67 ?_); refine wpList_load_mid rfl _ _ rfl w.heap.size 0 rfl (({ y with b := false : Sty }).cells) _ (tswhole HX2.out) Tryz.underlying31 rfl tsty_size ?_)
      | ((with_reducible refine at_store 4 ?_); refine wpList_store_blk rfl _ _ _ rfl rfl (w.heap.size + 1) 0 _ Sty.zero.cells (({ y with b := false : Sty }).cells) rfl rfl HZ2.out (by simp [tsty_len]) tsty_size (tsty_one _) ?_; intro w9 hn9 hg9)
      )
    rw [HE.out]
    exact bodyPost_ret (results_c rfl rfl (tswhole hn9) Tryz.underlying31 rfl tsty_size) rfl ⟨rfl, HB2.out.grown hg9 (by have := HS2.out; omega) (fun j hj => by injection hj with hj; omega)⟩
  · subst h
    have HE : Hid (styT y 4 = { y with u := true }) := Lib.hid rfl
    go_enter Tryz.func143, Tryz.ntmps143
    go_upto_region 1 with fail
    rw [← HW0.out]
    clear HW0
    go_wp2_with (first
      | ((with_reducible refine at_store 28 ?_); refine wpList_store_cell rfl _ _ _ rfl rfl w.heap.size 1 _ y.cells (.bool true) rfl rfl HX.out (by simp [Sty.cells]) (by kernel_rfl) rfl ?_; intro w2 hn2 hg2; have hn2' : Blk w2 w.heap.size 31 (({ y with u := true : Sty }).cells) := hn2; have HX2 := Lib.hid hn2'; have HB2 := Lib.hid (HB0.out.grown hg2 (by have := HS0.out; omega) (fun j hj => by injection hj with hj; omega)); have HZ2 : Hid (Blk w2 (w.heap.size + 1) 31 Sty.zero.cells) := Lib.hid ((hg2.block (w.heap.size + 1) (by have := HS0.out; omega) (fun h => by injection h with h; omega)).trans HZ.out); have HS2 := Lib.hid (show w.heap.size + 2 ≤ w2.heap.size by have := HS0.out; have := hg2.size; omega); clear hn2 hn2' hg2)
      | ((with_reducible refine at_dst 67 ?_); refine wpList_load_mid rfl _ _ rfl w.heap.size 0 rfl (({ y with u := true : Sty }).cells) _ (tswhole HX2.out) Tryz.underlying31 rfl tsty_size ?_)
      | ((with_reducible refine at_store 4 ?_); refine wpList_store_blk rfl _ _ _ rfl rfl (w.heap.size + 1) 0 _ Sty.zero.cells (({ y with u := true : Sty }).cells) rfl rfl HZ2.out (by simp [tsty_len]) tsty_size (tsty_one _) ?_; intro w9 hn9 hg9)
      )
    rw [HE.out]
    exact bodyPost_ret (results_c rfl rfl (tswhole hn9) Tryz.underlying31 rfl tsty_size) rfl ⟨rfl, HB2.out.grown hg9 (by have := HS2.out; omega) (fun j hj => by injection hj with hj; omega)⟩
  · subst h
    have HE : Hid (styT y 24 = { y with u := false }) := Lib.hid rfl
    go_enter Tryz.func143, Tryz.ntmps143
    go_upto_region 1 with fail
    rw [← HW0.out]
    clear HW0
    go_wp2_with (first
      | ((with_reducible refine at_store 28 ?_); refine wpList_store_cell rfl _ _ _ rfl rfl w.heap.size 1 _ y.cells (.bool false) rfl rfl HX.out (by simp [Sty.cells]) (by kernel_rfl) rfl ?_; intro w2 hn2 hg2; have hn2' : Blk w2 w.heap.size 31 (({ y with u := false : Sty }).cells) := hn2; have HX2 := Lib.hid hn2'; have HB2 := Lib.hid (HB0.out.grown hg2 (by have := HS0.out; omega) (fun j hj => by injection hj with hj; omega)); have HZ2 : Hid (Blk w2 (w.heap.size + 1) 31 Sty.zero.cells) := Lib.hid ((hg2.block (w.heap.size + 1) (by have := HS0.out; omega) (fun h => by injection h with h; omega)).trans HZ.out); have HS2 := Lib.hid (show w.heap.size + 2 ≤ w2.heap.size by have := HS0.out; have := hg2.size; omega); clear hn2 hn2' hg2)
      | ((with_reducible refine at_dst 67 ?_); refine wpList_load_mid rfl _ _ rfl w.heap.size 0 rfl (({ y with u := false : Sty }).cells) _ (tswhole HX2.out) Tryz.underlying31 rfl tsty_size ?_)
      | ((with_reducible refine at_store 4 ?_); refine wpList_store_blk rfl _ _ _ rfl rfl (w.heap.size + 1) 0 _ Sty.zero.cells (({ y with u := false : Sty }).cells) rfl rfl HZ2.out (by simp [tsty_len]) tsty_size (tsty_one _) ?_; intro w9 hn9 hg9)
      )
    rw [HE.out]
    exact bodyPost_ret (results_c rfl rfl (tswhole hn9) Tryz.underlying31 rfl tsty_size) rfl ⟨rfl, HB2.out.grown hg9 (by have := HS2.out; omega) (fun j hj => by injection hj with hj; omega)⟩
  · subst h
    have HE : Hid (styT y 7 = { y with i := true }) := Lib.hid rfl
    go_enter Tryz.func143, Tryz.ntmps143
    go_upto_region 1 with fail
    rw [← HW0.out]
    clear HW0
    go_wp2_with (first
      | ((with_reducible refine at_store 38 ?_); refine wpList_store_cell rfl _ _ _ rfl rfl w.heap.size 2 _ y.cells (.bool true) rfl rfl HX.out (by simp [Sty.cells]) (by kernel_rfl) rfl ?_; intro w2 hn2 hg2; have hn2' : Blk w2 w.heap.size 31 (({ y with i := true : Sty }).cells) := hn2; have HX2 := Lib.hid hn2'; have HB2 := Lib.hid (HB0.out.grown hg2 (by have := HS0.out; omega) (fun j hj => by injection hj with hj; omega)); have HZ2 : Hid (Blk w2 (w.heap.size + 1) 31 Sty.zero.cells) := Lib.hid ((hg2.block (w.heap.size + 1) (by have := HS0.out; omega) (fun h => by injection h with h; omega)).trans HZ.out); have HS2 := Lib.hid (show w.heap.size + 2 ≤ w2.heap.size by have := HS0.out; have := hg2.size; omega); clear hn2 hn2' hg2)
      | ((with_reducible refine at_dst 67 ?_); refine wpList_load_mid rfl _ _ rfl w.heap.size 0 rfl (({ y with i := true : Sty }).cells) _ (tswhole HX2.out) Tryz.underlying31 rfl tsty_size ?_)
      | ((with_reducible refine at_store 4 ?_); refine wpList_store_blk rfl _ _ _ rfl rfl (w.heap.size + 1) 0 _ Sty.zero.cells (({ y with i := true : Sty }).cells) rfl rfl HZ2.out (by simp [tsty_len]) tsty_size (tsty_one _) ?_; intro w9 hn9 hg9)
      )
    rw [HE.out]
    exact bodyPost_ret (results_c rfl rfl (tswhole hn9) Tryz.underlying31 rfl tsty_size) rfl ⟨rfl, HB2.out.grown hg9 (by have := HS2.out; omega) (fun j hj => by injection hj with hj; omega)⟩
  · subst h
    have HE : Hid (styT y 27 = { y with i := false }) := Lib.hid rfl
    go_enter Tryz.func143, Tryz.ntmps143
    go_upto_region 1 with fail
    rw [← HW0.out]
    clear HW0
    go_wp2_with (first
      | ((with_reducible refine at_store 38 ?_); refine wpList_store_cell rfl _ _ _ rfl rfl w.heap.size 2 _ y.cells (.bool false) rfl rfl HX.out (by simp [Sty.cells]) (by kernel_rfl) rfl ?_; intro w2 hn2 hg2; have hn2' : Blk w2 w.heap.size 31 (({ y with i := false : Sty }).cells) := hn2; have HX2 := Lib.hid hn2'; have HB2 := Lib.hid (HB0.out.grown hg2 (by have := HS0.out; omega) (fun j hj => by injection hj with hj; omega)); have HZ2 : Hid (Blk w2 (w.heap.size + 1) 31 Sty.zero.cells) := Lib.hid ((hg2.block (w.heap.size + 1) (by have := HS0.out; omega) (fun h => by injection h with h; omega)).trans HZ.out); have HS2 := Lib.hid (show w.heap.size + 2 ≤ w2.heap.size by have := HS0.out; have := hg2.size; omega); clear hn2 hn2' hg2)
      | ((with_reducible refine at_dst 67 ?_); refine wpList_load_mid rfl _ _ rfl w.heap.size 0 rfl (({ y with i := false : Sty }).cells) _ (tswhole HX2.out) Tryz.underlying31 rfl tsty_size ?_)
      | ((with_reducible refine at_store 4 ?_); refine wpList_store_blk rfl _ _ _ rfl rfl (w.heap.size + 1) 0 _ Sty.zero.cells (({ y with i := false : Sty }).cells) rfl rfl HZ2.out (by simp [tsty_len]) tsty_size (tsty_one _) ?_; intro w9 hn9 hg9)
      )
    rw [HE.out]
    exact bodyPost_ret (results_c rfl rfl (tswhole hn9) Tryz.underlying31 rfl tsty_size) rfl ⟨rfl, HB2.out.grown hg9 (by have := HS2.out; omega) (fun j hj => by injection hj with hj; omega)⟩
  · obtain ⟨hlo, hhi⟩ := h
    have HE : Hid (styT y n = { y with f := n - 29 }) := Lib.hid (by unfold styT; rw [if_neg (by omega), if_neg (by omega), if_neg (by omega), if_neg (by omega), if_pos (by omega)])
    have q0 : (n == 0) = false := by have : n ≠ 0 := (by omega); simpa using this
    have q1 : (n == 1) = false := by have : n ≠ 1 := (by omega); simpa using this
    have q22 : (n == 22) = false := by have : n ≠ 22 := (by omega); simpa using this
    have q4 : (n == 4) = false := by have : n ≠ 4 := (by omega); simpa using this
    have q24 : (n == 24) = false := by have : n ≠ 24 := (by omega); simpa using this
    have q7 : (n == 7) = false := by have : n ≠ 7 := (by omega); simpa using this
    have q27 : (n == 27) = false := by have : n ≠ 27 := (by omega); simpa using this
    have q39 : (n == 39) = false := by have : n ≠ 39 := (by omega); simpa using this
    have q49 : (n == 49) = false := by have : n ≠ 49 := (by omega); simpa using this
    go_enter Tryz.func143, Tryz.ntmps143
    go_upto_region 1 with fail
    rw [← HW0.out]
    clear HW0
    go_wp2_with (first
      | ((with_reducible refine at_store 48 ?_); refine wpList_store_cell rfl _ _ _ rfl rfl w.heap.size 3 _ y.cells (.int .i64 (n - 29)) rfl rfl HX.out (by simp [Sty.cells]) (by kernel_rfl) rfl ?_; intro w2 hn2 hg2; have hn2' : Blk w2 w.heap.size 31 (({ y with f := n - 29 : Sty }).cells) := hn2; have HX2 := Lib.hid hn2'; have HB2 := Lib.hid (HB0.out.grown hg2 (by have := HS0.out; omega) (fun j hj => by injection hj with hj; omega)); have HZ2 : Hid (Blk w2 (w.heap.size + 1) 31 Sty.zero.cells) := Lib.hid ((hg2.block (w.heap.size + 1) (by have := HS0.out; omega) (fun h => by injection h with h; omega)).trans HZ.out); have HS2 := Lib.hid (show w.heap.size + 2 ≤ w2.heap.size by have := HS0.out; have := hg2.size; omega); clear hn2 hn2' hg2)
      | ((with_reducible refine at_dst 67 ?_); refine wpList_load_mid rfl _ _ rfl w.heap.size 0 rfl (({ y with f := n - 29 : Sty }).cells) _ (tswhole HX2.out) Tryz.underlying31 rfl tsty_size ?_)
      | ((with_reducible refine at_store 4 ?_); refine wpList_store_blk rfl _ _ _ rfl rfl (w.heap.size + 1) 0 _ Sty.zero.cells (({ y with f := n - 29 : Sty }).cells) rfl rfl HZ2.out (by simp [tsty_len]) tsty_size (tsty_one _) ?_; intro w9 hn9 hg9)
      )
    rw [HE.out]
    exact bodyPost_ret (results_c rfl rfl (tswhole hn9) Tryz.underlying31 rfl tsty_size) rfl ⟨rfl, HB2.out.grown hg9 (by have := HS2.out; omega) (fun j hj => by injection hj with hj; omega)⟩
  · subst h
    have HE : Hid (styT y 39 = { y with f := 0 }) := Lib.hid rfl
    go_enter Tryz.func143, Tryz.ntmps143
    go_upto_region 1 with fail
    rw [← HW0.out]
    clear HW0
    go_wp2_with (first
      | ((with_reducible refine at_store 52 ?_); refine wpList_store_cell rfl _ _ _ rfl rfl w.heap.size 3 _ y.cells (.int .i64 0) rfl rfl HX.out (by simp [Sty.cells]) (by kernel_rfl) rfl ?_; intro w2 hn2 hg2; have hn2' : Blk w2 w.heap.size 31 (({ y with f := 0 : Sty }).cells) := hn2; have HX2 := Lib.hid hn2'; have HB2 := Lib.hid (HB0.out.grown hg2 (by have := HS0.out; omega) (fun j hj => by injection hj with hj; omega)); have HZ2 : Hid (Blk w2 (w.heap.size + 1) 31 Sty.zero.cells) := Lib.hid ((hg2.block (w.heap.size + 1) (by have := HS0.out; omega) (fun h => by injection h with h; omega)).trans HZ.out); have HS2 := Lib.hid (show w.heap.size + 2 ≤ w2.heap.size by have := HS0.out; have := hg2.size; omega); clear hn2 hn2' hg2)
      | ((with_reducible refine at_dst 67 ?_); refine wpList_load_mid rfl _ _ rfl w.heap.size 0 rfl (({ y with f := 0 : Sty }).cells) _ (tswhole HX2.out) Tryz.underlying31 rfl tsty_size ?_)
      | ((with_reducible refine at_store 4 ?_); refine wpList_store_blk rfl _ _ _ rfl rfl (w.heap.size + 1) 0 _ Sty.zero.cells (({ y with f := 0 : Sty }).cells) rfl rfl HZ2.out (by simp [tsty_len]) tsty_size (tsty_one _) ?_; intro w9 hn9 hg9)
      )
    rw [HE.out]
    exact bodyPost_ret (results_c rfl rfl (tswhole hn9) Tryz.underlying31 rfl tsty_size) rfl ⟨rfl, HB2.out.grown hg9 (by have := HS2.out; omega) (fun j hj => by injection hj with hj; omega)⟩
  · obtain ⟨hlo, hhi⟩ := h
    have HE : Hid (styT y n = { y with g := n - 39 }) := Lib.hid (by unfold styT; rw [if_neg (by omega), if_neg (by omega), if_neg (by omega), if_neg (by omega), if_neg (by omega), if_neg (by omega), if_pos (by omega)])
    have q0 : (n == 0) = false := by have : n ≠ 0 := (by omega); simpa using this
    have q1 : (n == 1) = false := by have : n ≠ 1 := (by omega); simpa using this
    have q22 : (n == 22) = false := by have : n ≠ 22 := (by omega); simpa using this
    have q4 : (n == 4) = false := by have : n ≠ 4 := (by omega); simpa using this
    have q24 : (n == 24) = false := by have : n ≠ 24 := (by omega); simpa using this
    have q7 : (n == 7) = false := by have : n ≠ 7 := (by omega); simpa using this
    have q27 : (n == 27) = false := by have : n ≠ 27 := (by omega); simpa using this
    have q39 : (n == 39) = false := by have : n ≠ 39 := (by omega); simpa using this
    have q49 : (n == 49) = false := by have : n ≠ 49 := (by omega); simpa using this
    have r1 : 30 ≤ n := by omega
    have r2 : ¬ n ≤ 37 := by omega
    go_enter Tryz.func143, Tryz.ntmps143
    go_upto_region 1 with fail
    rw [← HW0.out]
    clear HW0
    go_wp2_with (first
      | ((with_reducible refine at_store 62 ?_); refine wpList_store_cell rfl _ _ _ rfl rfl w.heap.size 4 _ y.cells (.int .i64 (n - 39)) rfl rfl HX.out (by simp [Sty.cells]) (by kernel_rfl) rfl ?_; intro w2 hn2 hg2; have hn2' : Blk w2 w.heap.size 31 (({ y with g := n - 39 : Sty }).cells) := hn2; have HX2 := Lib.hid hn2'; have HB2 := Lib.hid (HB0.out.grown hg2 (by have := HS0.out; omega) (fun j hj => by injection hj with hj; omega)); have HZ2 : Hid (Blk w2 (w.heap.size + 1) 31 Sty.zero.cells) := Lib.hid ((hg2.block (w.heap.size + 1) (by have := HS0.out; omega) (fun h => by injection h with h; omega)).trans HZ.out); have HS2 := Lib.hid (show w.heap.size + 2 ≤ w2.heap.size by have := HS0.out; have := hg2.size; omega); clear hn2 hn2' hg2)
      | ((with_reducible refine at_dst 67 ?_); refine wpList_load_mid rfl _ _ rfl w.heap.size 0 rfl (({ y with g := n - 39 : Sty }).cells) _ (tswhole HX2.out) Tryz.underlying31 rfl tsty_size ?_)
      | ((with_reducible refine at_store 4 ?_); refine wpList_store_blk rfl _ _ _ rfl rfl (w.heap.size + 1) 0 _ Sty.zero.cells (({ y with g := n - 39 : Sty }).cells) rfl rfl HZ2.out (by simp [tsty_len]) tsty_size (tsty_one _) ?_; intro w9 hn9 hg9)
      )
    rw [HE.out]
    exact bodyPost_ret (results_c rfl rfl (tswhole hn9) Tryz.underlying31 rfl tsty_size) rfl ⟨rfl, HB2.out.grown hg9 (by have := HS2.out; omega) (fun j hj => by injection hj with hj; omega)⟩
  · subst h
    have HE : Hid (styT y 49 = { y with g := 0 }) := Lib.hid rfl
    go_enter Tryz.func143, Tryz.ntmps143
    go_upto_region 1 with fail
    rw [← HW0.out]
    clear HW0
    go_wp2_with (first
      | ((with_reducible refine at_store 66 ?_); refine wpList_store_cell rfl _ _ _ rfl rfl w.heap.size 4 _ y.cells (.int .i64 0) rfl rfl HX.out (by simp [Sty.cells]) (by kernel_rfl) rfl ?_; intro w2 hn2 hg2; have hn2' : Blk w2 w.heap.size 31 (({ y with g := 0 : Sty }).cells) := hn2; have HX2 := Lib.hid hn2'; have HB2 := Lib.hid (HB0.out.grown hg2 (by have := HS0.out; omega) (fun j hj => by injection hj with hj; omega)); have HZ2 : Hid (Blk w2 (w.heap.size + 1) 31 Sty.zero.cells) := Lib.hid ((hg2.block (w.heap.size + 1) (by have := HS0.out; omega) (fun h => by injection h with h; omega)).trans HZ.out); have HS2 := Lib.hid (show w.heap.size + 2 ≤ w2.heap.size by have := HS0.out; have := hg2.size; omega); clear hn2 hn2' hg2)
      | ((with_reducible refine at_dst 67 ?_); refine wpList_load_mid rfl _ _ rfl w.heap.size 0 rfl (({ y with g := 0 : Sty }).cells) _ (tswhole HX2.out) Tryz.underlying31 rfl tsty_size ?_)
      | ((with_reducible refine at_store 4 ?_); refine wpList_store_blk rfl _ _ _ rfl rfl (w.heap.size + 1) 0 _ Sty.zero.cells (({ y with g := 0 : Sty }).cells) rfl rfl HZ2.out (by simp [tsty_len]) tsty_size (tsty_one _) ?_; intro w9 hn9 hg9)
      )
    rw [HE.out]
    exact bodyPost_ret (results_c rfl rfl (tswhole hn9) Tryz.underlying31 rfl tsty_size) rfl ⟨rfl, HB2.out.grown hg9 (by have := HS2.out; omega) (fun j hj => by injection hj with hj; omega)⟩
  · have HE : Hid (styT y n = y) := Lib.hid (by unfold styT; rw [if_neg (by omega), if_neg (by omega), if_neg (by omega), if_neg (by omega), if_neg (by omega), if_neg (by omega), if_neg (by omega), if_neg (by omega)])
    have q0 : (n == 0) = false := by have : n ≠ 0 := (by omega); simpa using this
    have q1 : (n == 1) = false := by have : n ≠ 1 := (by omega); simpa using this
    have q22 : (n == 22) = false := by have : n ≠ 22 := (by omega); simpa using this
    have q4 : (n == 4) = false := by have : n ≠ 4 := (by omega); simpa using this
    have q24 : (n == 24) = false := by have : n ≠ 24 := (by omega); simpa using this
    have q7 : (n == 7) = false := by have : n ≠ 7 := (by omega); simpa using this
    have q27 : (n == 27) = false := by have : n ≠ 27 := (by omega); simpa using this
    have q39 : (n == 39) = false := by have : n ≠ 39 := (by omega); simpa using this
    have q49 : (n == 49) = false := by have : n ≠ 49 := (by omega); simpa using this
    have r1 : ¬ 30 ≤ n := by omega
    have r2 : ¬ 40 ≤ n := by omega
    clear h
    go_enter Tryz.func143, Tryz.ntmps143
    go_upto_region 1 with fail
    rw [← HW0.out]
    clear HW0
    go_wp2_with (first
      | ((with_reducible refine at_dst 67 ?_); refine wpList_load_mid rfl _ _ rfl w.heap.size 0 rfl y.cells _ (tswhole HX.out) Tryz.underlying31 rfl tsty_size ?_)
      | ((with_reducible refine at_store 4 ?_); refine wpList_store_blk rfl _ _ _ rfl rfl (w.heap.size + 1) 0 _ Sty.zero.cells y.cells rfl rfl HZ.out (by simp [tsty_len]) tsty_size (tsty_one _) ?_; intro w9 hn9 hg9)
      )
    rw [HE.out]
    exact bodyPost_ret (results_c rfl rfl (tswhole hn9) Tryz.underlying31 rfl tsty_size) rfl ⟨rfl, HB0.out.grown hg9 (by have := HS0.out; omega) (fun j hj => by injection hj with hj; omega)⟩
  · subst h
    have HE : Hid (styT y 38 = y) := Lib.hid rfl
    go_enter Tryz.func143, Tryz.ntmps143
    go_upto_region 1 with fail
    rw [← HW0.out]
    clear HW0
    go_wp2_with (first
      | ((with_reducible refine at_dst 67 ?_); refine wpList_load_mid rfl _ _ rfl w.heap.size 0 rfl y.cells _ (tswhole HX.out) Tryz.underlying31 rfl tsty_size ?_)
      | ((with_reducible refine at_store 4 ?_); refine wpList_store_blk rfl _ _ _ rfl rfl (w.heap.size + 1) 0 _ Sty.zero.cells y.cells rfl rfl HZ.out (by simp [tsty_len]) tsty_size (tsty_one _) ?_; intro w9 hn9 hg9)
      )
    rw [HE.out]
    exact bodyPost_ret (results_c rfl rfl (tswhole hn9) Tryz.underlying31 rfl tsty_size) rfl ⟨rfl, HB0.out.grown hg9 (by have := HS0.out; omega) (fun j hj => by injection hj with hj; omega)⟩
  · subst h
    have HE : Hid (styT y 48 = y) := Lib.hid rfl
    go_enter Tryz.func143, Tryz.ntmps143
    go_upto_region 1 with fail
    rw [← HW0.out]
    clear HW0
    go_wp2_with (first
      | ((with_reducible refine at_dst 67 ?_); refine wpList_load_mid rfl _ _ rfl w.heap.size 0 rfl y.cells _ (tswhole HX.out) Tryz.underlying31 rfl tsty_size ?_)
      | ((with_reducible refine at_store 4 ?_); refine wpList_store_blk rfl _ _ _ rfl rfl (w.heap.size + 1) 0 _ Sty.zero.cells y.cells rfl rfl HZ.out (by simp [tsty_len]) tsty_size (tsty_one _) ?_; intro w9 hn9 hg9)
      )
    rw [HE.out]
    exact bodyPost_ret (results_c rfl rfl (tswhole hn9) Tryz.underlying31 rfl tsty_size) rfl ⟨rfl, HB0.out.grown hg9 (by have := HS0.out; omega) (fun j hj => by injection hj with hj; omega)⟩
  · have HE : Hid (styT y n = y) := Lib.hid (by unfold styT; rw [if_neg (by omega), if_neg (by omega), if_neg (by omega), if_neg (by omega), if_neg (by omega), if_neg (by omega), if_neg (by omega), if_neg (by omega)])
    have q0 : (n == 0) = false := by have : n ≠ 0 := (by omega); simpa using this
    have q1 : (n == 1) = false := by have : n ≠ 1 := (by omega); simpa using this
    have q22 : (n == 22) = false := by have : n ≠ 22 := (by omega); simpa using this
    have q4 : (n == 4) = false := by have : n ≠ 4 := (by omega); simpa using this
    have q24 : (n == 24) = false := by have : n ≠ 24 := (by omega); simpa using this
    have q7 : (n == 7) = false := by have : n ≠ 7 := (by omega); simpa using this
    have q27 : (n == 27) = false := by have : n ≠ 27 := (by omega); simpa using this
    have q39 : (n == 39) = false := by have : n ≠ 39 := (by omega); simpa using this
    have q49 : (n == 49) = false := by have : n ≠ 49 := (by omega); simpa using this
    have r1 : 30 ≤ n := by omega
    have r2 : ¬ n ≤ 37 := by omega
    have r3 : 40 ≤ n := by omega
    have r4 : ¬ n ≤ 47 := by omega
    go_enter Tryz.func143, Tryz.ntmps143
    go_upto_region 1 with fail
    rw [← HW0.out]
    clear HW0
    go_wp2_with (first
      | ((with_reducible refine at_dst 67 ?_); refine wpList_load_mid rfl _ _ rfl w.heap.size 0 rfl y.cells _ (tswhole HX.out) Tryz.underlying31 rfl tsty_size ?_)
      | ((with_reducible refine at_store 4 ?_); refine wpList_store_blk rfl _ _ _ rfl rfl (w.heap.size + 1) 0 _ Sty.zero.cells y.cells rfl rfl HZ.out (by simp [tsty_len]) tsty_size (tsty_one _) ?_; intro w9 hn9 hg9)
      )
    rw [HE.out]
    exact bodyPost_ret (results_c rfl rfl (tswhole hn9) Tryz.underlying31 rfl tsty_size) rfl ⟨rfl, HB0.out.grown hg9 (by have := HS0.out; omega) (fun j hj => by injection hj with hj; omega)⟩


end Go.Proofs.YtfmkeeaenjeneaaGreatDoor
