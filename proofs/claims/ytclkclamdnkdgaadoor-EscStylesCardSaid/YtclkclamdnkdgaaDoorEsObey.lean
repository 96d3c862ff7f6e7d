/-
  Walks: the reference's Obey and Turned.
-/
import Derived.Test.YtclkclamdnkdgaaDoorEsStyle
namespace Go.Proofs.YtclkclamdnkdgaaDoor
open Go.RowKit
set_option linter.unusedVariables false
set_option linter.unusedSimpArgs false

theorem Blk.swhole {w : World} {g : Nat} {t : TypeId} {cs : List Value} (h : Blk w g t cs) : w.rangeAt g 0 cs := h.range 0 cs (fun j v hv => by simpa using hv)
theorem sgetD_eq {v : Value} {tmps : Array Value} {a : Nat} (h : tmps.getD a undef = v) : tmps[a]?.getD undef = v := by simpa using h
theorem sresults_c {fn : Func} {tmps : Array Value} {a t : Nat} {ad : Nat} {cs : List Value} {w : World} {d : TypeDesc} (hf : fn.results = #[.cell a t]) (ha : tmps.getD a undef = .pointer (some ⟨ad, 0, none⟩))
    (hc : w.rangeAt ad 0 cs) (hu : Tryd.prog.underlying t = some d) (hd : d.isRow = true) (hi : (Tryd.prog.info? t).map (·.size) = some cs.length) : (results fn tmps).run Tryd.prog w = .ok (.agg cs.toArray) w := by
  have hl := run_loadVar_mid (P := Tryd.prog) w ad 0 t cs d hc hu hd hi
  have ha' := sgetD_eq ha
  unfold results
  simp [hf, ha', asAddr, hl]

set_option maxRecDepth 100000 in
set_option maxHeartbeats 16000000 in
theorem obey_any (y : Sty) (n : Int) (h0 : 0 ≤ n) (h1 : n ≤ 9999) (w : World) :
    Calls Tryd.prog 47 #[y.val, .int .i64 n] w fun e w' => e = .returned (obey y n).val ∧ Below w.heap.size w w' := by
  have HX := Lib.hid ((Blk.new w 33 y.cells).alloc (.cells Sty.zero.cells.toArray 33))
  have HZ : Hid (Blk ((w.alloc (.cells y.cells.toArray 33)).alloc (.cells Sty.zero.cells.toArray 33)) (w.heap.size + 1) 33 Sty.zero.cells) := Lib.hid (by
    have := Blk.new (w.alloc (.cells y.cells.toArray 33)) 33 Sty.zero.cells
    simpa using this)
  have HB0 := Lib.hid (((Below.refl w.heap.size w).alloc (Nat.le_refl _) (.cells y.cells.toArray 33)).alloc (by simp) (.cells Sty.zero.cells.toArray 33))
  have hs0 : ((w.alloc (.cells y.cells.toArray 33)).alloc (.cells Sty.zero.cells.toArray 33)).heap.size = w.heap.size + 2 := by simp
  have HS0 := Lib.hid hs0
  clear hs0
  obtain ⟨W0, hW0⟩ : ∃ W, W = (w.alloc (.cells #[.bool y.b, .bool y.u, .bool y.i, .int .i64 y.f, .int .i64 y.g] 33)).alloc (.cells #[.bool false, .bool false, .bool false, .int .i64 0, .int .i64 0] 33) := ⟨_, rfl⟩
  have HX : Hid (Blk W0 w.heap.size 33 y.cells) := Lib.hid (by rw [hW0]; exact HX.out)
  have HZ : Hid (Blk W0 (w.heap.size + 1) 33 Sty.zero.cells) := Lib.hid (by rw [hW0]; exact HZ.out)
  have HB0 : Hid (Below w.heap.size w W0) := Lib.hid (by rw [hW0]; exact HB0.out)
  have HS0 : Hid (W0.heap.size = w.heap.size + 2) := Lib.hid (by rw [hW0]; exact HS0.out)
  have HW0 := Lib.hid hW0
  clear hW0
  show Calls Tryd.prog 47 #[.agg #[.bool y.b, .bool y.u, .bool y.i, .int .i64 y.f, .int .i64 y.g], .int .i64 n] w _
  have hc : (n = 0) ∨ (n = 1) ∨ (n = 4) ∨ (n = 7) ∨ (30 ≤ n ∧ n ≤ 37) ∨ (n = 39) ∨ (40 ≤ n ∧ n ≤ 47) ∨ (n = 49) ∨ ((2 ≤ n ∧ n ≤ 3) ∨ (5 ≤ n ∧ n ≤ 6) ∨ (8 ≤ n ∧ n < 30)) ∨ (n = 38) ∨ (n = 48) ∨ (50 ≤ n) := by omega
  rcases hc with h | h | h | h | h | h | h | h | h | h | h | h
  · subst h
    have HE : Hid (obey y 0 = Sty.zero) := Lib.hid rfl
    go_enter Tryd.func47, Tryd.ntmps47
    go_upto_region 1 with fail
    rw [← HW0.out]
    clear HW0
    go_wp2_with (first
      | ((with_reducible refine at_store 4 ?_); refine wpList_store_blk rfl _ _ _ rfl rfl (w.heap.size + 1) 0 _ Sty.zero.cells Sty.zero.cells rfl rfl HZ.out (by simp [Sty.len]) sty_size Sty.zero.one ?_; intro w9 hn9 hg9)
      )
    rw [HE.out]
    exact bodyPost_ret (sresults_c rfl rfl (Blk.swhole hn9) Tryd.underlying33 rfl sty_size) rfl ⟨rfl, HB0.out.grown hg9 (by have := HS0.out; omega) (fun j hj => by injection hj with hj; omega)⟩
  · subst h
    have HE : Hid (obey y 1 = { y with b := true }) := Lib.hid rfl
    go_enter Tryd.func47, Tryd.ntmps47
    go_upto_region 1 with fail
    rw [← HW0.out]
    clear HW0
    go_wp2_with (first
      | ((with_reducible refine at_store 12 ?_); refine wpList_store_cell rfl _ _ _ rfl rfl w.heap.size 0 _ y.cells (.bool true) rfl rfl HX.out (by simp [Sty.cells]) (by kernel_rfl) rfl ?_; intro w2 hn2 hg2; have hn2' : Blk w2 w.heap.size 33 (({ y with b := true : Sty }).cells) := hn2; have HX2 := Lib.hid hn2'; have HB2 := Lib.hid (HB0.out.grown hg2 (by have := HS0.out; omega) (fun j hj => by injection hj with hj; omega)); have HZ2 : Hid (Blk w2 (w.heap.size + 1) 33 Sty.zero.cells) := Lib.hid ((hg2.block (w.heap.size + 1) (by have := HS0.out; omega) (fun h => by injection h with h; omega)).trans HZ.out); have HS2 := Lib.hid (show w.heap.size + 2 ≤ w2.heap.size by have := HS0.out; have := hg2.size; omega); clear hn2 hn2' hg2)
      | ((with_reducible refine at_dst 49 ?_); refine wpList_load_mid rfl _ _ rfl w.heap.size 0 rfl (({ y with b := true : Sty }).cells) _ HX2.out.swhole Tryd.underlying33 rfl sty_size ?_)
      | ((with_reducible refine at_store 4 ?_); refine wpList_store_blk rfl _ _ _ rfl rfl (w.heap.size + 1) 0 _ Sty.zero.cells (({ y with b := true : Sty }).cells) rfl rfl HZ2.out (by simp [Sty.len]) sty_size (Sty.one _) ?_; intro w9 hn9 hg9)
      )
    rw [HE.out]
    exact bodyPost_ret (sresults_c rfl rfl (Blk.swhole hn9) Tryd.underlying33 rfl sty_size) rfl ⟨rfl, HB2.out.grown hg9 (by have := HS2.out; omega) (fun j hj => by injection hj with hj; omega)⟩
  · subst h
    have HE : Hid (obey y 4 = { y with u := true }) := Lib.hid rfl
    go_enter Tryd.func47, Tryd.ntmps47
    go_upto_region 1 with fail
    rw [← HW0.out]
    clear HW0
    go_wp2_with (first
      | ((with_reducible refine at_store 16 ?_); refine wpList_store_cell rfl _ _ _ rfl rfl w.heap.size 1 _ y.cells (.bool true) rfl rfl HX.out (by simp [Sty.cells]) (by kernel_rfl) rfl ?_; intro w2 hn2 hg2; have hn2' : Blk w2 w.heap.size 33 (({ y with u := true : Sty }).cells) := hn2; have HX2 := Lib.hid hn2'; have HB2 := Lib.hid (HB0.out.grown hg2 (by have := HS0.out; omega) (fun j hj => by injection hj with hj; omega)); have HZ2 : Hid (Blk w2 (w.heap.size + 1) 33 Sty.zero.cells) := Lib.hid ((hg2.block (w.heap.size + 1) (by have := HS0.out; omega) (fun h => by injection h with h; omega)).trans HZ.out); have HS2 := Lib.hid (show w.heap.size + 2 ≤ w2.heap.size by have := HS0.out; have := hg2.size; omega); clear hn2 hn2' hg2)
      | ((with_reducible refine at_dst 49 ?_); refine wpList_load_mid rfl _ _ rfl w.heap.size 0 rfl (({ y with u := true : Sty }).cells) _ HX2.out.swhole Tryd.underlying33 rfl sty_size ?_)
      | ((with_reducible refine at_store 4 ?_); refine wpList_store_blk rfl _ _ _ rfl rfl (w.heap.size + 1) 0 _ Sty.zero.cells (({ y with u := true : Sty }).cells) rfl rfl HZ2.out (by simp [Sty.len]) sty_size (Sty.one _) ?_; intro w9 hn9 hg9)
      )
    rw [HE.out]
    exact bodyPost_ret (sresults_c rfl rfl (Blk.swhole hn9) Tryd.underlying33 rfl sty_size) rfl ⟨rfl, HB2.out.grown hg9 (by have := HS2.out; omega) (fun j hj => by injection hj with hj; omega)⟩
  · subst h
    have HE : Hid (obey y 7 = { y with i := true }) := Lib.hid rfl
    go_enter Tryd.func47, Tryd.ntmps47
    go_upto_region 1 with fail
    rw [← HW0.out]
    clear HW0
    go_wp2_with (first
      | ((with_reducible refine at_store 20 ?_); refine wpList_store_cell rfl _ _ _ rfl rfl w.heap.size 2 _ y.cells (.bool true) rfl rfl HX.out (by simp [Sty.cells]) (by kernel_rfl) rfl ?_; intro w2 hn2 hg2; have hn2' : Blk w2 w.heap.size 33 (({ y with i := true : Sty }).cells) := hn2; have HX2 := Lib.hid hn2'; have HB2 := Lib.hid (HB0.out.grown hg2 (by have := HS0.out; omega) (fun j hj => by injection hj with hj; omega)); have HZ2 : Hid (Blk w2 (w.heap.size + 1) 33 Sty.zero.cells) := Lib.hid ((hg2.block (w.heap.size + 1) (by have := HS0.out; omega) (fun h => by injection h with h; omega)).trans HZ.out); have HS2 := Lib.hid (show w.heap.size + 2 ≤ w2.heap.size by have := HS0.out; have := hg2.size; omega); clear hn2 hn2' hg2)
      | ((with_reducible refine at_dst 49 ?_); refine wpList_load_mid rfl _ _ rfl w.heap.size 0 rfl (({ y with i := true : Sty }).cells) _ HX2.out.swhole Tryd.underlying33 rfl sty_size ?_)
      | ((with_reducible refine at_store 4 ?_); refine wpList_store_blk rfl _ _ _ rfl rfl (w.heap.size + 1) 0 _ Sty.zero.cells (({ y with i := true : Sty }).cells) rfl rfl HZ2.out (by simp [Sty.len]) sty_size (Sty.one _) ?_; intro w9 hn9 hg9)
      )
    rw [HE.out]
    exact bodyPost_ret (sresults_c rfl rfl (Blk.swhole hn9) Tryd.underlying33 rfl sty_size) rfl ⟨rfl, HB2.out.grown hg9 (by have := HS2.out; omega) (fun j hj => by injection hj with hj; omega)⟩
  · obtain ⟨hlo, hhi⟩ := h
    have HE : Hid (obey y n = { y with f := n - 29 }) := Lib.hid (by unfold obey; rw [if_neg (by omega), if_neg (by omega), if_neg (by omega), if_neg (by omega), if_pos (by omega)])
    have q0 : (n == 0) = false := by have : n ≠ 0 := (by omega); simpa using this
    have q1 : (n == 1) = false := by have : n ≠ 1 := (by omega); simpa using this
    have q4 : (n == 4) = false := by have : n ≠ 4 := (by omega); simpa using this
    have q7 : (n == 7) = false := by have : n ≠ 7 := (by omega); simpa using this
    have q39 : (n == 39) = false := by have : n ≠ 39 := (by omega); simpa using this
    have q49 : (n == 49) = false := by have : n ≠ 49 := (by omega); simpa using this
    go_enter Tryd.func47, Tryd.ntmps47
    go_upto_region 1 with fail
    rw [← HW0.out]
    clear HW0
    go_wp2_with (first
      | ((with_reducible refine at_store 30 ?_); refine wpList_store_cell rfl _ _ _ rfl rfl w.heap.size 3 _ y.cells (.int .i64 (n - 29)) rfl rfl HX.out (by simp [Sty.cells]) (by kernel_rfl) rfl ?_; intro w2 hn2 hg2; have hn2' : Blk w2 w.heap.size 33 (({ y with f := n - 29 : Sty }).cells) := hn2; have HX2 := Lib.hid hn2'; have HB2 := Lib.hid (HB0.out.grown hg2 (by have := HS0.out; omega) (fun j hj => by injection hj with hj; omega)); have HZ2 : Hid (Blk w2 (w.heap.size + 1) 33 Sty.zero.cells) := Lib.hid ((hg2.block (w.heap.size + 1) (by have := HS0.out; omega) (fun h => by injection h with h; omega)).trans HZ.out); have HS2 := Lib.hid (show w.heap.size + 2 ≤ w2.heap.size by have := HS0.out; have := hg2.size; omega); clear hn2 hn2' hg2)
      | ((with_reducible refine at_dst 49 ?_); refine wpList_load_mid rfl _ _ rfl w.heap.size 0 rfl (({ y with f := n - 29 : Sty }).cells) _ HX2.out.swhole Tryd.underlying33 rfl sty_size ?_)
      | ((with_reducible refine at_store 4 ?_); refine wpList_store_blk rfl _ _ _ rfl rfl (w.heap.size + 1) 0 _ Sty.zero.cells (({ y with f := n - 29 : Sty }).cells) rfl rfl HZ2.out (by simp [Sty.len]) sty_size (Sty.one _) ?_; intro w9 hn9 hg9)
      )
    rw [HE.out]
    exact bodyPost_ret (sresults_c rfl rfl (Blk.swhole hn9) Tryd.underlying33 rfl sty_size) rfl ⟨rfl, HB2.out.grown hg9 (by have := HS2.out; omega) (fun j hj => by injection hj with hj; omega)⟩
  · subst h
    have HE : Hid (obey y 39 = { y with f := 0 }) := Lib.hid rfl
    go_enter Tryd.func47, Tryd.ntmps47
    go_upto_region 1 with fail
    rw [← HW0.out]
    clear HW0
    go_wp2_with (first
      | ((with_reducible refine at_store 34 ?_); refine wpList_store_cell rfl _ _ _ rfl rfl w.heap.size 3 _ y.cells (.int .i64 0) rfl rfl HX.out (by simp [Sty.cells]) (by kernel_rfl) rfl ?_; intro w2 hn2 hg2; have hn2' : Blk w2 w.heap.size 33 (({ y with f := 0 : Sty }).cells) := hn2; have HX2 := Lib.hid hn2'; have HB2 := Lib.hid (HB0.out.grown hg2 (by have := HS0.out; omega) (fun j hj => by injection hj with hj; omega)); have HZ2 : Hid (Blk w2 (w.heap.size + 1) 33 Sty.zero.cells) := Lib.hid ((hg2.block (w.heap.size + 1) (by have := HS0.out; omega) (fun h => by injection h with h; omega)).trans HZ.out); have HS2 := Lib.hid (show w.heap.size + 2 ≤ w2.heap.size by have := HS0.out; have := hg2.size; omega); clear hn2 hn2' hg2)
      | ((with_reducible refine at_dst 49 ?_); refine wpList_load_mid rfl _ _ rfl w.heap.size 0 rfl (({ y with f := 0 : Sty }).cells) _ HX2.out.swhole Tryd.underlying33 rfl sty_size ?_)
      | ((with_reducible refine at_store 4 ?_); refine wpList_store_blk rfl _ _ _ rfl rfl (w.heap.size + 1) 0 _ Sty.zero.cells (({ y with f := 0 : Sty }).cells) rfl rfl HZ2.out (by simp [Sty.len]) sty_size (Sty.one _) ?_; intro w9 hn9 hg9)
      )
    rw [HE.out]
    exact bodyPost_ret (sresults_c rfl rfl (Blk.swhole hn9) Tryd.underlying33 rfl sty_size) rfl ⟨rfl, HB2.out.grown hg9 (by have := HS2.out; omega) (fun j hj => by injection hj with hj; omega)⟩
  · obtain ⟨hlo, hhi⟩ := h
    have HE : Hid (obey y n = { y with g := n - 39 }) := Lib.hid (by unfold obey; rw [if_neg (by omega), if_neg (by omega), if_neg (by omega), if_neg (by omega), if_neg (by omega), if_neg (by omega), if_pos (by omega)])
    have q0 : (n == 0) = false := by have : n ≠ 0 := (by omega); simpa using this
    have q1 : (n == 1) = false := by have : n ≠ 1 := (by omega); simpa using this
    have q4 : (n == 4) = false := by have : n ≠ 4 := (by omega); simpa using this
    have q7 : (n == 7) = false := by have : n ≠ 7 := (by omega); simpa using this
    have q39 : (n == 39) = false := by have : n ≠ 39 := (by omega); simpa using this
    have q49 : (n == 49) = false := by have : n ≠ 49 := (by omega); simpa using this
    have r1 : 30 ≤ n := by omega
    have r2 : ¬ n ≤ 37 := by omega
    go_enter Tryd.func47, Tryd.ntmps47
    go_upto_region 1 with fail
    rw [← HW0.out]
    clear HW0
    go_wp2_with (first
      | ((with_reducible refine at_store 44 ?_); refine wpList_store_cell rfl _ _ _ rfl rfl w.heap.size 4 _ y.cells (.int .i64 (n - 39)) rfl rfl HX.out (by simp [Sty.cells]) (by kernel_rfl) rfl ?_; intro w2 hn2 hg2; have hn2' : Blk w2 w.heap.size 33 (({ y with g := n - 39 : Sty }).cells) := hn2; have HX2 := Lib.hid hn2'; have HB2 := Lib.hid (HB0.out.grown hg2 (by have := HS0.out; omega) (fun j hj => by injection hj with hj; omega)); have HZ2 : Hid (Blk w2 (w.heap.size + 1) 33 Sty.zero.cells) := Lib.hid ((hg2.block (w.heap.size + 1) (by have := HS0.out; omega) (fun h => by injection h with h; omega)).trans HZ.out); have HS2 := Lib.hid (show w.heap.size + 2 ≤ w2.heap.size by have := HS0.out; have := hg2.size; omega); clear hn2 hn2' hg2)
      | ((with_reducible refine at_dst 49 ?_); refine wpList_load_mid rfl _ _ rfl w.heap.size 0 rfl (({ y with g := n - 39 : Sty }).cells) _ HX2.out.swhole Tryd.underlying33 rfl sty_size ?_)
      | ((with_reducible refine at_store 4 ?_); refine wpList_store_blk rfl _ _ _ rfl rfl (w.heap.size + 1) 0 _ Sty.zero.cells (({ y with g := n - 39 : Sty }).cells) rfl rfl HZ2.out (by simp [Sty.len]) sty_size (Sty.one _) ?_; intro w9 hn9 hg9)
      )
    rw [HE.out]
    exact bodyPost_ret (sresults_c rfl rfl (Blk.swhole hn9) Tryd.underlying33 rfl sty_size) rfl ⟨rfl, HB2.out.grown hg9 (by have := HS2.out; omega) (fun j hj => by injection hj with hj; omega)⟩
  · subst h
    have HE : Hid (obey y 49 = { y with g := 0 }) := Lib.hid rfl
    go_enter Tryd.func47, Tryd.ntmps47
    go_upto_region 1 with fail
    rw [← HW0.out]
    clear HW0
    go_wp2_with (first
      | ((with_reducible refine at_store 48 ?_); refine wpList_store_cell rfl _ _ _ rfl rfl w.heap.size 4 _ y.cells (.int .i64 0) rfl rfl HX.out (by simp [Sty.cells]) (by kernel_rfl) rfl ?_; intro w2 hn2 hg2; have hn2' : Blk w2 w.heap.size 33 (({ y with g := 0 : Sty }).cells) := hn2; have HX2 := Lib.hid hn2'; have HB2 := Lib.hid (HB0.out.grown hg2 (by have := HS0.out; omega) (fun j hj => by injection hj with hj; omega)); have HZ2 : Hid (Blk w2 (w.heap.size + 1) 33 Sty.zero.cells) := Lib.hid ((hg2.block (w.heap.size + 1) (by have := HS0.out; omega) (fun h => by injection h with h; omega)).trans HZ.out); have HS2 := Lib.hid (show w.heap.size + 2 ≤ w2.heap.size by have := HS0.out; have := hg2.size; omega); clear hn2 hn2' hg2)
      | ((with_reducible refine at_dst 49 ?_); refine wpList_load_mid rfl _ _ rfl w.heap.size 0 rfl (({ y with g := 0 : Sty }).cells) _ HX2.out.swhole Tryd.underlying33 rfl sty_size ?_)
      | ((with_reducible refine at_store 4 ?_); refine wpList_store_blk rfl _ _ _ rfl rfl (w.heap.size + 1) 0 _ Sty.zero.cells (({ y with g := 0 : Sty }).cells) rfl rfl HZ2.out (by simp [Sty.len]) sty_size (Sty.one _) ?_; intro w9 hn9 hg9)
      )
    rw [HE.out]
    exact bodyPost_ret (sresults_c rfl rfl (Blk.swhole hn9) Tryd.underlying33 rfl sty_size) rfl ⟨rfl, HB2.out.grown hg9 (by have := HS2.out; omega) (fun j hj => by injection hj with hj; omega)⟩
  · have HE : Hid (obey y n = y) := Lib.hid (by unfold obey; rw [if_neg (by omega), if_neg (by omega), if_neg (by omega), if_neg (by omega), if_neg (by omega), if_neg (by omega), if_neg (by omega), if_neg (by omega)])
    have q0 : (n == 0) = false := by have : n ≠ 0 := (by omega); simpa using this
    have q1 : (n == 1) = false := by have : n ≠ 1 := (by omega); simpa using this
    have q4 : (n == 4) = false := by have : n ≠ 4 := (by omega); simpa using this
    have q7 : (n == 7) = false := by have : n ≠ 7 := (by omega); simpa using this
    have q39 : (n == 39) = false := by have : n ≠ 39 := (by omega); simpa using this
    have q49 : (n == 49) = false := by have : n ≠ 49 := (by omega); simpa using this
    have r1 : ¬ 30 ≤ n := by omega
    have r2 : ¬ 40 ≤ n := by omega
    clear h
    go_enter Tryd.func47, Tryd.ntmps47
    go_upto_region 1 with fail
    rw [← HW0.out]
    clear HW0
    go_wp2_with (first
      | ((with_reducible refine at_dst 49 ?_); refine wpList_load_mid rfl _ _ rfl w.heap.size 0 rfl y.cells _ HX.out.swhole Tryd.underlying33 rfl sty_size ?_)
      | ((with_reducible refine at_store 4 ?_); refine wpList_store_blk rfl _ _ _ rfl rfl (w.heap.size + 1) 0 _ Sty.zero.cells y.cells rfl rfl HZ.out (by simp [Sty.len]) sty_size y.one ?_; intro w9 hn9 hg9)
      )
    rw [HE.out]
    exact bodyPost_ret (sresults_c rfl rfl (Blk.swhole hn9) Tryd.underlying33 rfl sty_size) rfl ⟨rfl, HB0.out.grown hg9 (by have := HS0.out; omega) (fun j hj => by injection hj with hj; omega)⟩
  · subst h
    have HE : Hid (obey y 38 = y) := Lib.hid rfl
    go_enter Tryd.func47, Tryd.ntmps47
    go_upto_region 1 with fail
    rw [← HW0.out]
    clear HW0
    go_wp2_with (first
      | ((with_reducible refine at_dst 49 ?_); refine wpList_load_mid rfl _ _ rfl w.heap.size 0 rfl y.cells _ HX.out.swhole Tryd.underlying33 rfl sty_size ?_)
      | ((with_reducible refine at_store 4 ?_); refine wpList_store_blk rfl _ _ _ rfl rfl (w.heap.size + 1) 0 _ Sty.zero.cells y.cells rfl rfl HZ.out (by simp [Sty.len]) sty_size y.one ?_; intro w9 hn9 hg9)
      )
    rw [HE.out]
    exact bodyPost_ret (sresults_c rfl rfl (Blk.swhole hn9) Tryd.underlying33 rfl sty_size) rfl ⟨rfl, HB0.out.grown hg9 (by have := HS0.out; omega) (fun j hj => by injection hj with hj; omega)⟩
  · subst h
    have HE : Hid (obey y 48 = y) := Lib.hid rfl
    go_enter Tryd.func47, Tryd.ntmps47
    go_upto_region 1 with fail
    rw [← HW0.out]
    clear HW0
    go_wp2_with (first
      | ((with_reducible refine at_dst 49 ?_); refine wpList_load_mid rfl _ _ rfl w.heap.size 0 rfl y.cells _ HX.out.swhole Tryd.underlying33 rfl sty_size ?_)
      | ((with_reducible refine at_store 4 ?_); refine wpList_store_blk rfl _ _ _ rfl rfl (w.heap.size + 1) 0 _ Sty.zero.cells y.cells rfl rfl HZ.out (by simp [Sty.len]) sty_size y.one ?_; intro w9 hn9 hg9)
      )
    rw [HE.out]
    exact bodyPost_ret (sresults_c rfl rfl (Blk.swhole hn9) Tryd.underlying33 rfl sty_size) rfl ⟨rfl, HB0.out.grown hg9 (by have := HS0.out; omega) (fun j hj => by injection hj with hj; omega)⟩
  · have HE : Hid (obey y n = y) := Lib.hid (by unfold obey; rw [if_neg (by omega), if_neg (by omega), if_neg (by omega), if_neg (by omega), if_neg (by omega), if_neg (by omega), if_neg (by omega), if_neg (by omega)])
    have q0 : (n == 0) = false := by have : n ≠ 0 := (by omega); simpa using this
    have q1 : (n == 1) = false := by have : n ≠ 1 := (by omega); simpa using this
    have q4 : (n == 4) = false := by have : n ≠ 4 := (by omega); simpa using this
    have q7 : (n == 7) = false := by have : n ≠ 7 := (by omega); simpa using this
    have q39 : (n == 39) = false := by have : n ≠ 39 := (by omega); simpa using this
    have q49 : (n == 49) = false := by have : n ≠ 49 := (by omega); simpa using this
    have r1 : 30 ≤ n := by omega
    have r2 : ¬ n ≤ 37 := by omega
    have r3 : 40 ≤ n := by omega
    have r4 : ¬ n ≤ 47 := by omega
    go_enter Tryd.func47, Tryd.ntmps47
    go_upto_region 1 with fail
    rw [← HW0.out]
    clear HW0
    go_wp2_with (first
      | ((with_reducible refine at_dst 49 ?_); refine wpList_load_mid rfl _ _ rfl w.heap.size 0 rfl y.cells _ HX.out.swhole Tryd.underlying33 rfl sty_size ?_)
      | ((with_reducible refine at_store 4 ?_); refine wpList_store_blk rfl _ _ _ rfl rfl (w.heap.size + 1) 0 _ Sty.zero.cells y.cells rfl rfl HZ.out (by simp [Sty.len]) sty_size y.one ?_; intro w9 hn9 hg9)
      )
    rw [HE.out]
    exact bodyPost_ret (sresults_c rfl rfl (Blk.swhole hn9) Tryd.underlying33 rfl sty_size) rfl ⟨rfl, HB0.out.grown hg9 (by have := HS0.out; omega) (fun j hj => by injection hj with hj; omega)⟩
end Go.Proofs.YtclkclamdnkdgaaDoor
