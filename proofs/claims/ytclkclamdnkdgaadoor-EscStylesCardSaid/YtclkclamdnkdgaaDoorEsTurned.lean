/-
  Walk: the reference's Turned.
-/
import Derived.Test.YtclkclamdnkdgaaDoorEsObey
namespace Go.Proofs.YtclkclamdnkdgaaDoor
open Go.RowKit
set_option linter.unusedVariables false
set_option linter.unusedSimpArgs false

theorem turn_yes (n : Int) (y : Sty) (l : List UInt8) (k : Nat) (hk : k < l.length) (h : 48 ≤ (l[k].toNat : Int) ∧ (l[k].toNat : Int) ≤ 57) : turnF n y (l.drop k) = turnF (min 9999 (10 * n + ((l[k].toNat : Int) - 48))) y (l.drop (k + 1)) := by
  rw [List.drop_eq_getElem_cons hk, turnF, if_pos ⟨show (48 : Nat) ≤ l[k].toNat by omega, show l[k].toNat ≤ (57 : Nat) by omega⟩]
theorem turn_no (n : Int) (y : Sty) (l : List UInt8) (k : Nat) (hk : k < l.length) (h : ¬ (48 ≤ (l[k].toNat : Int) ∧ (l[k].toNat : Int) ≤ 57)) : turnF n y (l.drop k) = turnF 0 (obey y n) (l.drop (k + 1)) := by
  rw [List.drop_eq_getElem_cons hk, turnF, if_neg (fun e => h ⟨by have : (48 : Nat) ≤ l[k].toNat := e.1; omega, by have : l[k].toNat ≤ (57 : Nat) := e.2; omega⟩)]
theorem u8_bd' (c : UInt8) : 0 ≤ (c.toNat : Int) ∧ (c.toNat : Int) ≤ 255 := by
  have := c.toNat_lt
  omega

set_option maxRecDepth 100000 in
set_option maxHeartbeats 8000000 in
theorem turned_any (y : Sty) (l : List UInt8) (hl : l.length ≤ 100000) (w : World) :
    Calls Tryd.prog 29 #[y.val, .string ⟨l.toArray⟩] w fun e w' => e = .returned (turnF 0 y (l.drop 2)).val ∧ Below w.heap.size w w' := by
  have HX := Lib.hid ((Blk.new w 33 y.cells).alloc (.cells Sty.zero.cells.toArray 33))
  have HZ : Hid (Blk ((w.alloc (.cells y.cells.toArray 33)).alloc (.cells Sty.zero.cells.toArray 33)) (w.heap.size + 1) 33 Sty.zero.cells) := Lib.hid (by
    have := Blk.new (w.alloc (.cells y.cells.toArray 33)) 33 Sty.zero.cells
    simpa using this)
  have HB0 := Lib.hid (((Below.refl w.heap.size w).alloc (Nat.le_refl _) (.cells y.cells.toArray 33)).alloc (by simp) (.cells Sty.zero.cells.toArray 33))
  have HS0 : Hid (((w.alloc (.cells y.cells.toArray 33)).alloc (.cells Sty.zero.cells.toArray 33)).heap.size = w.heap.size + 2) := Lib.hid (by simp)
  obtain ⟨W0, hW0⟩ : ∃ W, W = (w.alloc (.cells #[.bool y.b, .bool y.u, .bool y.i, .int .i64 y.f, .int .i64 y.g] 33)).alloc (.cells #[.bool false, .bool false, .bool false, .int .i64 0, .int .i64 0] 33) := ⟨_, rfl⟩
  have HX : Hid (Blk W0 w.heap.size 33 y.cells) := Lib.hid (by rw [hW0]; exact HX.out)
  have HZ : Hid (Blk W0 (w.heap.size + 1) 33 Sty.zero.cells) := Lib.hid (by rw [hW0]; exact HZ.out)
  have HB0 : Hid (Below w.heap.size w W0) := Lib.hid (by rw [hW0]; exact HB0.out)
  have HS0 : Hid (W0.heap.size = w.heap.size + 2) := Lib.hid (by rw [hW0]; exact HS0.out)
  have HW0 := Lib.hid hW0
  clear hW0
  obtain ⟨s, hs⟩ : ∃ s : ByteArray, s = ⟨l.toArray⟩ := ⟨_, rfl⟩
  have hsz : s.size = l.length := by rw [hs, es_size]
  have HG := Lib.hid (show ∀ (k : Nat) (hk : k < l.length) (h : k < s.size), s[k] = l[k] by intro k hk h; subst hs; rfl)
  rw [← hs]
  clear hs
  obtain ⟨Y, hY⟩ : ∃ Y, Y = turnF 0 y (l.drop 2) := ⟨_, rfl⟩
  have HY := Lib.hid hY
  rw [← hY]
  clear hY
  show Calls Tryd.prog 29 #[.agg #[.bool y.b, .bool y.u, .bool y.i, .int .i64 y.f, .int .i64 y.g], .string s] w _
  go_enter Tryd.func29, Tryd.ntmps29
  go_upto_region 1 with fail
  rw [← HW0.out]
  clear HW0
  go_wp2_with fail
  go_loopw [5, 6] (fun v5 v6 wr => ∃ (k : Nat) (n : Int) (y' : Sty), v5 = .int .i64 n ∧ v6 = .int .i64 k ∧ 0 ≤ n ∧ n ≤ 9999 ∧ turnF n y' (l.drop k) = Y ∧ Blk wr w.heap.size 33 y'.cells ∧ Blk wr (w.heap.size + 1) 33 Sty.zero.cells ∧ Below w.heap.size w wr ∧ w.heap.size + 2 ≤ wr.heap.size) (fun _ v6 _ => l.length - (intOf v6).toNat)
  case atStart => exact ⟨2, 0, y, rfl, rfl, by omega, by omega, HY.out.symm, HX.out, HZ.out, HB0.out, by have := HS0.out; omega⟩
  case round =>
    obtain ⟨k, n, y', rfl, rfl, hn0, hn1, ht, hX, hZ, hB, hz⟩ := hrel
    have HX := Lib.hid hX
    have HZ := Lib.hid hZ
    have HB := Lib.hid hB
    have HT := Lib.hid ht
    clear hX hZ hB ht HB0 HS0
    by_cases hlt : k < l.length
    · have hki : (k : Int) < (s.size : Int) := by omega
      have hg := HG.out k hlt (by omega)
      have hbd := u8_bd' l[k]
      have H1 := Lib.hid (turn_yes n y' l k hlt)
      have H2 := Lib.hid (turn_no n y' l k hlt)
      generalize l[k] = c at hg hbd H1 H2
      by_cases h48 : 48 ≤ (c.toNat : Int)
      · by_cases h57 : (c.toNat : Int) ≤ 57
        · have HT2 := Lib.hid ((H1.out ⟨h48, h57⟩).symm.trans HT.out)
          go_wp2
          go_roundw
          case rel => exact ⟨k + 1, _, y', rfl, by go_num, by omega, by omega, HT2.out, HX.out, HZ.out, HB.out, hz⟩
          case measure => simp [intOf]; omega
        · have HT2 := Lib.hid ((H2.out (by omega)).symm.trans HT.out)
          go_wp2_with (first
            | ((with_reducible refine at_dst 32 ?_); refine wpList_load_mid rfl _ _ rfl w.heap.size 0 rfl y'.cells _ HX.out.swhole Tryd.underlying33 rfl sty_size ?_)
            | (go_at_call 47; refine (obey_any y' n hn0 hn1 wr).mono ?_; rintro e w4 ⟨rfl, hb4⟩; have HB4 := Lib.hid (HB.out.trans (hb4.mono HB.out.size)); have HX4 := Lib.hid (HX.out.below hb4 HX.out.lt); have HZ4 := Lib.hid (HZ.out.below hb4 HZ.out.lt); have HS4 := Lib.hid (show w.heap.size + 2 ≤ w4.heap.size by have := hb4.size; omega); clear hb4)
            | ((with_reducible refine at_store 2 ?_); refine wpList_store_blk rfl _ _ _ rfl rfl w.heap.size 0 _ y'.cells (obey y' n).cells rfl rfl HX4.out (by simp [Sty.len]) sty_size (Sty.one _) ?_; intro w5 hn5 hg5; have hn5' : Blk w5 w.heap.size 33 (obey y' n).cells := hn5; have HX5 := Lib.hid hn5'; have HZ5 : Hid (Blk w5 (w.heap.size + 1) 33 Sty.zero.cells) := Lib.hid ((hg5.block (w.heap.size + 1) (by have := HS4.out; omega) (fun h => by injection h with h; omega)).trans HZ4.out); have HB5 := Lib.hid (HB4.out.grown hg5 (by have := HS4.out; omega) (fun j hj => by injection hj with hj; omega)); have HS5 := Lib.hid (show w.heap.size + 2 ≤ w5.heap.size by have := HS4.out; have := hg5.size; omega); clear hn5 hn5' hg5))
          go_roundw
          case rel => exact ⟨k + 1, 0, _, rfl, by go_num, by omega, by omega, HT2.out, HX5.out, HZ5.out, HB5.out, HS5.out⟩
          case measure => simp [intOf]; omega
      · have HT2 := Lib.hid ((H2.out (by omega)).symm.trans HT.out)
        go_wp2_with (first
          | ((with_reducible refine at_dst 32 ?_); refine wpList_load_mid rfl _ _ rfl w.heap.size 0 rfl y'.cells _ HX.out.swhole Tryd.underlying33 rfl sty_size ?_)
          | (go_at_call 47; refine (obey_any y' n hn0 hn1 wr).mono ?_; rintro e w4 ⟨rfl, hb4⟩; have HB4 := Lib.hid (HB.out.trans (hb4.mono HB.out.size)); have HX4 := Lib.hid (HX.out.below hb4 HX.out.lt); have HZ4 := Lib.hid (HZ.out.below hb4 HZ.out.lt); have HS4 := Lib.hid (show w.heap.size + 2 ≤ w4.heap.size by have := hb4.size; omega); clear hb4)
          | ((with_reducible refine at_store 2 ?_); refine wpList_store_blk rfl _ _ _ rfl rfl w.heap.size 0 _ y'.cells (obey y' n).cells rfl rfl HX4.out (by simp [Sty.len]) sty_size (Sty.one _) ?_; intro w5 hn5 hg5; have hn5' : Blk w5 w.heap.size 33 (obey y' n).cells := hn5; have HX5 := Lib.hid hn5'; have HZ5 : Hid (Blk w5 (w.heap.size + 1) 33 Sty.zero.cells) := Lib.hid ((hg5.block (w.heap.size + 1) (by have := HS4.out; omega) (fun h => by injection h with h; omega)).trans HZ4.out); have HB5 := Lib.hid (HB4.out.grown hg5 (by have := HS4.out; omega) (fun j hj => by injection hj with hj; omega)); have HS5 := Lib.hid (show w.heap.size + 2 ≤ w5.heap.size by have := HS4.out; have := hg5.size; omega); clear hn5 hn5' hg5))
        go_roundw
        case rel => exact ⟨k + 1, 0, _, rfl, by go_num, by omega, by omega, HT2.out, HX5.out, HZ5.out, HB5.out, HS5.out⟩
        case measure => simp [intOf]; omega
    · have hki : ¬ (k : Int) < (s.size : Int) := by omega
      have HE := Lib.hid (show y' = Y by have := HT.out; rw [List.drop_eq_nil_of_le (by omega)] at this; exact this)
      go_wp2_with (first
        | ((with_reducible refine at_dst 35 ?_); refine wpList_load_mid rfl _ _ rfl w.heap.size 0 rfl y'.cells _ HX.out.swhole Tryd.underlying33 rfl sty_size ?_)
        | ((with_reducible refine at_store 4 ?_); refine wpList_store_blk rfl _ _ _ rfl rfl (w.heap.size + 1) 0 _ Sty.zero.cells y'.cells rfl rfl HZ.out (by simp [Sty.len]) sty_size (Sty.one _) ?_; intro w9 hn9 hg9))
      rw [← HE.out]
      exact bodyPost_ret (sresults_c rfl rfl (Blk.swhole hn9) Tryd.underlying33 rfl sty_size) rfl ⟨rfl, HB.out.grown hg9 (by omega) (fun j hj => by injection hj with hj; omega)⟩
end Go.Proofs.YtclkclamdnkdgaaDoor
