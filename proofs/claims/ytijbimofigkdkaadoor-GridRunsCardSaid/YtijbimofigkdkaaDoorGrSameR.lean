/-
  Walk: same of law 4.
-/
import Derived.Test.YtijbimofigkdkaaDoorRfResize
import Derived.Test.YtijbimofigkdkaaDoorGrFill
import Derived.Deep.RegionHeld3
namespace Go.Proofs.YtijbimofigkdkaaDoor
open Go.RowKit
set_option linter.unusedVariables false
set_option linter.unusedSimpArgs false

set_option maxRecDepth 100000 in
set_option maxHeartbeats 16000000 in
theorem samer_any {w : World} {lo g rb W : Nat} {bs : List Nat} {L : List (List Cl)} (h : GrAt w lo g rb bs W L) {D : Nat → Prop} {A : Option Addr} {c : Nat} (hr : RfAt w D A c L) (row col : Int) :
    Calls Tryd.prog 16 #[.pointer (some ⟨g, 0, none⟩), .agg #[.int .i64 W, .int .i64 L.length, .slice A L.length c], .int .i64 row, .int .i64 col] w fun e w' => e = .returned (.bool true) ∧ Below w.heap.size w w' := by
  obtain ⟨b, off, rfl, hlat⟩ := hr.all_later h.h1
  have hh5 := h.h5
  have hh1 := h.h1
  have hw5 := h.w5
  obtain ⟨n, hn⟩ : ∃ n, n = L.length := ⟨_, rfl⟩
  rw [← hn] at hh5 hh1 ⊢
  obtain ⟨W0, hW0⟩ : ∃ W0, W0 = w.alloc (.cells #[.int .i64 W, .int .i64 n, .slice (some ⟨b, off, none⟩) n c] 29) := ⟨_, rfl⟩
  have hb0 : Below w.heap.size w W0 := by rw [hW0]; exact (Below.refl _ _).alloc (Nat.le_refl _) _
  have h1 : Blk W0 w.heap.size 29 (rgC W n (some ⟨b, off, none⟩) c) := by rw [hW0]; exact Blk.new w _ (rgC W n (some ⟨b, off, none⟩) c)
  have HW0 := Lib.hid hW0
  have HB0 := Lib.hid hb0
  have H1 := Lib.hid h1
  have HLAT := Lib.hid hlat
  have HQ := Lib.hid h.rws_
  have HN := Lib.hid hn
  have hx : cellB L row col = ((cellB L row col).1, (cellB L row col).2) := rfl
  obtain ⟨x, hx1⟩ : ∃ x, (cellB L row col).1 = x := ⟨_, rfl⟩
  obtain ⟨ok, hx2⟩ : ∃ ok, (cellB L row col).2 = ok := ⟨_, rfl⟩
  have HX1 := Lib.hid hx1
  have HX2 := Lib.hid hx2
  have hqq : ∀ w, (Op.equalIn 10000 51 (.agg #[.string ⟨x.s.toArray⟩, .int .i64 x.w, .bool x.y.b, .bool x.y.u, .bool x.y.i, .int .i64 x.y.f, .int .i64 x.y.g]) (.agg #[.string ⟨x.s.toArray⟩, .int .i64 x.w, .bool x.y.b, .bool x.y.u, .bool x.y.i, .int .i64 x.y.f, .int .i64 x.y.g])).run Tryd.prog w = .ok true w := fun w => (run_eq_cl x x w).trans (by simp)
  have hguard := cl_guard
  -- what stays whatever is made
  have pre : ∀ w1, Below W0.heap.size W0 w1 → Blk w1 w.heap.size 29 (rgC W n (some ⟨b, off, none⟩) c) ∧ GrAt w1 lo g rb bs W L ∧ RfAt w1 D (some ⟨b, off, none⟩) c L ∧ Below w.heap.size w w1 := fun w1 hb => by
    have hbw := HB0.out.trans (hb.mono HB0.out.size)
    exact ⟨H1.out.below hb H1.out.lt, h.below hbw, hr.below hbw, hbw⟩
  have PRE := Lib.hid pre
  clear pre hb0 h1 hW0 h hr hlat hn hx hx1 hx2
  go_enter Tryd.func16, Tryd.ntmps16
  go_upto_region 1 with fail
  rw [← HW0.out]
  obtain ⟨k1, k2, k3, kb⟩ := PRE.out W0 (Below.refl _ _)
  have HG0 := Lib.hid k2
  clear k1 k2 k3 kb
  go_wp2_with (go_at_call 23; refine (size_any HG0.out).mono ?_; rintro e w1 ⟨rfl, q1, rfl⟩; rw [← HN.out])
  have HB1 := Lib.hid (below_drewN W0 q1)
  generalize W0.drewN q1 = w1 at HB1 ⊢
  obtain ⟨k1, k2, k3, kb⟩ := PRE.out w1 HB1.out
  refine (cell_any k2 row col).mono ?_
  rintro e w2 ⟨rfl, hb2⟩
  rw [HX1.out, HX2.out]
  have HB2 := Lib.hid (HB1.out.trans (hb2.mono HB1.out.size))
  have HN2 := Lib.hid (Blk.new w2 51 czero.cells)
  clear k1 k2 k3 kb hb2 HB1
  go_wp2_with ((with_reducible refine at_store 11 ?_); refine wpList_store_blk rfl _ _ _ rfl rfl w2.heap.size 0 _ czero.cells x.cells rfl rfl HN2.out (by simp [Cl.len]) cl_size x.one ?_; intro w3 hn3 hg3; have hn3' : Blk w3 w2.heap.size 51 x.cells := hn3; have hb3 : Below w2.heap.size w2 w3 := ((Below.refl _ _).alloc (Nat.le_refl _) _).grown hg3 (by simp) (fun j hj => by injection hj with hj; omega); have HN3 := Lib.hid hn3'; have HB3 := Lib.hid (HB2.out.trans (hb3.mono HB2.out.size)); obtain ⟨k1, k2, k3, kb⟩ := PRE.out w3 HB3.out; obtain ⟨f0, f1, f2⟩ := blk3 k1; clear hn3 hn3' hg3 hb3 k1 k2 k3 kb)
  obtain ⟨k1, k2, k3, kb⟩ := PRE.out w3 HB3.out
  have hcall := rcell_any (W := W) k3 (fun i l hl => (HQ.out.wd i l hl).1) row col
  rw [HX1.out, HX2.out, ← HN.out] at hcall
  refine hcall.mono ?_
  rintro e w4 ⟨rfl, hb4⟩
  have HB4 := Lib.hid (HB3.out.trans (hb4.mono HB3.out.size))
  have HN4 := Lib.hid (HN3.out.below hb4 HN3.out.lt)
  have HM4 := Lib.hid (Blk.new w4 51 czero.cells)
  clear k1 k2 k3 kb hb4 hcall f0 f1 f2
  go_upto_region 4 with ((with_reducible refine at_store 13 ?_); refine wpList_store_blk rfl _ _ _ rfl rfl w4.heap.size 0 _ czero.cells x.cells rfl rfl HM4.out (by simp [Cl.len]) cl_size x.one ?_; intro w5 hn5 hg5; have hn5' : Blk w5 w4.heap.size 51 x.cells := hn5; have hb5 : Below w4.heap.size w4 w5 := ((Below.refl _ _).alloc (Nat.le_refl _) _).grown hg5 (by simp) (fun j hj => by injection hj with hj; omega); have HM5 := Lib.hid hn5'; have HN5 := Lib.hid (HN4.out.below hb5 HN4.out.lt); have HB5 := Lib.hid (HB4.out.trans (hb5.mono HB4.out.size)); clear hn5 hn5' hg5 hb5)
  have pre5 : ∀ w', Below w5.heap.size w5 w' → Blk w' w.heap.size 29 (rgC W n (some ⟨b, off, none⟩) c) ∧ GrAt w' lo g rb bs W L ∧ RfAt w' D (some ⟨b, off, none⟩) c L ∧ Below w.heap.size w w' := fun w' hb => PRE.out w' (HB5.out.trans (hb.mono HB5.out.size))
  have PRE5 := Lib.hid pre5
  have hk9 : ∀ w', Below w5.heap.size w5 w' → Below w5.heap.size w5 w' ∧ w'.cell? ⟨w.heap.size, 0, none⟩ = some (.int .i64 W) ∧ w'.cell? ⟨w.heap.size, 1, none⟩ = some (.int .i64 n) ∧ w'.cell? ⟨w.heap.size, 2, none⟩ = some (.slice (some ⟨b, off, none⟩) n c) ∧ w'.cell? ⟨w2.heap.size, 0, none⟩ = some (.string ⟨x.s.toArray⟩) ∧ w'.cell? ⟨w2.heap.size, 1, none⟩ = some (.int .i64 x.w) ∧ w'.cell? ⟨w2.heap.size, 2, none⟩ = some (.bool x.y.b) ∧ w'.cell? ⟨w2.heap.size, 3, none⟩ = some (.bool x.y.u) ∧ w'.cell? ⟨w2.heap.size, 4, none⟩ = some (.bool x.y.i) ∧ w'.cell? ⟨w2.heap.size, 5, none⟩ = some (.int .i64 x.y.f) ∧ w'.cell? ⟨w2.heap.size, 6, none⟩ = some (.int .i64 x.y.g) ∧ w'.cell? ⟨w4.heap.size, 0, none⟩ = some (.string ⟨x.s.toArray⟩) ∧ w'.cell? ⟨w4.heap.size, 1, none⟩ = some (.int .i64 x.w) ∧ w'.cell? ⟨w4.heap.size, 2, none⟩ = some (.bool x.y.b) ∧ w'.cell? ⟨w4.heap.size, 3, none⟩ = some (.bool x.y.u) ∧ w'.cell? ⟨w4.heap.size, 4, none⟩ = some (.bool x.y.i) ∧ w'.cell? ⟨w4.heap.size, 5, none⟩ = some (.int .i64 x.y.f) ∧ w'.cell? ⟨w4.heap.size, 6, none⟩ = some (.int .i64 x.y.g) := fun w' hb => by
    obtain ⟨k1, _, _, _⟩ := PRE5.out w' hb
    obtain ⟨f0, f1, f2⟩ := blk3 k1
    obtain ⟨x0, x1, x2, x3, x4, x5, x6⟩ := blk7 (HN5.out.below hb HN5.out.lt)
    obtain ⟨y0, y1, y2, y3, y4, y5, y6⟩ := blk7 (HM5.out.below hb HM5.out.lt)
    exact ⟨hb, f0, f1, f2, x0, x1, x2, x3, x4, x5, x6, y0, y1, y2, y3, y4, y5, y6⟩
  have HK9 := Lib.hid hk9
  clear pre5 hk9
  go_cut [73] (fun s73 wx => s73 = .bool false ∧ Below w5.heap.size w5 wx)
  case first =>
    have HDR := Lib.hid ((Below.refl w5.heap.size w5).drew)
    by_cases hin : 0 ≤ row ∧ row < n
    · obtain ⟨r, rfl⟩ := Int.eq_ofNat_of_zero_le hin.1
      have hl : L[r]? = some (L.getD r []) := getD_some (by have := HN.out; omega)
      generalize L.getD r [] = l at hl
      obtain ⟨hlen, hwf⟩ := HQ.out.wd r l hl
      have q1 : ∀ ww, Below w5.heap.size w5 ww → Calls Tryd.prog 26 #[.pointer (some ⟨g, 0, none⟩), .int .i64 r] ww fun e w' => e = .returned (.string ⟨(textM l).toArray⟩) ∧ Below w5.heap.size w5 w' := fun ww hb => (text_yes (PRE5.out ww hb).2.1 r l hl).mono fun e w' ⟨a, b⟩ => ⟨a, hb.trans (b.mono hb.size)⟩
      have q2 : ∀ ww, Below w5.heap.size w5 ww → Calls Tryd.prog 43 #[.agg #[.int .i64 W, .int .i64 n, .slice (some ⟨b, off, none⟩) n c], .int .i64 r] ww fun e w' => e = .returned (.string ⟨(textM l).toArray⟩) ∧ Below w5.heap.size w5 w' := fun ww hb => by
        have := rtext_yes (W := W) (PRE5.out ww hb).2.2.1 r l hl hwf (by omega)
        rw [← HN.out] at this
        exact this.mono fun e w' ⟨a, b⟩ => ⟨a, hb.trans (b.mono hb.size)⟩
      have q3 : ∀ ww, Below w5.heap.size w5 ww → Calls Tryd.prog 18 #[.pointer (some ⟨g, 0, none⟩), .int .i64 r] ww fun e w' => ∃ A1 c1, e = .returned (.slice A1 W c1) ∧ Sl w' w'.heap.size A1 (rc l) ∧ Below w5.heap.size w5 w' := fun ww hb => (row_yes (PRE5.out ww hb).2.1 r l hl).mono fun e w' ⟨A1, c1, a, hs, b⟩ => ⟨A1, c1, a, hs, hb.trans (b.mono hb.size)⟩
      have q4 : ∀ ww, Below w5.heap.size w5 ww → Calls Tryd.prog 44 #[.agg #[.int .i64 W, .int .i64 n, .slice (some ⟨b, off, none⟩) n c], .int .i64 r] ww fun e w' => ∃ A1 c1, e = .returned (.slice A1 W c1) ∧ Sl w' w'.heap.size A1 (rc l) ∧ Below ww.heap.size ww w' ∧ Below w5.heap.size w5 w' := fun ww hb => by
        have := rcells_yes (W := W) (PRE5.out ww hb).2.2.1 r l hl
        rw [← HN.out] at this
        exact this.mono fun e w' ⟨u, a, hr, b⟩ => by
          obtain ⟨A1, c1, e1, _, hs⟩ := hr
          exact ⟨A1, c1, by rw [a, e1, hlen], hs.sl, b, hb.trans (b.mono hb.size)⟩
      have Q1 := Lib.hid q1
      have Q2 := Lib.hid q2
      have Q3 := Lib.hid q3
      have Q4 := Lib.hid q4
      have HLEN := Lib.hid hlen
      clear q1 q2 q3 q4 hin hl hlen hwf
      go_region_held3 (fun w' => Below w5.heap.size w5 w' ∧ w'.cell? ⟨w.heap.size, 0, none⟩ = some (.int .i64 W) ∧ w'.cell? ⟨w.heap.size, 1, none⟩ = some (.int .i64 n) ∧ w'.cell? ⟨w.heap.size, 2, none⟩ = some (.slice (some ⟨b, off, none⟩) n c) ∧ w'.cell? ⟨w2.heap.size, 0, none⟩ = some (.string ⟨x.s.toArray⟩) ∧ w'.cell? ⟨w2.heap.size, 1, none⟩ = some (.int .i64 x.w) ∧ w'.cell? ⟨w2.heap.size, 2, none⟩ = some (.bool x.y.b) ∧ w'.cell? ⟨w2.heap.size, 3, none⟩ = some (.bool x.y.u) ∧ w'.cell? ⟨w2.heap.size, 4, none⟩ = some (.bool x.y.i) ∧ w'.cell? ⟨w2.heap.size, 5, none⟩ = some (.int .i64 x.y.f) ∧ w'.cell? ⟨w2.heap.size, 6, none⟩ = some (.int .i64 x.y.g) ∧ w'.cell? ⟨w4.heap.size, 0, none⟩ = some (.string ⟨x.s.toArray⟩) ∧ w'.cell? ⟨w4.heap.size, 1, none⟩ = some (.int .i64 x.w) ∧ w'.cell? ⟨w4.heap.size, 2, none⟩ = some (.bool x.y.b) ∧ w'.cell? ⟨w4.heap.size, 3, none⟩ = some (.bool x.y.u) ∧ w'.cell? ⟨w4.heap.size, 4, none⟩ = some (.bool x.y.i) ∧ w'.cell? ⟨w4.heap.size, 5, none⟩ = some (.int .i64 x.y.f) ∧ w'.cell? ⟨w4.heap.size, 6, none⟩ = some (.int .i64 x.y.g))
        (first | exact HK9.out _ hbx | exact HK9.out _ HDR.out)
        (first
          | (go_at_call 26; refine (Q1.out _ (by first | assumption | exact And.left (by assumption))).mono ?_; rintro e wx ⟨rfl, hbx⟩)
          | (go_at_call 43; refine (Q2.out _ (by first | assumption | exact And.left (by assumption))).mono ?_; rintro e wx ⟨rfl, hbx⟩)
          | (go_at_call 18; refine (Q3.out _ (by first | assumption | exact And.left (by assumption))).mono ?_; rintro e wx ⟨A1, c1, rfl, hs1, hbx⟩; have HS1 := Lib.hid hs1; clear hs1)
          | (go_at_call 44; refine (Q4.out _ (by first | assumption | exact And.left (by assumption))).mono ?_; rintro e wx ⟨A2, c2, rfl, hs2, hbw, hbx⟩; have HS2 := Lib.hid hs2; have HS3 := Lib.hid (HS1.out.below hbw); have HSZ := Lib.hid hbw.size; clear hs2 hbw)
          | (go_at_call 22; refine (same_any l l W W A1 A2 c1 c2 _ HLEN.out.symm HLEN.out.symm (by omega) (by omega) _ _ HS3.out HS2.out HSZ.out (Nat.le_refl _)).mono ?_; rintro e wy ⟨rfl, hby⟩; rw [show decide (l = l) = true by simp]; have hbx' := hbx.trans (hby.mono hbx.size); clear hby hbx; have hbx := hbx'; clear hbx'))
      all_goals
        go_wp2_with (fail)
        go_meet
        exact ⟨rfl, hbx⟩
    · have hout : row < 0 ∨ (n : Int) ≤ row := by omega
      have hinb : inB row 0 W n = false := by simp only [inB, decide_eq_false_iff_not]; omega
      have q0 : ∀ ww, Below w5.heap.size w5 ww → Calls Tryd.prog 35 #[.pointer (some ⟨g, 0, none⟩), .int .i64 row, .int .i64 0] ww fun e w' => e = .returned (.bool false) ∧ Below ww.heap.size ww w' := fun ww hb => by
        have := has_bel (PRE5.out ww hb).2.1 row 0
        rw [← HN.out, hinb] at this
        exact this
      have q1 : ∀ ww, Below w5.heap.size w5 ww → Calls Tryd.prog 26 #[.pointer (some ⟨g, 0, none⟩), .int .i64 row] ww fun e w' => e = .returned (.string ⟨#[]⟩) ∧ Below w5.heap.size w5 w' := fun ww hb => (text_no row (q0 ww hb)).mono fun e w' ⟨a, b⟩ => ⟨a, hb.trans (b.mono hb.size)⟩
      have q2 : ∀ ww, Below w5.heap.size w5 ww → Calls Tryd.prog 43 #[.agg #[.int .i64 W, .int .i64 n, .slice (some ⟨b, off, none⟩) n c], .int .i64 row] ww fun e w' => e = .returned (.string ⟨#[]⟩) ∧ Below w5.heap.size w5 w' := fun ww hb => by
        have := rtext_any (W := W) (c := c) (D := D) (A := some ⟨b, off, none⟩) (L := L) (w := ww) row (by rw [← HN.out]; exact hout)
        rw [← HN.out] at this
        exact this.mono fun e w' ⟨a, b⟩ => ⟨a, hb.trans (b.mono hb.size)⟩
      have q3 : ∀ ww, Below w5.heap.size w5 ww → Calls Tryd.prog 18 #[.pointer (some ⟨g, 0, none⟩), .int .i64 row] ww fun e w' => e = .returned (.slice none 0 0) ∧ Below w5.heap.size w5 w' := fun ww hb => (row_no row (q0 ww hb)).mono fun e w' ⟨a, b⟩ => ⟨a, hb.trans (b.mono hb.size)⟩
      have q4 : ∀ ww, Below w5.heap.size w5 ww → Calls Tryd.prog 44 #[.agg #[.int .i64 W, .int .i64 n, .slice (some ⟨b, off, none⟩) n c], .int .i64 row] ww fun e w' => e = .returned (.slice none 0 0) ∧ Below w5.heap.size w5 w' := fun ww hb => (rcells_no W n (some ⟨b, off, none⟩) n c row hout ww).mono fun e w' ⟨a, b⟩ => ⟨a, hb.trans (b.mono hb.size)⟩
      have q5 : ∀ ww, Below w5.heap.size w5 ww → Calls Tryd.prog 22 #[.slice none 0 0, .slice none 0 0] ww fun e w' => e = .returned (.bool true) ∧ Below w5.heap.size w5 w' := fun ww hb => (same_any [] [] 0 0 none none 0 0 ww rfl rfl (by omega) (by omega) ww.heap.size ww.heap.size (.inl rfl) (.inl rfl) (Nat.le_refl _) (Nat.le_refl _)).mono fun e w' ⟨a, b⟩ => ⟨a.trans (by simp), hb.trans (b.mono hb.size)⟩
      have Q1 := Lib.hid q1
      have Q2 := Lib.hid q2
      have Q3 := Lib.hid q3
      have Q4 := Lib.hid q4
      have Q5 := Lib.hid q5
      clear q0 q1 q2 q3 q4 q5 hin hout hinb
      go_region_held3 (fun w' => Below w5.heap.size w5 w' ∧ w'.cell? ⟨w.heap.size, 0, none⟩ = some (.int .i64 W) ∧ w'.cell? ⟨w.heap.size, 1, none⟩ = some (.int .i64 n) ∧ w'.cell? ⟨w.heap.size, 2, none⟩ = some (.slice (some ⟨b, off, none⟩) n c) ∧ w'.cell? ⟨w2.heap.size, 0, none⟩ = some (.string ⟨x.s.toArray⟩) ∧ w'.cell? ⟨w2.heap.size, 1, none⟩ = some (.int .i64 x.w) ∧ w'.cell? ⟨w2.heap.size, 2, none⟩ = some (.bool x.y.b) ∧ w'.cell? ⟨w2.heap.size, 3, none⟩ = some (.bool x.y.u) ∧ w'.cell? ⟨w2.heap.size, 4, none⟩ = some (.bool x.y.i) ∧ w'.cell? ⟨w2.heap.size, 5, none⟩ = some (.int .i64 x.y.f) ∧ w'.cell? ⟨w2.heap.size, 6, none⟩ = some (.int .i64 x.y.g) ∧ w'.cell? ⟨w4.heap.size, 0, none⟩ = some (.string ⟨x.s.toArray⟩) ∧ w'.cell? ⟨w4.heap.size, 1, none⟩ = some (.int .i64 x.w) ∧ w'.cell? ⟨w4.heap.size, 2, none⟩ = some (.bool x.y.b) ∧ w'.cell? ⟨w4.heap.size, 3, none⟩ = some (.bool x.y.u) ∧ w'.cell? ⟨w4.heap.size, 4, none⟩ = some (.bool x.y.i) ∧ w'.cell? ⟨w4.heap.size, 5, none⟩ = some (.int .i64 x.y.f) ∧ w'.cell? ⟨w4.heap.size, 6, none⟩ = some (.int .i64 x.y.g))
        (first | exact HK9.out _ hbx | exact HK9.out _ HDR.out)
        (first
          | (go_at_call 26; refine (Q1.out _ (by first | assumption | exact And.left (by assumption))).mono ?_; rintro e wx ⟨rfl, hbx⟩)
          | (go_at_call 43; refine (Q2.out _ (by first | assumption | exact And.left (by assumption))).mono ?_; rintro e wx ⟨rfl, hbx⟩)
          | (go_at_call 18; refine (Q3.out _ (by first | assumption | exact And.left (by assumption))).mono ?_; rintro e wx ⟨rfl, hbx⟩)
          | (go_at_call 44; refine (Q4.out _ (by first | assumption | exact And.left (by assumption))).mono ?_; rintro e wx ⟨rfl, hbx⟩)
          | (go_at_call 22; refine (Q5.out _ (by first | assumption | exact And.left (by assumption))).mono ?_; rintro e wx ⟨rfl, hbx⟩))
      all_goals
        go_wp2_with (fail)
        go_meet
        exact ⟨rfl, hbx⟩
  case rest =>
    obtain ⟨rfl, hbc⟩ := hcut
    have HBC := Lib.hid hbc
    clear hbc
    go_upto_region 7 with fail
    go_loopw [15] (fun s15 wr => ∃ k : Nat, k ≤ n ∧ s15 = .int .i64 k ∧ Below w5.heap.size w5 wr) (fun s15 _ => n - (intOf s15).toNat)
    case atStart => exact ⟨0, by omega, rfl, HBC.out⟩
    case round =>
      obtain ⟨k, hk, rfl, hbr⟩ := hrel
      have HBR := Lib.hid hbr
      obtain ⟨_, f0, f1, f2, _⟩ := HK9.out wr hbr
      clear hbr f0 f2
      by_cases hlt : k < n
      · have hki : (k : Int) < n := by omega
        have hl : L[k]? = some (L.getD k []) := getD_some (by have := HN.out; omega)
        generalize L.getD k [] = l at hl
        obtain ⟨hlen, hwf⟩ := HQ.out.wd k l hl
        obtain ⟨Ai, ci, hat⟩ := HLAT.out k l hl
        have HAT := Lib.hid hat
        have HLEN := Lib.hid hlen
        have q3 : ∀ ww, Below w5.heap.size w5 ww → Calls Tryd.prog 18 #[.pointer (some ⟨g, 0, none⟩), .int .i64 k] ww fun e w' => ∃ A1 c1, e = .returned (.slice A1 W c1) ∧ Sl w' w'.heap.size A1 (rc l) ∧ Below w5.heap.size w5 w' := fun ww hb => (row_yes (PRE5.out ww hb).2.1 k l hl).mono fun e w' ⟨A1, c1, a, hs, b⟩ => ⟨A1, c1, a, hs, hb.trans (b.mono hb.size)⟩
        have Q3 := Lib.hid q3
        have hk8 : ∀ w', Below w5.heap.size w5 w' → Below w5.heap.size w5 w' ∧ w'.cell? ⟨w.heap.size, 2, none⟩ = some (.slice (some ⟨b, off, none⟩) n c) ∧ w'.cell? ⟨b, off + k, none⟩ = some (.slice Ai W ci) := fun w' hb => by
          obtain ⟨_, _, _, kb⟩ := PRE5.out w' hb
          obtain ⟨_, _, _, f2, _⟩ := HK9.out w' hb
          have := (HAT.out w' kb).1
          rw [HLEN.out] at this
          exact ⟨hb, f2, this⟩
        have hsl : ∀ w', Below w5.heap.size w5 w' → Sl w' w'.heap.size Ai (rc l) := fun w' hb => by
          obtain ⟨_, _, _, kb⟩ := PRE5.out w' hb
          obtain ⟨A1, c1, e1, _, hs⟩ := (HAT.out w' kb).2
          injection e1 with e1 e2 e3
          subst e1
          exact hs.sl
        have HK8 := Lib.hid hk8
        have HSL := Lib.hid hsl
        have HDR := Lib.hid (HBR.out.drew)
        clear q3 hk8 hsl hat hl hlen hwf
        go_upto_region 9 with fail
        go_region_held3 (fun w' => Below w5.heap.size w5 w' ∧ w'.cell? ⟨w.heap.size, 2, none⟩ = some (.slice (some ⟨b, off, none⟩) n c) ∧ w'.cell? ⟨b, off + k, none⟩ = some (.slice Ai W ci))
          (first | exact HK8.out _ hbx | exact HK8.out _ HDR.out)
          (first
            | (go_at_call 18; refine (Q3.out _ (by first | assumption | exact And.left (by assumption))).mono ?_; rintro e wx ⟨A1, c1, rfl, hs1, hbx⟩; have HS1 := Lib.hid hs1; clear hs1)
            | (go_at_call 22; refine (same_any l l W W A1 Ai c1 ci _ HLEN.out.symm HLEN.out.symm (by omega) (by omega) _ _ HS1.out (HSL.out _ hbx) (Nat.le_refl _) (Nat.le_refl _)).mono ?_; rintro e wy ⟨rfl, hby⟩; rw [show decide (l = l) = true by simp]; have hbx' := hbx.trans (hby.mono hbx.size); clear hby hbx; have hbx := hbx'; clear hbx'))
        all_goals
          go_wp2_with (fail)
          go_roundw
          case rel => exact ⟨k + 1, by omega, rfl, hbx⟩
          case measure => simp [intOf]; omega
      · have hki : ¬ (k : Int) < n := by omega
        go_wp2
        go_ret
        exact ⟨rfl, (PRE5.out _ HBR.out).2.2.2⟩
end Go.Proofs.YtijbimofigkdkaaDoor
