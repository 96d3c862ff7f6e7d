/-
  Walk: the law's step: Newer.
-/
import Derived.Test.YtfjiogockpmogaaDoorHsStep
import Derived.Test.YtfjiogockpmogaaDoorHsNewer
namespace Go.Proofs.YtfjiogockpmogaaDoor
open Go.RowKit Go.Sort
set_option linter.unusedVariables false
set_option linter.unusedSimpArgs false
set_option maxRecDepth 100000
set_option maxHeartbeats 16000000 in
theorem step_newer0 {w : World} {lo h c most : Nat} {A : Option Addr} {L : List (List UInt8)}  (q : HsAt w lo h A c most L none) (hlw : lo ≤ w.heap.size) (rA : Option Addr) (n rc : Nat) (hR : RowH w h rA n rc L) (hKB : KB none) (kd : Int) (s1 s2 : ByteArray) (hd0 : 0 ≤ kd) (hd1 : kd ≤ 255) (hk : kd % 8 = 5) :
    Calls Tryd.prog 10 #[.pointer (some ⟨h, 0, none⟩), .agg (rvC most rA n rc none).toArray, .agg #[.int .u8 kd, .string s1, .string s2]] w (StepH w lo h most A none rA) := by
  have hq3 : (kd % 8 == 3) = false := by simp; omega
  have hq4 : (kd % 8 == 4) = false := by simp; omega
  have hq5 : (kd % 8 == 5) = true := by simp; omega
  have hh : h < w.heap.size := q.head.lt
  have hu : rvC most rA n rc none = [.int .i64 most, .slice rA n rc, .bool false, .string ⟨#[]⟩, .string ⟨#[]⟩, .int .i64 0] := rfl
  rw [hu]
  obtain ⟨W, hW⟩ : ∃ W, W = ((w.alloc (.cells #[.int .i64 most, .slice rA n rc, .bool false, .string ⟨#[]⟩, .string ⟨#[]⟩, .int .i64 0] 29)).alloc (.cells #[.int .u8 kd, .string s1, .string s2] 34)).alloc (.cells #[.int .i64 0, .slice none 0 0, .bool false, .string ⟨#[]⟩, .string ⟨#[]⟩, .int .i64 0] 29) := ⟨_, rfl⟩
  have hb0 : Below w.heap.size w W := by rw [hW]; exact (((Below.refl _ w).alloc (Nat.le_refl _) _).alloc (by simp) _).alloc (by simp; omega) _
  have hB4 : Blk W w.heap.size 29 [.int .i64 most, .slice rA n rc, .bool false, .string ⟨#[]⟩, .string ⟨#[]⟩, .int .i64 0] := by rw [hW]; exact ((Blk.new w 29 _).alloc _).alloc _
  have hB5 : Blk W (w.heap.size + 1) 34 [.int .u8 kd, .string s1, .string s2] := by
    have := (Blk.new (w.alloc (.cells #[.int .i64 most, .slice rA n rc, .bool false, .string ⟨#[]⟩, .string ⟨#[]⟩, .int .i64 0] 29)) 34 [.int .u8 kd, .string s1, .string s2]).alloc (.cells #[.int .i64 0, .slice none 0 0, .bool false, .string ⟨#[]⟩, .string ⟨#[]⟩, .int .i64 0] 29)
    rw [hW]; simpa using this
  have hB6 : Blk W (w.heap.size + 1 + 1) 29 blankH := by
    have := Blk.new ((w.alloc (.cells #[.int .i64 most, .slice rA n rc, .bool false, .string ⟨#[]⟩, .string ⟨#[]⟩, .int .i64 0] 29)).alloc (.cells #[.int .u8 kd, .string s1, .string s2] 34)) 29 blankH
    rw [hW]; simpa [blankH] using this
  have hk4 : ∀ V, Chg (one h) W V → Blk V w.heap.size 29 [.int .i64 most, .slice rA n rc, .bool false, .string ⟨#[]⟩, .string ⟨#[]⟩, .int .i64 0] ∧ Blk V (w.heap.size + 1) 34 [.int .u8 kd, .string s1, .string s2] ∧ Blk V (w.heap.size + 1 + 1) 29 blankH := fun V hV =>
    ⟨hB4.chg hV (fun e => by unfold one at e; omega), hB5.chg hV (fun e => by unfold one at e; omega), hB6.chg hV (fun e => by unfold one at e; omega)⟩
  have HK := Lib.hid hk4
  have HB0 := Lib.hid hb0
  have HR0 := Lib.hid (hR.chg (Chg.of_below (S := noB) hb0) (fun _ _ h => h))
  have Q0 := Lib.hid (q.below hb0)
  have HCW := Lib.hid (Chg.of_below (S := one h) hb0)
  have HH := Lib.hid hh
  have HU := Lib.hid hu
  have HAP := Lib.hid hR.ap
  have HKB := Lib.hid hKB
  clear hR q hk4 hb0 hB4 hB5 hB6 hh hu hKB
  obtain ⟨B4, B5, B6⟩ := HK.out _ (Chg.refl _ W)
  have a0 : W.cell? ⟨w.heap.size, 0, none⟩ = some (.int .i64 most) := B4.cell 0
  have a1 : W.cell? ⟨w.heap.size, 1, none⟩ = some (.slice rA n rc) := B4.cell 1
  have a2 : W.cell? ⟨w.heap.size, 2, none⟩ = some (.bool false) := B4.cell 2
  have a3 : W.cell? ⟨w.heap.size, 3, none⟩ = some (.string ⟨#[]⟩) := B4.cell 3
  have a4 : W.cell? ⟨w.heap.size, 4, none⟩ = some (.string ⟨#[]⟩) := B4.cell 4
  have a5 : W.cell? ⟨w.heap.size, 5, none⟩ = some (.int .i64 0) := B4.cell 5
  have o0 : W.cell? ⟨w.heap.size + 1, 0, none⟩ = some (.int .u8 kd) := B5.cell 0
  have o1 : W.cell? ⟨w.heap.size + 1, 1, none⟩ = some (.string s1) := B5.cell 1
  have o2 : W.cell? ⟨w.heap.size + 1, 2, none⟩ = some (.string s2) := B5.cell 2
  have z0 : W.cell? ⟨w.heap.size + 1 + 1, 0, none⟩ = some (.int .i64 0) := B6.cell 0
  have y0 : W.frozen? ⟨w.heap.size + 1 + 1, 0, none⟩ = false := B6.frozen 0
  have z1 : W.cell? ⟨w.heap.size + 1 + 1, 1, none⟩ = some (.slice none 0 0) := B6.cell 1
  have y1 : W.frozen? ⟨w.heap.size + 1 + 1, 1, none⟩ = false := B6.frozen 1
  have z2 : W.cell? ⟨w.heap.size + 1 + 1, 2, none⟩ = some (.bool false) := B6.cell 2
  have y2 : W.frozen? ⟨w.heap.size + 1 + 1, 2, none⟩ = false := B6.frozen 2
  have z3 : W.cell? ⟨w.heap.size + 1 + 1, 3, none⟩ = some (.string ⟨#[]⟩) := B6.cell 3
  have y3 : W.frozen? ⟨w.heap.size + 1 + 1, 3, none⟩ = false := B6.frozen 3
  have z4 : W.cell? ⟨w.heap.size + 1 + 1, 4, none⟩ = some (.string ⟨#[]⟩) := B6.cell 4
  have y4 : W.frozen? ⟨w.heap.size + 1 + 1, 4, none⟩ = false := B6.frozen 4
  have z5 : W.cell? ⟨w.heap.size + 1 + 1, 5, none⟩ = some (.int .i64 0) := B6.cell 5
  have y5 : W.frozen? ⟨w.heap.size + 1 + 1, 5, none⟩ = false := B6.frozen 5
  have hz : w.heap.size + 1 + 1 < W.heap.size := B6.lt
  clear B4 B5 B6
  go_enter Tryd.func10, Tryd.ntmps10
  go_upto_region 1 with (fail)
  rw [← hW]
  clear hW
  go_wp2_with (fail)
  refine (hnewer_none Q0.out).mono ?_
  rintro e w1 ⟨rfl, hb1⟩
  have hc1 := Chg.of_below (S := one h) hb1
  have hq1 := Q0.out.below hb1
  clear hb1
  have HC1 := Lib.hid hc1
  have Q1 := Lib.hid hq1
  have HR1 := Lib.hid (HR0.out.chg hc1 (fun k hk e => (HR0.out.ap k hk).1 e))
  clear hq1 hc1
  clear a0 a1 a2 a3 a4 a5 o0 o1 o2 z0 y0 z1 y1 z2 y2 z3 y3 z4 y4 z5 y5 hz
  obtain ⟨B4, B5, B6⟩ := HK.out _ HC1.out
  have a0 : w1.cell? ⟨w.heap.size, 0, none⟩ = some (.int .i64 most) := B4.cell 0
  have a1 : w1.cell? ⟨w.heap.size, 1, none⟩ = some (.slice rA n rc) := B4.cell 1
  have a2 : w1.cell? ⟨w.heap.size, 2, none⟩ = some (.bool false) := B4.cell 2
  have a3 : w1.cell? ⟨w.heap.size, 3, none⟩ = some (.string ⟨#[]⟩) := B4.cell 3
  have a4 : w1.cell? ⟨w.heap.size, 4, none⟩ = some (.string ⟨#[]⟩) := B4.cell 4
  have a5 : w1.cell? ⟨w.heap.size, 5, none⟩ = some (.int .i64 0) := B4.cell 5
  have o0 : w1.cell? ⟨w.heap.size + 1, 0, none⟩ = some (.int .u8 kd) := B5.cell 0
  have o1 : w1.cell? ⟨w.heap.size + 1, 1, none⟩ = some (.string s1) := B5.cell 1
  have o2 : w1.cell? ⟨w.heap.size + 1, 2, none⟩ = some (.string s2) := B5.cell 2
  have z0 : w1.cell? ⟨w.heap.size + 1 + 1, 0, none⟩ = some (.int .i64 0) := B6.cell 0
  have y0 : w1.frozen? ⟨w.heap.size + 1 + 1, 0, none⟩ = false := B6.frozen 0
  have z1 : w1.cell? ⟨w.heap.size + 1 + 1, 1, none⟩ = some (.slice none 0 0) := B6.cell 1
  have y1 : w1.frozen? ⟨w.heap.size + 1 + 1, 1, none⟩ = false := B6.frozen 1
  have z2 : w1.cell? ⟨w.heap.size + 1 + 1, 2, none⟩ = some (.bool false) := B6.cell 2
  have y2 : w1.frozen? ⟨w.heap.size + 1 + 1, 2, none⟩ = false := B6.frozen 2
  have z3 : w1.cell? ⟨w.heap.size + 1 + 1, 3, none⟩ = some (.string ⟨#[]⟩) := B6.cell 3
  have y3 : w1.frozen? ⟨w.heap.size + 1 + 1, 3, none⟩ = false := B6.frozen 3
  have z4 : w1.cell? ⟨w.heap.size + 1 + 1, 4, none⟩ = some (.string ⟨#[]⟩) := B6.cell 4
  have y4 : w1.frozen? ⟨w.heap.size + 1 + 1, 4, none⟩ = false := B6.frozen 4
  have z5 : w1.cell? ⟨w.heap.size + 1 + 1, 5, none⟩ = some (.int .i64 0) := B6.cell 5
  have y5 : w1.frozen? ⟨w.heap.size + 1 + 1, 5, none⟩ = false := B6.frozen 5
  have hz : w.heap.size + 1 + 1 < w1.heap.size := B6.lt
  clear B4 B5 B6
  have hrl := rnewer_none most rA n rc w1
  rw [HU.out] at hrl
  have HRL := Lib.hid hrl
  clear hrl
  go_wp2_with (fail)
  refine HRL.out.mono ?_
  rintro e w2 ⟨rfl, hb2⟩
  have HC2 := Lib.hid (HC1.out.trans (Chg.of_below (S := noB) hb2) (fun _ h => h.elim))
  have HB2 := Lib.hid hb2
  clear hb2
  clear a0 a1 a2 a3 a4 a5 o0 o1 o2 z0 y0 z1 y1 z2 y2 z3 y3 z4 y4 z5 y5 hz
  obtain ⟨B4, B5, B6⟩ := HK.out _ HC2.out
  have a0 : w2.cell? ⟨w.heap.size, 0, none⟩ = some (.int .i64 most) := B4.cell 0
  have a1 : w2.cell? ⟨w.heap.size, 1, none⟩ = some (.slice rA n rc) := B4.cell 1
  have a2 : w2.cell? ⟨w.heap.size, 2, none⟩ = some (.bool false) := B4.cell 2
  have a3 : w2.cell? ⟨w.heap.size, 3, none⟩ = some (.string ⟨#[]⟩) := B4.cell 3
  have a4 : w2.cell? ⟨w.heap.size, 4, none⟩ = some (.string ⟨#[]⟩) := B4.cell 4
  have a5 : w2.cell? ⟨w.heap.size, 5, none⟩ = some (.int .i64 0) := B4.cell 5
  have o0 : w2.cell? ⟨w.heap.size + 1, 0, none⟩ = some (.int .u8 kd) := B5.cell 0
  have o1 : w2.cell? ⟨w.heap.size + 1, 1, none⟩ = some (.string s1) := B5.cell 1
  have o2 : w2.cell? ⟨w.heap.size + 1, 2, none⟩ = some (.string s2) := B5.cell 2
  have z0 : w2.cell? ⟨w.heap.size + 1 + 1, 0, none⟩ = some (.int .i64 0) := B6.cell 0
  have y0 : w2.frozen? ⟨w.heap.size + 1 + 1, 0, none⟩ = false := B6.frozen 0
  have z1 : w2.cell? ⟨w.heap.size + 1 + 1, 1, none⟩ = some (.slice none 0 0) := B6.cell 1
  have y1 : w2.frozen? ⟨w.heap.size + 1 + 1, 1, none⟩ = false := B6.frozen 1
  have z2 : w2.cell? ⟨w.heap.size + 1 + 1, 2, none⟩ = some (.bool false) := B6.cell 2
  have y2 : w2.frozen? ⟨w.heap.size + 1 + 1, 2, none⟩ = false := B6.frozen 2
  have z3 : w2.cell? ⟨w.heap.size + 1 + 1, 3, none⟩ = some (.string ⟨#[]⟩) := B6.cell 3
  have y3 : w2.frozen? ⟨w.heap.size + 1 + 1, 3, none⟩ = false := B6.frozen 3
  have z4 : w2.cell? ⟨w.heap.size + 1 + 1, 4, none⟩ = some (.string ⟨#[]⟩) := B6.cell 4
  have y4 : w2.frozen? ⟨w.heap.size + 1 + 1, 4, none⟩ = false := B6.frozen 4
  have z5 : w2.cell? ⟨w.heap.size + 1 + 1, 5, none⟩ = some (.int .i64 0) := B6.cell 5
  have y5 : w2.frozen? ⟨w.heap.size + 1 + 1, 5, none⟩ = false := B6.frozen 5
  have hz : w.heap.size + 1 + 1 < w2.heap.size := B6.lt
  clear B4 B5 B6
  go_wp2_with (fail)
  refine bodyPost_ret (hsres_ct (ad := w.heap.size + 1 + 1) (cs := [.int .i64 most, .slice rA n rc, .bool false, .string ⟨#[]⟩, .string ⟨#[]⟩, .int .i64 0]) rfl rfl rfl (Blk.range (t := 29) ?_ 0 _ (fun j v hv => by simpa [rvC, rwC] using hv)) Tryd.underlying29 rfl rh_size) rfl ?_
  · exact (((((((HK.out _ HC2.out).2.2.set_ 0 _).set_ 1 _).set_ 2 _).set_ 3 _).set_ 4 _).set_ 5 _).alloc _
  · refine StepH.close (K' := none) (HCW.out.trans HC1.out (fun j hj => .inl hj)) Q1.out (HK.out _ HC1.out).2.2 (by omega) HH.out HB2.out (HR1.out.chg (Chg.of_below (S := noB) HB2.out) (fun _ _ h => h)) (fun k hk => by have := (HAP.out k hk).2; omega) ((((((((Chg.refl (one (w.heap.size + 1 + 1)) w2).setCell (p := ⟨w.heap.size + 1 + 1, 0, none⟩) (.inl rfl) _).setCell (p := ⟨w.heap.size + 1 + 1, 1, none⟩) (.inl rfl) _).setCell (p := ⟨w.heap.size + 1 + 1, 2, none⟩) (.inl rfl) _).setCell (p := ⟨w.heap.size + 1 + 1, 3, none⟩) (.inl rfl) _).setCell (p := ⟨w.heap.size + 1 + 1, 4, none⟩) (.inl rfl) _).setCell (p := ⟨w.heap.size + 1 + 1, 5, none⟩) (.inl rfl) _).alloc _) (fun _ e => by cases e) HU.out (OwnN.refl _ _ _ _) (fun k hk => .inl hk)
set_option maxHeartbeats 16000000 in
theorem step_newer1 {w : World} {lo h c most : Nat} {A : Option Addr} {L : List (List UInt8)} {k0 : HW} (q : HsAt w lo h A c most L (some k0)) (hlw : lo ≤ w.heap.size) (rA : Option Addr) (n rc : Nat) (hR : RowH w h rA n rc L) (hKB : KB (some k0)) (kd : Int) (s1 s2 : ByteArray) (hd0 : 0 ≤ kd) (hd1 : kd ≤ 255) (hk : kd % 8 = 5) :
    Calls Tryd.prog 10 #[.pointer (some ⟨h, 0, none⟩), .agg (rvC most rA n rc (some k0)).toArray, .agg #[.int .u8 kd, .string s1, .string s2]] w (StepH w lo h most A (some k0) rA) := by
  have hq3 : (kd % 8 == 3) = false := by simp; omega
  have hq4 : (kd % 8 == 4) = false := by simp; omega
  have hq5 : (kd % 8 == 5) = true := by simp; omega
  have hok : ∀ l ∈ L, l.length ≤ 3000 := fun l hl => (q.ok l hl).2
  have hki : k0.i < L.length := (q.wk k0 rfl).2.2.2
  have hl4 : n ≤ 256 := by rw [hR.len]; exact q.len4
  have hkb := hKB k0 rfl
  have HOK := Lib.hid hok
  have HKI := Lib.hid hki
  have HKL := Lib.hid hkb
  clear hok hki hkb
  have hh : h < w.heap.size := q.head.lt
  obtain ⟨u2, u3, u4, u5, hu⟩ := rvC_cells most rA n rc (some k0)
  rw [hu]
  obtain ⟨W, hW⟩ : ∃ W, W = ((w.alloc (.cells #[.int .i64 most, .slice rA n rc, u2, u3, u4, u5] 29)).alloc (.cells #[.int .u8 kd, .string s1, .string s2] 34)).alloc (.cells #[.int .i64 0, .slice none 0 0, .bool false, .string ⟨#[]⟩, .string ⟨#[]⟩, .int .i64 0] 29) := ⟨_, rfl⟩
  have hb0 : Below w.heap.size w W := by rw [hW]; exact (((Below.refl _ w).alloc (Nat.le_refl _) _).alloc (by simp) _).alloc (by simp; omega) _
  have hB4 : Blk W w.heap.size 29 [.int .i64 most, .slice rA n rc, u2, u3, u4, u5] := by rw [hW]; exact ((Blk.new w 29 _).alloc _).alloc _
  have hB5 : Blk W (w.heap.size + 1) 34 [.int .u8 kd, .string s1, .string s2] := by
    have := (Blk.new (w.alloc (.cells #[.int .i64 most, .slice rA n rc, u2, u3, u4, u5] 29)) 34 [.int .u8 kd, .string s1, .string s2]).alloc (.cells #[.int .i64 0, .slice none 0 0, .bool false, .string ⟨#[]⟩, .string ⟨#[]⟩, .int .i64 0] 29)
    rw [hW]; simpa using this
  have hB6 : Blk W (w.heap.size + 1 + 1) 29 blankH := by
    have := Blk.new ((w.alloc (.cells #[.int .i64 most, .slice rA n rc, u2, u3, u4, u5] 29)).alloc (.cells #[.int .u8 kd, .string s1, .string s2] 34)) 29 blankH
    rw [hW]; simpa [blankH] using this
  have hk4 : ∀ V, Chg (one h) W V → Blk V w.heap.size 29 [.int .i64 most, .slice rA n rc, u2, u3, u4, u5] ∧ Blk V (w.heap.size + 1) 34 [.int .u8 kd, .string s1, .string s2] ∧ Blk V (w.heap.size + 1 + 1) 29 blankH := fun V hV =>
    ⟨hB4.chg hV (fun e => by unfold one at e; omega), hB5.chg hV (fun e => by unfold one at e; omega), hB6.chg hV (fun e => by unfold one at e; omega)⟩
  have HK := Lib.hid hk4
  have HB0 := Lib.hid hb0
  have HR0 := Lib.hid (hR.chg (Chg.of_below (S := noB) hb0) (fun _ _ h => h))
  have Q0 := Lib.hid (q.below hb0)
  have HCW := Lib.hid (Chg.of_below (S := one h) hb0)
  have HH := Lib.hid hh
  have HU := Lib.hid hu
  have HAP := Lib.hid hR.ap
  have HKB := Lib.hid hKB
  clear hR q hk4 hb0 hB4 hB5 hB6 hh hu hKB
  obtain ⟨B4, B5, B6⟩ := HK.out _ (Chg.refl _ W)
  have a0 : W.cell? ⟨w.heap.size, 0, none⟩ = some (.int .i64 most) := B4.cell 0
  have a1 : W.cell? ⟨w.heap.size, 1, none⟩ = some (.slice rA n rc) := B4.cell 1
  have a2 : W.cell? ⟨w.heap.size, 2, none⟩ = some (u2) := B4.cell 2
  have a3 : W.cell? ⟨w.heap.size, 3, none⟩ = some (u3) := B4.cell 3
  have a4 : W.cell? ⟨w.heap.size, 4, none⟩ = some (u4) := B4.cell 4
  have a5 : W.cell? ⟨w.heap.size, 5, none⟩ = some (u5) := B4.cell 5
  have o0 : W.cell? ⟨w.heap.size + 1, 0, none⟩ = some (.int .u8 kd) := B5.cell 0
  have o1 : W.cell? ⟨w.heap.size + 1, 1, none⟩ = some (.string s1) := B5.cell 1
  have o2 : W.cell? ⟨w.heap.size + 1, 2, none⟩ = some (.string s2) := B5.cell 2
  have z0 : W.cell? ⟨w.heap.size + 1 + 1, 0, none⟩ = some (.int .i64 0) := B6.cell 0
  have y0 : W.frozen? ⟨w.heap.size + 1 + 1, 0, none⟩ = false := B6.frozen 0
  have z1 : W.cell? ⟨w.heap.size + 1 + 1, 1, none⟩ = some (.slice none 0 0) := B6.cell 1
  have y1 : W.frozen? ⟨w.heap.size + 1 + 1, 1, none⟩ = false := B6.frozen 1
  have z2 : W.cell? ⟨w.heap.size + 1 + 1, 2, none⟩ = some (.bool false) := B6.cell 2
  have y2 : W.frozen? ⟨w.heap.size + 1 + 1, 2, none⟩ = false := B6.frozen 2
  have z3 : W.cell? ⟨w.heap.size + 1 + 1, 3, none⟩ = some (.string ⟨#[]⟩) := B6.cell 3
  have y3 : W.frozen? ⟨w.heap.size + 1 + 1, 3, none⟩ = false := B6.frozen 3
  have z4 : W.cell? ⟨w.heap.size + 1 + 1, 4, none⟩ = some (.string ⟨#[]⟩) := B6.cell 4
  have y4 : W.frozen? ⟨w.heap.size + 1 + 1, 4, none⟩ = false := B6.frozen 4
  have z5 : W.cell? ⟨w.heap.size + 1 + 1, 5, none⟩ = some (.int .i64 0) := B6.cell 5
  have y5 : W.frozen? ⟨w.heap.size + 1 + 1, 5, none⟩ = false := B6.frozen 5
  have hz : w.heap.size + 1 + 1 < W.heap.size := B6.lt
  clear B4 B5 B6
  go_enter Tryd.func10, Tryd.ntmps10
  go_upto_region 1 with (fail)
  rw [← hW]
  clear hW
  go_wp2_with (fail)
  refine (hnewer_some Q0.out (by have := HB0.out.size; omega)).mono ?_
  rintro e w1 (⟨hp, rfl, hq1, hc1⟩ | ⟨i, l, hp, rfl, hq1, hc1⟩)
  · have HP := Lib.hid hp
    clear hp
    have HC1 := Lib.hid hc1
    have Q1 := Lib.hid hq1
    have HR1 := Lib.hid (HR0.out.chg hc1 (fun k hk e => (HR0.out.ap k hk).1 e))
    clear hq1 hc1
    clear a0 a1 a2 a3 a4 a5 o0 o1 o2 z0 y0 z1 y1 z2 y2 z3 y3 z4 y4 z5 y5 hz
    obtain ⟨B4, B5, B6⟩ := HK.out _ HC1.out
    have a0 : w1.cell? ⟨w.heap.size, 0, none⟩ = some (.int .i64 most) := B4.cell 0
    have a1 : w1.cell? ⟨w.heap.size, 1, none⟩ = some (.slice rA n rc) := B4.cell 1
    have a2 : w1.cell? ⟨w.heap.size, 2, none⟩ = some (u2) := B4.cell 2
    have a3 : w1.cell? ⟨w.heap.size, 3, none⟩ = some (u3) := B4.cell 3
    have a4 : w1.cell? ⟨w.heap.size, 4, none⟩ = some (u4) := B4.cell 4
    have a5 : w1.cell? ⟨w.heap.size, 5, none⟩ = some (u5) := B4.cell 5
    have o0 : w1.cell? ⟨w.heap.size + 1, 0, none⟩ = some (.int .u8 kd) := B5.cell 0
    have o1 : w1.cell? ⟨w.heap.size + 1, 1, none⟩ = some (.string s1) := B5.cell 1
    have o2 : w1.cell? ⟨w.heap.size + 1, 2, none⟩ = some (.string s2) := B5.cell 2
    have z0 : w1.cell? ⟨w.heap.size + 1 + 1, 0, none⟩ = some (.int .i64 0) := B6.cell 0
    have y0 : w1.frozen? ⟨w.heap.size + 1 + 1, 0, none⟩ = false := B6.frozen 0
    have z1 : w1.cell? ⟨w.heap.size + 1 + 1, 1, none⟩ = some (.slice none 0 0) := B6.cell 1
    have y1 : w1.frozen? ⟨w.heap.size + 1 + 1, 1, none⟩ = false := B6.frozen 1
    have z2 : w1.cell? ⟨w.heap.size + 1 + 1, 2, none⟩ = some (.bool false) := B6.cell 2
    have y2 : w1.frozen? ⟨w.heap.size + 1 + 1, 2, none⟩ = false := B6.frozen 2
    have z3 : w1.cell? ⟨w.heap.size + 1 + 1, 3, none⟩ = some (.string ⟨#[]⟩) := B6.cell 3
    have y3 : w1.frozen? ⟨w.heap.size + 1 + 1, 3, none⟩ = false := B6.frozen 3
    have z4 : w1.cell? ⟨w.heap.size + 1 + 1, 4, none⟩ = some (.string ⟨#[]⟩) := B6.cell 4
    have y4 : w1.frozen? ⟨w.heap.size + 1 + 1, 4, none⟩ = false := B6.frozen 4
    have z5 : w1.cell? ⟨w.heap.size + 1 + 1, 5, none⟩ = some (.int .i64 0) := B6.cell 5
    have y5 : w1.frozen? ⟨w.heap.size + 1 + 1, 5, none⟩ = false := B6.frozen 5
    have hz : w.heap.size + 1 + 1 < w1.heap.size := B6.lt
    clear B4 B5 B6
    have hrl : Calls Tryd.prog 28 #[.agg (rvC most rA n rc (some k0)).toArray] w1 fun e w' => e = .returned (.tuple #[.agg (rvC most rA n rc none).toArray, .string ⟨k0.d.toArray⟩, .bool true]) ∧ Below w1.heap.size w1 w' := (rnewer_some most L HOK.out rA n rc k0.d k0.b k0.i k0.xd k0.xb (by have := HKL.out.1; omega) (by have := HKL.out.2; omega) w1 HR1.out.len hl4 HR1.out.s HKI.out).mono (by
      rintro e w' (⟨_, rfl, hb⟩ | ⟨j, l, hj, _, _⟩)
      · exact ⟨rfl, hb⟩
      · rw [HP.out] at hj; cases hj)
    rw [HU.out] at hrl
    simp only [rvC, rwC] at hrl
    have HRL := Lib.hid hrl
    clear hrl
    go_wp2_with (fail)
    refine HRL.out.mono ?_
    rintro e w2 ⟨rfl, hb2⟩
    have HC2 := Lib.hid (HC1.out.trans (Chg.of_below (S := noB) hb2) (fun _ h => h.elim))
    have HB2 := Lib.hid hb2
    clear hb2
    clear a0 a1 a2 a3 a4 a5 o0 o1 o2 z0 y0 z1 y1 z2 y2 z3 y3 z4 y4 z5 y5 hz
    obtain ⟨B4, B5, B6⟩ := HK.out _ HC2.out
    have a0 : w2.cell? ⟨w.heap.size, 0, none⟩ = some (.int .i64 most) := B4.cell 0
    have a1 : w2.cell? ⟨w.heap.size, 1, none⟩ = some (.slice rA n rc) := B4.cell 1
    have a2 : w2.cell? ⟨w.heap.size, 2, none⟩ = some (u2) := B4.cell 2
    have a3 : w2.cell? ⟨w.heap.size, 3, none⟩ = some (u3) := B4.cell 3
    have a4 : w2.cell? ⟨w.heap.size, 4, none⟩ = some (u4) := B4.cell 4
    have a5 : w2.cell? ⟨w.heap.size, 5, none⟩ = some (u5) := B4.cell 5
    have o0 : w2.cell? ⟨w.heap.size + 1, 0, none⟩ = some (.int .u8 kd) := B5.cell 0
    have o1 : w2.cell? ⟨w.heap.size + 1, 1, none⟩ = some (.string s1) := B5.cell 1
    have o2 : w2.cell? ⟨w.heap.size + 1, 2, none⟩ = some (.string s2) := B5.cell 2
    have z0 : w2.cell? ⟨w.heap.size + 1 + 1, 0, none⟩ = some (.int .i64 0) := B6.cell 0
    have y0 : w2.frozen? ⟨w.heap.size + 1 + 1, 0, none⟩ = false := B6.frozen 0
    have z1 : w2.cell? ⟨w.heap.size + 1 + 1, 1, none⟩ = some (.slice none 0 0) := B6.cell 1
    have y1 : w2.frozen? ⟨w.heap.size + 1 + 1, 1, none⟩ = false := B6.frozen 1
    have z2 : w2.cell? ⟨w.heap.size + 1 + 1, 2, none⟩ = some (.bool false) := B6.cell 2
    have y2 : w2.frozen? ⟨w.heap.size + 1 + 1, 2, none⟩ = false := B6.frozen 2
    have z3 : w2.cell? ⟨w.heap.size + 1 + 1, 3, none⟩ = some (.string ⟨#[]⟩) := B6.cell 3
    have y3 : w2.frozen? ⟨w.heap.size + 1 + 1, 3, none⟩ = false := B6.frozen 3
    have z4 : w2.cell? ⟨w.heap.size + 1 + 1, 4, none⟩ = some (.string ⟨#[]⟩) := B6.cell 4
    have y4 : w2.frozen? ⟨w.heap.size + 1 + 1, 4, none⟩ = false := B6.frozen 4
    have z5 : w2.cell? ⟨w.heap.size + 1 + 1, 5, none⟩ = some (.int .i64 0) := B6.cell 5
    have y5 : w2.frozen? ⟨w.heap.size + 1 + 1, 5, none⟩ = false := B6.frozen 5
    have hz : w.heap.size + 1 + 1 < w2.heap.size := B6.lt
    clear B4 B5 B6
    go_wp2_with (fail)
    refine bodyPost_ret (hsres_ct (ad := w.heap.size + 1 + 1) (cs := rvC most rA n rc none) rfl rfl rfl (Blk.range (t := 29) ?_ 0 _ (fun j v hv => by simpa [rvC, rwC] using hv)) Tryd.underlying29 rfl rh_size) rfl ?_
    · exact (((((((HK.out _ HC2.out).2.2.set_ 0 _).set_ 1 _).set_ 2 _).set_ 3 _).set_ 4 _).set_ 5 _).alloc _
    · refine StepH.close (K' := none) (HCW.out.trans HC1.out (fun j hj => .inl hj)) Q1.out (HK.out _ HC1.out).2.2 (by omega) HH.out HB2.out (HR1.out.chg (Chg.of_below (S := noB) HB2.out) (fun _ _ h => h)) (fun k hk => by have := (HAP.out k hk).2; omega) ((((((((Chg.refl (one (w.heap.size + 1 + 1)) w2).setCell (p := ⟨w.heap.size + 1 + 1, 0, none⟩) (.inl rfl) _).setCell (p := ⟨w.heap.size + 1 + 1, 1, none⟩) (.inl rfl) _).setCell (p := ⟨w.heap.size + 1 + 1, 2, none⟩) (.inl rfl) _).setCell (p := ⟨w.heap.size + 1 + 1, 3, none⟩) (.inl rfl) _).setCell (p := ⟨w.heap.size + 1 + 1, 4, none⟩) (.inl rfl) _).setCell (p := ⟨w.heap.size + 1 + 1, 5, none⟩) (.inl rfl) _).alloc _) (fun _ e => by cases e) rfl (OwnN.ended _ _ _ _) (fun k hk => .inl hk)
  · have HP := Lib.hid hp
    clear hp
    have HC1 := Lib.hid hc1
    have Q1 := Lib.hid hq1
    have HR1 := Lib.hid (HR0.out.chg hc1 (fun k hk e => (HR0.out.ap k hk).1 e))
    clear hq1 hc1
    clear a0 a1 a2 a3 a4 a5 o0 o1 o2 z0 y0 z1 y1 z2 y2 z3 y3 z4 y4 z5 y5 hz
    obtain ⟨B4, B5, B6⟩ := HK.out _ HC1.out
    have a0 : w1.cell? ⟨w.heap.size, 0, none⟩ = some (.int .i64 most) := B4.cell 0
    have a1 : w1.cell? ⟨w.heap.size, 1, none⟩ = some (.slice rA n rc) := B4.cell 1
    have a2 : w1.cell? ⟨w.heap.size, 2, none⟩ = some (u2) := B4.cell 2
    have a3 : w1.cell? ⟨w.heap.size, 3, none⟩ = some (u3) := B4.cell 3
    have a4 : w1.cell? ⟨w.heap.size, 4, none⟩ = some (u4) := B4.cell 4
    have a5 : w1.cell? ⟨w.heap.size, 5, none⟩ = some (u5) := B4.cell 5
    have o0 : w1.cell? ⟨w.heap.size + 1, 0, none⟩ = some (.int .u8 kd) := B5.cell 0
    have o1 : w1.cell? ⟨w.heap.size + 1, 1, none⟩ = some (.string s1) := B5.cell 1
    have o2 : w1.cell? ⟨w.heap.size + 1, 2, none⟩ = some (.string s2) := B5.cell 2
    have z0 : w1.cell? ⟨w.heap.size + 1 + 1, 0, none⟩ = some (.int .i64 0) := B6.cell 0
    have y0 : w1.frozen? ⟨w.heap.size + 1 + 1, 0, none⟩ = false := B6.frozen 0
    have z1 : w1.cell? ⟨w.heap.size + 1 + 1, 1, none⟩ = some (.slice none 0 0) := B6.cell 1
    have y1 : w1.frozen? ⟨w.heap.size + 1 + 1, 1, none⟩ = false := B6.frozen 1
    have z2 : w1.cell? ⟨w.heap.size + 1 + 1, 2, none⟩ = some (.bool false) := B6.cell 2
    have y2 : w1.frozen? ⟨w.heap.size + 1 + 1, 2, none⟩ = false := B6.frozen 2
    have z3 : w1.cell? ⟨w.heap.size + 1 + 1, 3, none⟩ = some (.string ⟨#[]⟩) := B6.cell 3
    have y3 : w1.frozen? ⟨w.heap.size + 1 + 1, 3, none⟩ = false := B6.frozen 3
    have z4 : w1.cell? ⟨w.heap.size + 1 + 1, 4, none⟩ = some (.string ⟨#[]⟩) := B6.cell 4
    have y4 : w1.frozen? ⟨w.heap.size + 1 + 1, 4, none⟩ = false := B6.frozen 4
    have z5 : w1.cell? ⟨w.heap.size + 1 + 1, 5, none⟩ = some (.int .i64 0) := B6.cell 5
    have y5 : w1.frozen? ⟨w.heap.size + 1 + 1, 5, none⟩ = false := B6.frozen 5
    have hz : w.heap.size + 1 + 1 < w1.heap.size := B6.lt
    clear B4 B5 B6
    have hrl : Calls Tryd.prog 28 #[.agg (rvC most rA n rc (some k0)).toArray] w1 fun e w' => e = .returned (.tuple #[.agg (rvC most rA n rc (some ⟨k0.d, k0.b, i, 0, 0⟩)).toArray, .string ⟨l.toArray⟩, .bool true]) ∧ Below w1.heap.size w1 w' := (rnewer_some most L HOK.out rA n rc k0.d k0.b k0.i k0.xd k0.xb (by have := HKL.out.1; omega) (by have := HKL.out.2; omega) w1 HR1.out.len hl4 HR1.out.s HKI.out).mono (by
      rintro e w' (⟨hj, _, _⟩ | ⟨j, l2, hj, rfl, hb⟩)
      · rw [HP.out] at hj; cases hj
      · rw [HP.out] at hj; injection hj with hj; injection hj with h1 h2; subst h1; subst h2; exact ⟨rfl, hb⟩)
    rw [HU.out] at hrl
    simp only [rvC, rwC] at hrl
    have HRL := Lib.hid hrl
    clear hrl
    go_wp2_with (fail)
    refine HRL.out.mono ?_
    rintro e w2 ⟨rfl, hb2⟩
    have HC2 := Lib.hid (HC1.out.trans (Chg.of_below (S := noB) hb2) (fun _ h => h.elim))
    have HB2 := Lib.hid hb2
    clear hb2
    clear a0 a1 a2 a3 a4 a5 o0 o1 o2 z0 y0 z1 y1 z2 y2 z3 y3 z4 y4 z5 y5 hz
    obtain ⟨B4, B5, B6⟩ := HK.out _ HC2.out
    have a0 : w2.cell? ⟨w.heap.size, 0, none⟩ = some (.int .i64 most) := B4.cell 0
    have a1 : w2.cell? ⟨w.heap.size, 1, none⟩ = some (.slice rA n rc) := B4.cell 1
    have a2 : w2.cell? ⟨w.heap.size, 2, none⟩ = some (u2) := B4.cell 2
    have a3 : w2.cell? ⟨w.heap.size, 3, none⟩ = some (u3) := B4.cell 3
    have a4 : w2.cell? ⟨w.heap.size, 4, none⟩ = some (u4) := B4.cell 4
    have a5 : w2.cell? ⟨w.heap.size, 5, none⟩ = some (u5) := B4.cell 5
    have o0 : w2.cell? ⟨w.heap.size + 1, 0, none⟩ = some (.int .u8 kd) := B5.cell 0
    have o1 : w2.cell? ⟨w.heap.size + 1, 1, none⟩ = some (.string s1) := B5.cell 1
    have o2 : w2.cell? ⟨w.heap.size + 1, 2, none⟩ = some (.string s2) := B5.cell 2
    have z0 : w2.cell? ⟨w.heap.size + 1 + 1, 0, none⟩ = some (.int .i64 0) := B6.cell 0
    have y0 : w2.frozen? ⟨w.heap.size + 1 + 1, 0, none⟩ = false := B6.frozen 0
    have z1 : w2.cell? ⟨w.heap.size + 1 + 1, 1, none⟩ = some (.slice none 0 0) := B6.cell 1
    have y1 : w2.frozen? ⟨w.heap.size + 1 + 1, 1, none⟩ = false := B6.frozen 1
    have z2 : w2.cell? ⟨w.heap.size + 1 + 1, 2, none⟩ = some (.bool false) := B6.cell 2
    have y2 : w2.frozen? ⟨w.heap.size + 1 + 1, 2, none⟩ = false := B6.frozen 2
    have z3 : w2.cell? ⟨w.heap.size + 1 + 1, 3, none⟩ = some (.string ⟨#[]⟩) := B6.cell 3
    have y3 : w2.frozen? ⟨w.heap.size + 1 + 1, 3, none⟩ = false := B6.frozen 3
    have z4 : w2.cell? ⟨w.heap.size + 1 + 1, 4, none⟩ = some (.string ⟨#[]⟩) := B6.cell 4
    have y4 : w2.frozen? ⟨w.heap.size + 1 + 1, 4, none⟩ = false := B6.frozen 4
    have z5 : w2.cell? ⟨w.heap.size + 1 + 1, 5, none⟩ = some (.int .i64 0) := B6.cell 5
    have y5 : w2.frozen? ⟨w.heap.size + 1 + 1, 5, none⟩ = false := B6.frozen 5
    have hz : w.heap.size + 1 + 1 < w2.heap.size := B6.lt
    clear B4 B5 B6
    go_wp2_with (fail)
    refine bodyPost_ret (hsres_ct (ad := w.heap.size + 1 + 1) (cs := rvC most rA n rc (some ⟨k0.d, k0.b, i, k0.xd, k0.xb⟩)) rfl rfl rfl (Blk.range (t := 29) ?_ 0 _ (fun j v hv => by simpa [rvC, rwC] using hv)) Tryd.underlying29 rfl rh_size) rfl ?_
    · exact (((((((HK.out _ HC2.out).2.2.set_ 0 _).set_ 1 _).set_ 2 _).set_ 3 _).set_ 4 _).set_ 5 _).alloc _
    · refine StepH.close (K' := some ⟨k0.d, k0.b, i, k0.xd, k0.xb⟩) (HCW.out.trans HC1.out (fun j hj => .inl hj)) Q1.out (HK.out _ HC1.out).2.2 (by omega) HH.out HB2.out (HR1.out.chg (Chg.of_below (S := noB) HB2.out) (fun _ _ h => h)) (fun k hk => by have := (HAP.out k hk).2; omega) ((((((((Chg.refl (one (w.heap.size + 1 + 1)) w2).setCell (p := ⟨w.heap.size + 1 + 1, 0, none⟩) (.inl rfl) _).setCell (p := ⟨w.heap.size + 1 + 1, 1, none⟩) (.inl rfl) _).setCell (p := ⟨w.heap.size + 1 + 1, 2, none⟩) (.inl rfl) _).setCell (p := ⟨w.heap.size + 1 + 1, 3, none⟩) (.inl rfl) _).setCell (p := ⟨w.heap.size + 1 + 1, 4, none⟩) (.inl rfl) _).setCell (p := ⟨w.heap.size + 1 + 1, 5, none⟩) (.inl rfl) _).alloc _) (fun _ e => by injection e with e; subst e; exact HKL.out) rfl (OwnN.walk _ _ _ _ _ _ _) (fun k hk => .inl hk)
end Go.Proofs.YtfjiogockpmogaaDoor
