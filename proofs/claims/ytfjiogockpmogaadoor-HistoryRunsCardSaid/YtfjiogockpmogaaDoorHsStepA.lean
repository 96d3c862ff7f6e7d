/-
  Walk: the law's step: Add.
-/
import Derived.Test.YtfjiogockpmogaaDoorHsStep
import Derived.Test.YtfjiogockpmogaaDoorHsRAdd
import Derived.Test.YtfjiogockpmogaaDoorRegK2
namespace Go.Proofs.YtfjiogockpmogaaDoor
open Go.RowKit Go.Sort
set_option linter.unusedVariables false
set_option linter.unusedSimpArgs false
set_option maxRecDepth 100000
/-- what was there stands (the size goes unsaid) -/
def SBel (a b : World) : Prop := Below a.heap.size a b
set_option maxHeartbeats 16000000 in
theorem step_add {w : World} {lo h c most : Nat} {A : Option Addr} {L : List (List UInt8)} {K : Option HW} (q : HsAt w lo h A c most L K) (hlw : lo ≤ w.heap.size) (rA : Option Addr) (n rc : Nat) (hR : RowH w h rA n rc L) (hKB : KB K) (kd : Int) (s1 s2 : ByteArray) (hd0 : 0 ≤ kd) (hd1 : kd ≤ 255) (hs1 : s1.size ≤ maxLen) (hT : Tabs w) (hTl : TLo lo) (hk : kd % 8 ≤ 2 ∨ kd % 8 = 7) :
    Calls Tryd.prog 10 #[.pointer (some ⟨h, 0, none⟩), .agg (rvC most rA n rc K).toArray, .agg #[.int .u8 kd, .string s1, .string s2]] w (StepH w lo h most A K rA) := by
  have hq3 : (kd % 8 == 3) = false := by simp; omega
  have hq4 : (kd % 8 == 4) = false := by simp; omega
  have hq5 : (kd % 8 == 5) = false := by simp; omega
  have hq6 : (kd % 8 == 6) = false := by simp; omega
  obtain ⟨sC, hsC⟩ : ∃ sC : ByteArray, sC = ⟨(cut60 s1.data.toList).toArray⟩ := ⟨_, rfl⟩
  have hsz : sC.size ≤ 60 := by rw [hsC]; have := cut60_len s1.data.toList; simpa [ByteArray.size] using this
  obtain ⟨bb, hbb⟩ : ∃ bb, bb = addB (flatB sC.data.toList) L := ⟨_, rfl⟩
  obtain ⟨L2, hL2⟩ : ∃ L2, L2 = (if addB (flatB sC.data.toList) L then addL most (flatB sC.data.toList) L else L) := ⟨_, rfl⟩
  have hok : ∀ l ∈ L, l.length ≤ 3000 := fun l hl => (q.ok l hl).2
  have hl4 : n ≤ 256 := by rw [hR.len]; exact q.len4
  have hm1 := q.m1
  have hm4 := q.m4
  have hnd2 : L2.Nodup := by rw [hL2]; split; exact addL_nodup hR.nd; exact hR.nd
  have PCUT : Hid (∀ V, Calls Tryd.prog 16 #[.string s1] V fun e w' => e = .returned (.string sC) ∧ V = w') := Lib.hid (fun V => by rw [hsC]; exact hcut_any s1 hs1 V)
  have HT := Lib.hid hT
  have HTL := Lib.hid hTl
  have HBB := Lib.hid hbb
  have HL2 := Lib.hid hL2
  have HND := Lib.hid hnd2
  have HOK := Lib.hid hok
  clear hT hTl hbb hL2 hnd2 hok hsC
  have hh : h < w.heap.size := q.head.lt
  obtain ⟨u2, u3, u4, u5, hu⟩ := rvC_cells most rA n rc K
  rw [hu]
  obtain ⟨W, hW⟩ : ∃ W, W = ((w.alloc (.cells #[.int .i64 most, .slice rA n rc, u2, u3, u4, u5] 29)).alloc (.cells #[.int .u8 kd, .string s1, .string s2] 34)).alloc (.cells #[.int .i64 0, .slice none 0 0, .bool false, .string ⟨#[]⟩, .string ⟨#[]⟩, .int .i64 0] 29) := ⟨_, rfl⟩
  have hb0 : Below w.heap.size w W := by rw [hW]; exact (((Below.refl _ w).alloc (Nat.le_refl _) _).alloc (by simp) _).alloc (by simp; omega) _
  have hB4 : Blk W w.heap.size 29 [.int .i64 most, .slice rA n rc, u2, u3, u4, u5] := by rw [hW]; exact ((Blk.new w 29 _).alloc _).alloc _
  have hB5 : Blk W (w.heap.size + 1) 34 [.int .u8 kd, .string s1, .string s2] := by
    have := (Blk.new (w.alloc (.cells #[.int .i64 most, .slice rA n rc, u2, u3, u4, u5] 29)) 34 [.int .u8 kd, .string s1, .string s2]).alloc (.cells #[.int .i64 0, .slice none 0 0, .bool false, .string ⟨#[]⟩, .string ⟨#[]⟩, .int .i64 0] 29)
    rw [hW]; simpa using this
  have hB6 : Blk W (w.heap.size + 1 + 1) 29 blankH := by
    have := Blk.new ((w.alloc (.cells #[.int .i64 most, .slice rA n rc, u2, u3, u4, u5] 29)).alloc (.cells #[.int .u8 kd, .string s1, .string s2] 34)) 29 blankH
    rw [hW]; simpa [blankH] using this
  have hk4 : ∀ V, Chg (one h) W V → Blk V w.heap.size 29 [.int .i64 most, .slice rA n rc, u2, u3, u4, u5] ∧ Blk V (w.heap.size + 1) 34 [.int .u8 kd, .string s1, .string s2] ∧ Blk V (w.heap.size + 1 + 1) 29 blankH := fun V hV =>
    ⟨hB4.chg hV (fun e => by unfold one at e; omega), hB5.chg hV (fun e => by unfold one at e; omega), hB6.chg hV (fun e => by unfold one at e; omega)⟩
  have HK := Lib.hid hk4
  have HB0 := Lib.hid hb0
  have HR0 := Lib.hid (hR.chg (Chg.of_below (S := noB) hb0) (fun _ _ h => h))
  have Q0 := Lib.hid (q.below hb0)
  have HCW := Lib.hid (Chg.of_below (S := one h) hb0)
  have HH := Lib.hid hh
  have HU := Lib.hid hu
  have HAP := Lib.hid hR.ap
  have HKB := Lib.hid hKB
  clear hR q hk4 hb0 hB4 hB5 hB6 hh hu hKB
  obtain ⟨B4, B5, B6⟩ := HK.out _ (Chg.refl _ W)
  have a0 : W.cell? ⟨w.heap.size, 0, none⟩ = some (.int .i64 most) := B4.cell 0
  have a1 : W.cell? ⟨w.heap.size, 1, none⟩ = some (.slice rA n rc) := B4.cell 1
  have a2 : W.cell? ⟨w.heap.size, 2, none⟩ = some (u2) := B4.cell 2
  have a3 : W.cell? ⟨w.heap.size, 3, none⟩ = some (u3) := B4.cell 3
  have a4 : W.cell? ⟨w.heap.size, 4, none⟩ = some (u4) := B4.cell 4
  have a5 : W.cell? ⟨w.heap.size, 5, none⟩ = some (u5) := B4.cell 5
  have o0 : W.cell? ⟨w.heap.size + 1, 0, none⟩ = some (.int .u8 kd) := B5.cell 0
  have o1 : W.cell? ⟨w.heap.size + 1, 1, none⟩ = some (.string s1) := B5.cell 1
  have o2 : W.cell? ⟨w.heap.size + 1, 2, none⟩ = some (.string s2) := B5.cell 2
  have z0 : W.cell? ⟨w.heap.size + 1 + 1, 0, none⟩ = some (.int .i64 0) := B6.cell 0
  have y0 : W.frozen? ⟨w.heap.size + 1 + 1, 0, none⟩ = false := B6.frozen 0
  have z1 : W.cell? ⟨w.heap.size + 1 + 1, 1, none⟩ = some (.slice none 0 0) := B6.cell 1
  have y1 : W.frozen? ⟨w.heap.size + 1 + 1, 1, none⟩ = false := B6.frozen 1
  have z2 : W.cell? ⟨w.heap.size + 1 + 1, 2, none⟩ = some (.bool false) := B6.cell 2
  have y2 : W.frozen? ⟨w.heap.size + 1 + 1, 2, none⟩ = false := B6.frozen 2
  have z3 : W.cell? ⟨w.heap.size + 1 + 1, 3, none⟩ = some (.string ⟨#[]⟩) := B6.cell 3
  have y3 : W.frozen? ⟨w.heap.size + 1 + 1, 3, none⟩ = false := B6.frozen 3
  have z4 : W.cell? ⟨w.heap.size + 1 + 1, 4, none⟩ = some (.string ⟨#[]⟩) := B6.cell 4
  have y4 : W.frozen? ⟨w.heap.size + 1 + 1, 4, none⟩ = false := B6.frozen 4
  have z5 : W.cell? ⟨w.heap.size + 1 + 1, 5, none⟩ = some (.int .i64 0) := B6.cell 5
  have y5 : W.frozen? ⟨w.heap.size + 1 + 1, 5, none⟩ = false := B6.frozen 5
  have hz : w.heap.size + 1 + 1 < W.heap.size := B6.lt
  clear B4 B5 B6
  go_enter Tryd.func10, Tryd.ntmps10
  go_upto_region 1 with (fail)
  rw [← hW]
  clear hW
  go_wp2_with (go_at_call 16; refine (PCUT.out _).mono ?_; rintro e w' ⟨rfl, rfl⟩)
  refine (hadd_anyX Q0.out sC (by omega) (HT.out.below HB0.out) HTL.out).mono ?_
  rintro e w1 ⟨A1, c1, rfl, hq1, hc1, hown⟩
  have HOWN := Lib.hid (hown.more HB0.out.size)
  clear hown
  rw [← HBB.out]
  rw [← HL2.out] at hq1
  have HC1 := Lib.hid hc1
  have Q1 := Lib.hid hq1
  have HR1 := Lib.hid (HR0.out.chg hc1 (fun k hk e => (HR0.out.ap k hk).1 e))
  clear hq1 hc1
  clear a0 a1 a2 a3 a4 a5 o0 o1 o2 z0 y0 z1 y1 z2 y2 z3 y3 z4 y4 z5 y5 hz
  have PADD : Hid (∀ V, Below w1.heap.size w1 V → Calls Tryd.prog 31 #[.agg #[.int .i64 most, .slice rA n rc, u2, u3, u4, u5], .string sC] V fun e wx => ∃ A' n' c', e = .returned (.tuple #[.agg #[.int .i64 most, .slice A' n' c', .bool false, .string ⟨#[]⟩, .string ⟨#[]⟩, .int .i64 0], .bool bb]) ∧ Hid (n' = L2.length ∧ Sl wx wx.heap.size A' (sv L2) ∧ n' ≤ c' ∧ (∀ k, blk A' = some k → blk rA = some k ∨ (V.heap.size ≤ k ∧ k < wx.heap.size))) ∧ Below V.heap.size V wx) := Lib.hid (fun V hV => by
    have h1 := radd_any most hm1 hm4 L HR1.out.nd HOK.out rA n rc K sC (by omega) V HR1.out.len hl4 HR1.out.nc ((HR1.out.s.below hV).more hV.size)
    rw [HU.out] at h1
    refine h1.mono ?_
    rintro e wx ⟨A', n', c', rfl, h2, h3, h4, h5, h6⟩
    rw [← HL2.out] at h2 h3
    exact ⟨A', n', c', by rw [← HBB.out]; rfl, Lib.hid ⟨h2, h3, h5, h6⟩, h4⟩)
  have HK9 : Hid (∀ V, Below w1.heap.size w1 V → Blk V w.heap.size 29 [.int .i64 most, .slice rA n rc, u2, u3, u4, u5] ∧ Blk V (w.heap.size + 1) 34 [.int .u8 kd, .string s1, .string s2] ∧ Blk V (w.heap.size + 1 + 1) 29 blankH) := Lib.hid (fun V hV => HK.out V (HC1.out.trans (Chg.of_below (S := noB) hV) (fun _ h => h.elim)))
  have HZ1 : Hid (w.heap.size + 1 + 1 < w1.heap.size) := Lib.hid (HK9.out w1 (Below.refl _ _)).2.2.lt
  have HDR := Lib.hid ((Below.refl w1.heap.size w1).drew)
  go_wp2_with (fail)
  have HSD : Hid ((fun W : World => SBel w1 W) w1.drew) := Lib.hid HDR.out
  refine wp_region_K (fun W : World => SBel w1 W) 10 (by kernel_rfl) ?_
  refine wpAnyK_take (i := 0) (v := .agg #[.int .i64 most, .slice rA n rc, u2, u3, u4, u5]) rfl (by kernel_rfl) (by kernel_rfl) (by kernel_rfl) (by kernel_rfl) (fun _ _ _ h => h) (yieldsIf_load_mid (by rfl) _ _ rfl w.heap.size 0 rfl [.int .i64 most, .slice rA n rc, u2, u3, u4, u5] _ (fun w h => Blk.range (t := 29) (HK9.out w h).1 0 _ (fun j v hv => by simpa using hv)) Tryd.underlying29 rfl rh_size) HSD.out ?_
  change wpAnyK _ _ _ _ _ _ _ _ (Act.put _ (some 33) _) _
  try simp only [Act.put, List.setIfInBounds_toArray, List.set_cons_zero, List.set_cons_succ]
  refine wpAnyK_takeP (i := 1) (v := ?v1) rfl (by kernel_rfl) (by kernel_rfl) (by kernel_rfl) (by kernel_rfl) (fun _ _ _ h => h) (Or.inl ⟨by rfl, fun w hSw => ?hy1⟩) (.inr HSD.out) ?rest1
  case hy1 =>
    go_simp
    try with_reducible rfl
  change wpAnyK _ _ _ _ _ _ _ _ (Act.put _ (some 34) _) _
  try simp only [Act.put, List.setIfInBounds_toArray, List.set_cons_zero, List.set_cons_succ]
  refine wpAnyK_take (i := 2) (v := .string s1) rfl (by kernel_rfl) (by kernel_rfl) (by kernel_rfl) (by kernel_rfl) (fun _ _ _ h => h) (Or.inl ⟨by rfl, fun w hSw => ?hy2⟩) HSD.out ?rest2
  case hy2 =>
    have s1 := (HK9.out w hSw).2.1.cell 1
    clear hSw
    try dsimp only at s1
    go_simp
    try with_reducible rfl
  change wpAnyK _ _ _ _ _ _ _ _ (Act.put _ (some 35) _) _
  try simp only [Act.put, List.setIfInBounds_toArray, List.set_cons_zero, List.set_cons_succ]
  refine wpAnyK_two (i := 3) (i' := 8) (by kernel_rfl) rfl rfl (fun K hK => ?gA) (fun K hK => ?gB)
  case' gA =>
    refine step_call rfl 16 _ _ rfl (enters_of Tryd.func16 (by kernel_rfl) rfl) #[.string s1] (by simp [Act.eval, Act.put]) (PCUT.out _) ?_
    rintro e wy ⟨rfl, rfl⟩
    refine ⟨_, rfl, ?_⟩
    refine hK.out _ _ (.inr HSD.out) ?_
    clear hK K
    change wpAnyK _ _ _ _ _ _ _ _ (Act.put _ (some 36) _) _
    try simp only [Act.put, List.setIfInBounds_toArray, List.set_cons_zero, List.set_cons_succ]
    refine wpAnyK_two (i := 4) (i' := 8) (by kernel_rfl) rfl rfl (fun K hK => ?gC) (fun K hK => ?gD)
    case' gC =>
      refine step_call rfl 31 _ _ rfl (enters_of Tryd.func31 (by kernel_rfl) rfl) #[.agg #[.int .i64 most, .slice rA n rc, u2, u3, u4, u5], .string sC] (by simp [Act.eval, Act.put]) (PADD.out _ HSD.out) ?_
      rintro e X ⟨A', n', c', rfl, hadd, hbw⟩
      refine ⟨_, rfl, ?_⟩
      have HBW := Lib.hid hbw
      have HSX : Hid ((fun W : World => SBel w1 W) X) := Lib.hid (HSD.out.trans (hbw.mono HSD.out.size))
      clear hbw
      refine hK.out _ _ (.inr HSX.out) ?_
      clear hK K
      change wpAnyK _ _ _ _ _ _ _ _ (Act.put _ (some 37) _) _
      try simp only [Act.put, List.setIfInBounds_toArray, List.set_cons_zero, List.set_cons_succ]
      refine wpAnyK_takeP (i := 5) (v := ?vA5) rfl (by kernel_rfl) (by kernel_rfl) (by kernel_rfl) (by kernel_rfl) (fun _ _ _ h => h) (Or.inl ⟨by rfl, fun w hSw => ?hyA5⟩) (.inr HSX.out) ?restA5
      case hyA5 =>
        go_simp
        try with_reducible rfl
      change wpAnyK _ _ _ _ _ _ _ _ (Act.put _ (some 32) _) _
      try simp only [Act.put, List.setIfInBounds_toArray, List.set_cons_zero, List.set_cons_succ]
      refine wpAnyK_takeP (i := 6) (v := ?vA6) rfl (by kernel_rfl) (by kernel_rfl) (by kernel_rfl) (by kernel_rfl) (fun _ _ _ h => h) (Or.inl ⟨by rfl, fun w hSw => ?hyA6⟩) (.inr HSX.out) ?restA6
      case hyA6 =>
        go_simp
        try with_reducible rfl
      change wpAnyK _ _ _ _ _ _ _ _ (Act.put _ (some 38) _) _
      try simp only [Act.put, List.setIfInBounds_toArray, List.set_cons_zero, List.set_cons_succ]
      refine wpAnyK_takeP (i := 7) (v := ?vA7) rfl (by kernel_rfl) (by kernel_rfl) (by kernel_rfl) (by kernel_rfl) (fun _ _ _ h => h) (Or.inl ⟨by rfl, fun w hSw => ?hyA7⟩) (.inr HSX.out) ?restA7
      case hyA7 =>
        go_simp
        try with_reducible rfl
      change wpAnyK _ _ _ _ _ _ _ _ (Act.put _ (some 39) _) _
      try simp only [Act.put, List.setIfInBounds_toArray, List.set_cons_zero, List.set_cons_succ]
      refine wpAnyK_only (i := 8) (by kernel_rfl) rfl (fun K hK => ?_)
      go_simp
      have HSY : Hid ((fun W : World => SBel w1 W) (X.alloc (.cells #[.int .i64 0, .slice none 0 0, .bool false, .string ⟨#[]⟩, .string ⟨#[]⟩, .int .i64 0] 29))) := Lib.hid (HSX.out.alloc HSX.out.size _)
      refine hK.out _ _ (.inr HSY.out) ?_
      clear hK K
      try simp only [Act.put, List.setIfInBounds_toArray, List.set_cons_zero, List.set_cons_succ]
      have HSW := HSX
      obtain ⟨ad, had⟩ : ∃ ad, ad = X.heap.size := ⟨_, rfl⟩
      obtain ⟨X9, hX9⟩ : ∃ X9, X9 = X.alloc (.cells #[.int .i64 0, .slice none 0 0, .bool false, .string ⟨#[]⟩, .string ⟨#[]⟩, .int .i64 0] 29) := ⟨_, rfl⟩
      have HMK : Hid (Blk X9 ad 29 [.int .i64 0, .slice none 0 0, .bool false, .string ⟨#[]⟩, .string ⟨#[]⟩, .int .i64 0]) := Lib.hid (by rw [hX9, had]; exact Blk.new X 29 [.int .i64 0, .slice none 0 0, .bool false, .string ⟨#[]⟩, .string ⟨#[]⟩, .int .i64 0])
      have HSL : Hid (n' = L2.length ∧ Sl X9 X9.heap.size A' (sv L2) ∧ n' ≤ c' ∧ (∀ k, blk A' = some k → (blk rA = some k ∨ w1.heap.size ≤ k) ∧ k < X9.heap.size ∧ k ≠ ad) ∧ w1.heap.size ≤ ad) := Lib.hid (by
        rw [hX9, had]
        obtain ⟨h2, h3, h4, h5⟩ := hadd.out
        refine ⟨h2, (h3.alloc (Nat.le_refl _) _).more (by simp), h4, fun k hk => ?_, HSW.out.size⟩
        have h6 := HSW.out.size
        have h7 := h5 k hk
        have h8 : blk rA = some k → k < w1.heap.size := fun h => (HR1.out.ap k h).2
        rcases h7 with h7 | h7
        · exact ⟨.inl h7, by have := h8 h7; simp; omega, by have := h8 h7; omega⟩
        · exact ⟨.inr (by have : w1.drew.heap.size = w1.heap.size := rfl; omega), by simp; omega, by omega⟩)
      have HSX9 : Hid ((fun W : World => SBel w1 W) X9) := Lib.hid (by rw [hX9]; exact HSY.out)
      rw [← hX9, ← had]
      clear hX9 had hadd
    case' gD =>
      go_simp
      have HSY : Hid ((fun W : World => SBel w1 W) (w1.drew.alloc (.cells #[.int .i64 0, .slice none 0 0, .bool false, .string ⟨#[]⟩, .string ⟨#[]⟩, .int .i64 0] 29))) := Lib.hid (HSD.out.alloc HSD.out.size _)
      refine hK.out _ _ (.inr HSY.out) ?_
      clear hK K
      try simp only [Act.put, List.setIfInBounds_toArray, List.set_cons_zero, List.set_cons_succ]
      refine wpAnyK_only (i := 4) (by kernel_rfl) rfl (fun K hK => ?_)
      refine step_call rfl 31 _ _ rfl (enters_of Tryd.func31 (by kernel_rfl) rfl) #[.agg #[.int .i64 most, .slice rA n rc, u2, u3, u4, u5], .string sC] (by simp [Act.eval, Act.put]) (PADD.out _ HSY.out) ?_
      rintro e X ⟨A', n', c', rfl, hadd, hbw⟩
      refine ⟨_, rfl, ?_⟩
      have HBW := Lib.hid hbw
      have HSX : Hid ((fun W : World => SBel w1 W) X) := Lib.hid (HSY.out.trans (hbw.mono HSY.out.size))
      clear hbw
      refine hK.out _ _ (.inr HSX.out) ?_
      clear hK K
      change wpAnyK _ _ _ _ _ _ _ _ (Act.put _ (some 37) _) _
      try simp only [Act.put, List.setIfInBounds_toArray, List.set_cons_zero, List.set_cons_succ]
      refine wpAnyK_takeP (i := 5) (v := ?vB5) rfl (by kernel_rfl) (by kernel_rfl) (by kernel_rfl) (by kernel_rfl) (fun _ _ _ h => h) (Or.inl ⟨by rfl, fun w hSw => ?hyB5⟩) (.inr HSX.out) ?restB5
      case hyB5 =>
        go_simp
        try with_reducible rfl
      change wpAnyK _ _ _ _ _ _ _ _ (Act.put _ (some 32) _) _
      try simp only [Act.put, List.setIfInBounds_toArray, List.set_cons_zero, List.set_cons_succ]
      refine wpAnyK_takeP (i := 6) (v := ?vB6) rfl (by kernel_rfl) (by kernel_rfl) (by kernel_rfl) (by kernel_rfl) (fun _ _ _ h => h) (Or.inl ⟨by rfl, fun w hSw => ?hyB6⟩) (.inr HSX.out) ?restB6
      case hyB6 =>
        go_simp
        try with_reducible rfl
      change wpAnyK _ _ _ _ _ _ _ _ (Act.put _ (some 38) _) _
      try simp only [Act.put, List.setIfInBounds_toArray, List.set_cons_zero, List.set_cons_succ]
      refine wpAnyK_takeP (i := 7) (v := ?vB7) rfl (by kernel_rfl) (by kernel_rfl) (by kernel_rfl) (by kernel_rfl) (fun _ _ _ h => h) (Or.inl ⟨by rfl, fun w hSw => ?hyB7⟩) (.inr HSX.out) ?restB7
      case hyB7 =>
        go_simp
        try with_reducible rfl
      change wpAnyK _ _ _ _ _ _ _ _ (Act.put _ (some 39) _) _
      try simp only [Act.put, List.setIfInBounds_toArray, List.set_cons_zero, List.set_cons_succ]
      have HSW := HSX
      have HSY := HSX
      obtain ⟨ad, had⟩ : ∃ ad, ad = w1.heap.size := ⟨_, rfl⟩
      obtain ⟨X9, hX9⟩ : ∃ X9, X9 = X := ⟨_, rfl⟩
      have HMK : Hid (Blk X9 ad 29 [.int .i64 0, .slice none 0 0, .bool false, .string ⟨#[]⟩, .string ⟨#[]⟩, .int .i64 0]) := Lib.hid (by rw [hX9, had]; exact Blk.below (Blk.new w1.drew 29 [.int .i64 0, .slice none 0 0, .bool false, .string ⟨#[]⟩, .string ⟨#[]⟩, .int .i64 0]) HBW.out (by simp))
      have HSL : Hid (n' = L2.length ∧ Sl X9 X9.heap.size A' (sv L2) ∧ n' ≤ c' ∧ (∀ k, blk A' = some k → (blk rA = some k ∨ w1.heap.size ≤ k) ∧ k < X9.heap.size ∧ k ≠ ad) ∧ w1.heap.size ≤ ad) := Lib.hid (by
        rw [hX9, had]
        obtain ⟨h2, h3, h4, h5⟩ := hadd.out
        refine ⟨h2, h3, h4, fun k hk => ?_, Nat.le_refl _⟩
        have h6 := HSW.out.size
        have h7 := h5 k hk
        have h8 : blk rA = some k → k < w1.heap.size := fun h => (HR1.out.ap k h).2
        have h7 : blk rA = some k ∨ (w1.heap.size + 1 ≤ k ∧ k < X.heap.size) := by have h9 := h5 k hk; simpa using h9
        rcases h7 with h7 | h7
        · exact ⟨.inl h7, by have := h8 h7; omega, by have := h8 h7; omega⟩
        · exact ⟨.inr (by omega), by omega, by omega⟩)
      have HSX9 : Hid ((fun W : World => SBel w1 W) X9) := Lib.hid (by rw [hX9]; exact HSY.out)
      rw [← hX9, ← had]
      clear hX9 had hadd
  case' gB =>
    go_simp
    have HSY : Hid ((fun W : World => SBel w1 W) (w1.drew.alloc (.cells #[.int .i64 0, .slice none 0 0, .bool false, .string ⟨#[]⟩, .string ⟨#[]⟩, .int .i64 0] 29))) := Lib.hid (HSD.out.alloc HSD.out.size _)
    refine hK.out _ _ (.inr HSY.out) ?_
    clear hK K
    try simp only [Act.put, List.setIfInBounds_toArray, List.set_cons_zero, List.set_cons_succ]
    refine wpAnyK_only (i := 3) (by kernel_rfl) rfl (fun K hK => ?_)
    refine step_call rfl 16 _ _ rfl (enters_of Tryd.func16 (by kernel_rfl) rfl) #[.string s1] (by simp [Act.eval, Act.put]) (PCUT.out _) ?_
    rintro e wy ⟨rfl, rfl⟩
    refine ⟨_, rfl, ?_⟩
    refine hK.out _ _ (.inr HSY.out) ?_
    clear hK K
    change wpAnyK _ _ _ _ _ _ _ _ (Act.put _ (some 36) _) _
    try simp only [Act.put, List.setIfInBounds_toArray, List.set_cons_zero, List.set_cons_succ]
    refine wpAnyK_only (i := 4) (by kernel_rfl) rfl (fun K hK => ?_)
    refine step_call rfl 31 _ _ rfl (enters_of Tryd.func31 (by kernel_rfl) rfl) #[.agg #[.int .i64 most, .slice rA n rc, u2, u3, u4, u5], .string sC] (by simp [Act.eval, Act.put]) (PADD.out _ HSY.out) ?_
    rintro e X ⟨A', n', c', rfl, hadd, hbw⟩
    refine ⟨_, rfl, ?_⟩
    have HBW := Lib.hid hbw
    have HSX : Hid ((fun W : World => SBel w1 W) X) := Lib.hid (HSY.out.trans (hbw.mono HSY.out.size))
    clear hbw
    refine hK.out _ _ (.inr HSX.out) ?_
    clear hK K
    change wpAnyK _ _ _ _ _ _ _ _ (Act.put _ (some 37) _) _
    try simp only [Act.put, List.setIfInBounds_toArray, List.set_cons_zero, List.set_cons_succ]
    refine wpAnyK_takeP (i := 5) (v := ?vC5) rfl (by kernel_rfl) (by kernel_rfl) (by kernel_rfl) (by kernel_rfl) (fun _ _ _ h => h) (Or.inl ⟨by rfl, fun w hSw => ?hyC5⟩) (.inr HSX.out) ?restC5
    case hyC5 =>
      go_simp
      try with_reducible rfl
    change wpAnyK _ _ _ _ _ _ _ _ (Act.put _ (some 32) _) _
    try simp only [Act.put, List.setIfInBounds_toArray, List.set_cons_zero, List.set_cons_succ]
    refine wpAnyK_takeP (i := 6) (v := ?vC6) rfl (by kernel_rfl) (by kernel_rfl) (by kernel_rfl) (by kernel_rfl) (fun _ _ _ h => h) (Or.inl ⟨by rfl, fun w hSw => ?hyC6⟩) (.inr HSX.out) ?restC6
    case hyC6 =>
      go_simp
      try with_reducible rfl
    change wpAnyK _ _ _ _ _ _ _ _ (Act.put _ (some 38) _) _
    try simp only [Act.put, List.setIfInBounds_toArray, List.set_cons_zero, List.set_cons_succ]
    refine wpAnyK_takeP (i := 7) (v := ?vC7) rfl (by kernel_rfl) (by kernel_rfl) (by kernel_rfl) (by kernel_rfl) (fun _ _ _ h => h) (Or.inl ⟨by rfl, fun w hSw => ?hyC7⟩) (.inr HSX.out) ?restC7
    case hyC7 =>
      go_simp
      try with_reducible rfl
    change wpAnyK _ _ _ _ _ _ _ _ (Act.put _ (some 39) _) _
    try simp only [Act.put, List.setIfInBounds_toArray, List.set_cons_zero, List.set_cons_succ]
    have HSW := HSX
    have HSY := HSX
    obtain ⟨ad, had⟩ : ∃ ad, ad = w1.heap.size := ⟨_, rfl⟩
    obtain ⟨X9, hX9⟩ : ∃ X9, X9 = X := ⟨_, rfl⟩
    have HMK : Hid (Blk X9 ad 29 [.int .i64 0, .slice none 0 0, .bool false, .string ⟨#[]⟩, .string ⟨#[]⟩, .int .i64 0]) := Lib.hid (by rw [hX9, had]; exact Blk.below (Blk.new w1.drew 29 [.int .i64 0, .slice none 0 0, .bool false, .string ⟨#[]⟩, .string ⟨#[]⟩, .int .i64 0]) HBW.out (by simp))
    have HSL : Hid (n' = L2.length ∧ Sl X9 X9.heap.size A' (sv L2) ∧ n' ≤ c' ∧ (∀ k, blk A' = some k → (blk rA = some k ∨ w1.heap.size ≤ k) ∧ k < X9.heap.size ∧ k ≠ ad) ∧ w1.heap.size ≤ ad) := Lib.hid (by
      rw [hX9, had]
      obtain ⟨h2, h3, h4, h5⟩ := hadd.out
      refine ⟨h2, h3, h4, fun k hk => ?_, Nat.le_refl _⟩
      have h6 := HSW.out.size
      have h7 := h5 k hk
      have h8 : blk rA = some k → k < w1.heap.size := fun h => (HR1.out.ap k h).2
      have h7 : blk rA = some k ∨ (w1.heap.size + 1 ≤ k ∧ k < X.heap.size) := by have h9 := h5 k hk; simpa using h9
      rcases h7 with h7 | h7
      · exact ⟨.inl h7, by have := h8 h7; omega, by have := h8 h7; omega⟩
      · exact ⟨.inr (by omega), by omega, by omega⟩)
    have HSX9 : Hid ((fun W : World => SBel w1 W) X9) := Lib.hid (by rw [hX9]; exact HSY.out)
    rw [← hX9, ← had]
    clear hX9 had hadd
  all_goals
    refine wpAnyK_only (i := 9) (by kernel_rfl) rfl (fun K hK => ?_)
    refine step_store_blkK rfl _ _ _ rfl ad 0 _ [.int .i64 0, .slice none 0 0, .bool false, .string ⟨#[]⟩, .string ⟨#[]⟩, .int .i64 0] [.int .i64 most, .slice A' n' c', .bool false, .string ⟨#[]⟩, .string ⟨#[]⟩, .int .i64 0] (by simp [Act.eval, Act.put]) (by simp [Act.eval, Act.put]) HMK.out (by simp) rh_size (rvC_one most A' n' c' none) ?_
    intro X10 hn10 hg10
    have hc10 := chg_of_grown hg10
    have HSZ : Hid ((fun W : World => SBel w1 W) X10) := Lib.hid (HSX9.out.trans (hc10.below HSX9.out.size (fun j hj => by unfold one at hj; have := HSL.out.2.2.2.2; omega)))
    refine hK.out _ _ (.inr HSZ.out) ?_
    clear hK K
    try simp only [Act.put, List.setIfInBounds_toArray, List.set_cons_zero, List.set_cons_succ]
    refine wpAnyK_only (i := 10) (by kernel_rfl) rfl (fun K hK => ?_)
    go_simp
    refine hK.out _ _ (.inl (by kernel_rfl)) ?_
    clear hK K
    try simp only [Act.put, List.setIfInBounds_toArray, List.set_cons_zero, List.set_cons_succ]
    refine wpAnyK_done (by kernel_rfl) ?_ _
    have HM10 : Hid (Blk X10 ad 29 [.int .i64 most, .slice A' n' c', .bool false, .string ⟨#[]⟩, .string ⟨#[]⟩, .int .i64 0]) := Lib.hid hn10
    have HR10 : Hid (RowH X10 h A' n' c' L2) := Lib.hid (by
      obtain ⟨h2, h3, h4, h5, h6⟩ := HSL.out
      exact ⟨h2, (hc10.sl h3 (Nat.le_refl _) (fun b off e => by unfold one; exact (h5 b (by rw [e]; rfl)).2.2)).more hc10.size, h4, fun k hk => ⟨by
        rcases (h5 k hk).1 with h7 | h7
        · exact (HR1.out.ap k h7).1
        · have := HH.out; have := HZ1.out; omega, Nat.lt_of_lt_of_le (h5 k hk).2.1 hc10.size⟩, HND.out⟩)
    have HNE : Hid (∀ k, blk A' = some k → k ≠ w.heap.size + 1 + 1) := Lib.hid (fun k hk => by
      rcases (HSL.out.2.2.2.1 k hk).1 with h7 | h7
      · have := (HAP.out k h7).2; omega
      · have := HZ1.out; omega)
    clear hn10 hg10 hc10
    have x0 := HM10.out.cell 0
    have x1 := HM10.out.cell 1
    have x2 := HM10.out.cell 2
    have x3 := HM10.out.cell 3
    have x4 := HM10.out.cell 4
    have x5 := HM10.out.cell 5
    obtain ⟨_, _, B6⟩ := HK9.out X10 HSZ.out
    have z0 : X10.cell? ⟨w.heap.size + 1 + 1, 0, none⟩ = some (.int .i64 0) := B6.cell 0
    have y0 : X10.frozen? ⟨w.heap.size + 1 + 1, 0, none⟩ = false := B6.frozen 0
    have z1 : X10.cell? ⟨w.heap.size + 1 + 1, 1, none⟩ = some (.slice none 0 0) := B6.cell 1
    have y1 : X10.frozen? ⟨w.heap.size + 1 + 1, 1, none⟩ = false := B6.frozen 1
    have z2 : X10.cell? ⟨w.heap.size + 1 + 1, 2, none⟩ = some (.bool false) := B6.cell 2
    have y2 : X10.frozen? ⟨w.heap.size + 1 + 1, 2, none⟩ = false := B6.frozen 2
    have z3 : X10.cell? ⟨w.heap.size + 1 + 1, 3, none⟩ = some (.string ⟨#[]⟩) := B6.cell 3
    have y3 : X10.frozen? ⟨w.heap.size + 1 + 1, 3, none⟩ = false := B6.frozen 3
    have z4 : X10.cell? ⟨w.heap.size + 1 + 1, 4, none⟩ = some (.string ⟨#[]⟩) := B6.cell 4
    have y4 : X10.frozen? ⟨w.heap.size + 1 + 1, 4, none⟩ = false := B6.frozen 4
    have z5 : X10.cell? ⟨w.heap.size + 1 + 1, 5, none⟩ = some (.int .i64 0) := B6.cell 5
    have y5 : X10.frozen? ⟨w.heap.size + 1 + 1, 5, none⟩ = false := B6.frozen 5
    clear B6
    simp only [List.getElem?_cons_succ, List.getElem?_cons_zero] at x0 x1 x2 x3 x4 x5
    go_wp2_with (fail)
    refine bodyPost_ret (hsres_ct (ad := w.heap.size + 1 + 1) (cs := rvC most A' n' c' none) rfl rfl rfl (Blk.range (t := 29) ?_ 0 _ (fun j v hv => by simpa [rvC, rwC] using hv)) Tryd.underlying29 rfl rh_size) rfl ?_
    · exact (((((((HK9.out _ HSZ.out).2.2).set_ 0 _).set_ 1 _).set_ 2 _).set_ 3 _).set_ 4 _).set_ 5 _
    · refine StepH.close (K' := none) (HCW.out.trans HC1.out (fun j hj => .inl hj)) Q1.out (HK.out _ HC1.out).2.2 (by omega) HH.out HSZ.out HR10.out HNE.out (((((((Chg.refl (one (w.heap.size + 1 + 1)) X10).setCell (p := ⟨w.heap.size + 1 + 1, 0, none⟩) (.inl rfl) _).setCell (p := ⟨w.heap.size + 1 + 1, 1, none⟩) (.inl rfl) _).setCell (p := ⟨w.heap.size + 1 + 1, 2, none⟩) (.inl rfl) _).setCell (p := ⟨w.heap.size + 1 + 1, 3, none⟩) (.inl rfl) _).setCell (p := ⟨w.heap.size + 1 + 1, 4, none⟩) (.inl rfl) _).setCell (p := ⟨w.heap.size + 1 + 1, 5, none⟩) (.inl rfl) _) (fun _ e => by cases e) rfl HOWN.out (fun k hk => (HSL.out.2.2.2.1 k hk).1.imp id (fun h7 => by have := HZ1.out; omega))
end Go.Proofs.YtfjiogockpmogaaDoor
