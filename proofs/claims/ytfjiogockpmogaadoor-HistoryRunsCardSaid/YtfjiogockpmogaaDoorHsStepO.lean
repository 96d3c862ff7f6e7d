/-
  Walk: the law's step: Older.
-/
import Derived.Test.YtfjiogockpmogaaDoorHsStep
import Derived.Test.YtfjiogockpmogaaDoorHsROld
import Derived.Test.YtfjiogockpmogaaDoorRegK2
import Derived.Deep.DeepCutAuto
namespace Go.Proofs.YtfjiogockpmogaaDoor
open Go.RowKit Go.Sort
set_option linter.unusedVariables false
set_option linter.unusedSimpArgs false
set_option maxRecDepth 100000
/-- how a step back is answered, and which walk there is then -/
def OldR (L : List (List UInt8)) (K : Option HW) (d b : List UInt8) (K1 : Option HW) (tx : ByteArray) (fd : Bool) : Prop :=
  (nextW (walkOf K d b).1 (walkOf K d b).2.1 L (walkOf K d b).2.2 = none ∧ K1 = K ∧ tx = ⟨#[]⟩ ∧ fd = false) ∨
  (∃ i l xd xb, nextW (walkOf K d b).1 (walkOf K d b).2.1 L (walkOf K d b).2.2 = some (i, l) ∧ K1 = some ⟨(walkOf K d b).1, (walkOf K d b).2.1, i, xd, xb⟩ ∧ tx = ⟨l.toArray⟩ ∧ fd = true)
theorem holder_both {w : World} {lo h c most : Nat} {A : Option Addr} {L : List (List UInt8)} {K : Option HW} (q : HsAt w lo h A c most L K) (d b : List UInt8) (hd : d.length ≤ 1000000) (hb : b.length ≤ 1000000) (hlw : lo ≤ w.heap.size) :
    Calls Tryd.prog 24 #[.pointer (some ⟨h, 0, none⟩), .string ⟨d.toArray⟩, .string ⟨b.toArray⟩] w fun e w' => ∃ K1 tx fd, e = .returned (.tuple #[.string tx, .bool fd]) ∧ Hid (HsAt w' lo h A c most L K1 ∧ OldR L K d b K1 tx fd ∧ OwnN w h A K h A K1) ∧ Chg (one h) w w' :=
  (holder_any q d b hd hb hlw).mono (by
    rintro e w' (⟨hp, rfl, hq, hc⟩ | ⟨i, l, xd, xb, hp, rfl, hq, hc, ho⟩)
    · exact ⟨K, _, _, rfl, Lib.hid ⟨hq, .inl ⟨hp, rfl, rfl, rfl⟩, OwnN.refl _ _ _ _⟩, hc⟩
    · exact ⟨_, _, _, rfl, Lib.hid ⟨hq, .inr ⟨i, l, xd, xb, hp, rfl, rfl, rfl⟩, OwnN.old ho (Nat.le_refl _)⟩, hc⟩)
theorem rolder_both {L : List (List UInt8)} {K : Option HW} {d b : List UInt8} {K1 : Option HW} {tx : ByteArray} {fd : Bool} (h : OldR L K d b K1 tx fd) (most : Nat) (hok : ∀ l ∈ L, l.length ≤ 3000) (A : Option Addr) (n c : Nat) (hd : d.length ≤ 1000000) (hb : b.length ≤ 1000000) (w : World) (hn : n = L.length) (hl4 : n ≤ 256) (hS : Sl w w.heap.size A (sv L)) (hK : ∀ k, K = some k → k.i < L.length ∧ k.d.length ≤ 1000000 ∧ k.b.length ≤ 1000000) :
    Calls Tryd.prog 27 #[.agg (rvC most A n c K).toArray, .string ⟨d.toArray⟩, .string ⟨b.toArray⟩] w fun e w' => e = .returned (.tuple #[.agg (rvC most A n c K1).toArray, .string tx, .bool fd]) ∧ Below w.heap.size w w' :=
  (rolder_any most L hok A n c K d b hd hb w hn hl4 hS hK).mono (by
    rintro e w' (⟨hp, rfl, hb⟩ | ⟨i, l, hp, rfl, hb⟩)
    · rcases h with ⟨h1, rfl, rfl, rfl⟩ | ⟨i', l', xd, xb, h1, rfl, rfl, rfl⟩
      · exact ⟨rfl, hb⟩
      · rw [hp] at h1; cases h1
    · rcases h with ⟨h1, rfl, rfl, rfl⟩ | ⟨i', l', xd, xb, h1, rfl, rfl, rfl⟩
      · rw [hp] at h1; cases h1
      · rw [hp] at h1; injection h1 with h1; injection h1 with h2 h3; subst h2; subst h3; exact ⟨rfl, hb⟩)
theorem OldR.kb {L : List (List UInt8)} {K : Option HW} {d b : List UInt8} {K1 : Option HW} {tx : ByteArray} {fd : Bool} (h : OldR L K d b K1 tx fd) (hK : KB K) (hd : d.length ≤ 60) (hb : b.length ≤ 60) : KB K1 := by
  rcases h with ⟨_, rfl, _, _⟩ | ⟨i, l, xd, xb, _, rfl, _, _⟩
  · exact hK
  · intro k hk
    injection hk with hk
    subst hk
    cases K with
    | none => exact ⟨hd, hb⟩
    | some k0 => exact hK k0 rfl
/-- what was there stands but for the history (the size goes unsaid) -/
def SChg (h : Nat) (a b : World) : Prop := Chg (one h) a b
def SBe2 (a b : World) : Prop := Below a.heap.size a b
set_option maxHeartbeats 16000000 in
theorem step_older3 {w : World} {lo h c most : Nat} {A : Option Addr} {L : List (List UInt8)} {K : Option HW} (q : HsAt w lo h A c most L K) (hlw : lo ≤ w.heap.size) (rA : Option Addr) (n rc : Nat) (hR : RowH w h rA n rc L) (hKB : KB K) (kd : Int) (s1 s2 : ByteArray) (hd0 : 0 ≤ kd) (hd1 : kd ≤ 255) (hs1 : s1.size ≤ maxLen) (hs2 : s2.size ≤ maxLen) (hk : kd % 8 = 3) :
    Calls Tryd.prog 10 #[.pointer (some ⟨h, 0, none⟩), .agg (rvC most rA n rc K).toArray, .agg #[.int .u8 kd, .string s1, .string s2]] w (StepH w lo h most A K rA) := by
  have hq3 : (kd % 8 == 3) = true := by simp; omega
  clear hk
  obtain ⟨d, hd⟩ : ∃ d, d = cut60 s1.data.toList := ⟨_, rfl⟩
  obtain ⟨b, hb⟩ : ∃ b, b = cut60 s2.data.toList := ⟨_, rfl⟩
  have hdl : d.length ≤ 60 := by rw [hd]; exact cut60_len _
  have hbl : b.length ≤ 60 := by rw [hb]; exact cut60_len _
  have hok : ∀ l ∈ L, l.length ≤ 3000 := fun l hl => (q.ok l hl).2
  have hl4 : n ≤ 256 := by rw [hR.len]; exact q.len4
  have PC1 : Hid (∀ V, Calls Tryd.prog 16 #[.string s1] V fun e w' => e = .returned (.string ⟨d.toArray⟩) ∧ V = w') := Lib.hid (fun V => by rw [hd]; exact hcut_any s1 hs1 V)
  have PC2 : Hid (∀ V, Calls Tryd.prog 16 #[.string s2] V fun e w' => e = .returned (.string ⟨b.toArray⟩) ∧ V = w') := Lib.hid (fun V => by rw [hb]; exact hcut_any s2 hs2 V)
  have HWK : Hid (∀ k, K = some k → k.i < L.length ∧ k.d.length ≤ 1000000 ∧ k.b.length ≤ 1000000) := Lib.hid (fun k hk => by have h1 := hKB k hk; have h2 := (q.wk k hk).2.2.2; exact ⟨h2, by omega, by omega⟩)
  have HOK := Lib.hid hok
  clear hok hd hb
  have hh : h < w.heap.size := q.head.lt
  obtain ⟨u2, u3, u4, u5, hu⟩ := rvC_cells most rA n rc K
  rw [hu]
  obtain ⟨W, hW⟩ : ∃ W, W = ((w.alloc (.cells #[.int .i64 most, .slice rA n rc, u2, u3, u4, u5] 29)).alloc (.cells #[.int .u8 kd, .string s1, .string s2] 34)).alloc (.cells #[.int .i64 0, .slice none 0 0, .bool false, .string ⟨#[]⟩, .string ⟨#[]⟩, .int .i64 0] 29) := ⟨_, rfl⟩
  have hb0 : Below w.heap.size w W := by rw [hW]; exact (((Below.refl _ w).alloc (Nat.le_refl _) _).alloc (by simp) _).alloc (by simp; omega) _
  have hB4 : Blk W w.heap.size 29 [.int .i64 most, .slice rA n rc, u2, u3, u4, u5] := by rw [hW]; exact ((Blk.new w 29 _).alloc _).alloc _
  have hB5 : Blk W (w.heap.size + 1) 34 [.int .u8 kd, .string s1, .string s2] := by
    have := (Blk.new (w.alloc (.cells #[.int .i64 most, .slice rA n rc, u2, u3, u4, u5] 29)) 34 [.int .u8 kd, .string s1, .string s2]).alloc (.cells #[.int .i64 0, .slice none 0 0, .bool false, .string ⟨#[]⟩, .string ⟨#[]⟩, .int .i64 0] 29)
    rw [hW]; simpa using this
  have hB6 : Blk W (w.heap.size + 1 + 1) 29 blankH := by
    have := Blk.new ((w.alloc (.cells #[.int .i64 most, .slice rA n rc, u2, u3, u4, u5] 29)).alloc (.cells #[.int .u8 kd, .string s1, .string s2] 34)) 29 blankH
    rw [hW]; simpa [blankH] using this
  have hk4 : ∀ V, Chg (one h) W V → Blk V w.heap.size 29 [.int .i64 most, .slice rA n rc, u2, u3, u4, u5] ∧ Blk V (w.heap.size + 1) 34 [.int .u8 kd, .string s1, .string s2] ∧ Blk V (w.heap.size + 1 + 1) 29 blankH := fun V hV =>
    ⟨hB4.chg hV (fun e => by unfold one at e; omega), hB5.chg hV (fun e => by unfold one at e; omega), hB6.chg hV (fun e => by unfold one at e; omega)⟩
  have HK := Lib.hid hk4
  have HB0 := Lib.hid hb0
  have HR0 := Lib.hid (hR.chg (Chg.of_below (S := noB) hb0) (fun _ _ h => h))
  have Q0 := Lib.hid (q.below hb0)
  have HCW := Lib.hid (Chg.of_below (S := one h) hb0)
  have HH := Lib.hid hh
  have HU := Lib.hid hu
  have HAP := Lib.hid hR.ap
  have HKB := Lib.hid hKB
  clear hR q hk4 hb0 hB4 hB5 hB6 hh hu hKB
  obtain ⟨B4, B5, B6⟩ := HK.out _ (Chg.refl _ W)
  have a0 : W.cell? ⟨w.heap.size, 0, none⟩ = some (.int .i64 most) := B4.cell 0
  have a1 : W.cell? ⟨w.heap.size, 1, none⟩ = some (.slice rA n rc) := B4.cell 1
  have a2 : W.cell? ⟨w.heap.size, 2, none⟩ = some (u2) := B4.cell 2
  have a3 : W.cell? ⟨w.heap.size, 3, none⟩ = some (u3) := B4.cell 3
  have a4 : W.cell? ⟨w.heap.size, 4, none⟩ = some (u4) := B4.cell 4
  have a5 : W.cell? ⟨w.heap.size, 5, none⟩ = some (u5) := B4.cell 5
  have o0 : W.cell? ⟨w.heap.size + 1, 0, none⟩ = some (.int .u8 kd) := B5.cell 0
  have o1 : W.cell? ⟨w.heap.size + 1, 1, none⟩ = some (.string s1) := B5.cell 1
  have o2 : W.cell? ⟨w.heap.size + 1, 2, none⟩ = some (.string s2) := B5.cell 2
  have z0 : W.cell? ⟨w.heap.size + 1 + 1, 0, none⟩ = some (.int .i64 0) := B6.cell 0
  have y0 : W.frozen? ⟨w.heap.size + 1 + 1, 0, none⟩ = false := B6.frozen 0
  have z1 : W.cell? ⟨w.heap.size + 1 + 1, 1, none⟩ = some (.slice none 0 0) := B6.cell 1
  have y1 : W.frozen? ⟨w.heap.size + 1 + 1, 1, none⟩ = false := B6.frozen 1
  have z2 : W.cell? ⟨w.heap.size + 1 + 1, 2, none⟩ = some (.bool false) := B6.cell 2
  have y2 : W.frozen? ⟨w.heap.size + 1 + 1, 2, none⟩ = false := B6.frozen 2
  have z3 : W.cell? ⟨w.heap.size + 1 + 1, 3, none⟩ = some (.string ⟨#[]⟩) := B6.cell 3
  have y3 : W.frozen? ⟨w.heap.size + 1 + 1, 3, none⟩ = false := B6.frozen 3
  have z4 : W.cell? ⟨w.heap.size + 1 + 1, 4, none⟩ = some (.string ⟨#[]⟩) := B6.cell 4
  have y4 : W.frozen? ⟨w.heap.size + 1 + 1, 4, none⟩ = false := B6.frozen 4
  have z5 : W.cell? ⟨w.heap.size + 1 + 1, 5, none⟩ = some (.int .i64 0) := B6.cell 5
  have y5 : W.frozen? ⟨w.heap.size + 1 + 1, 5, none⟩ = false := B6.frozen 5
  have hz : w.heap.size + 1 + 1 < W.heap.size := B6.lt
  clear B4 B5 B6
  have HOLD : Hid (Calls Tryd.prog 24 #[.pointer (some ⟨h, 0, none⟩), .string ⟨d.toArray⟩, .string ⟨b.toArray⟩] W.drew fun e w' => ∃ K1 tx fd, e = .returned (.tuple #[.string tx, .bool fd]) ∧ Hid (HsAt w' lo h A c most L K1 ∧ OldR L K d b K1 tx fd ∧ OwnN W.drew h A K h A K1) ∧ Chg (one h) W.drew w') := Lib.hid (holder_both (Q0.out.drewN 1) d b (by omega) (by omega) (by have := HB0.out.size; show lo ≤ W.heap.size; omega))
  go_enter Tryd.func10, Tryd.ntmps10
  go_upto_region 1 with (fail)
  rw [← hW]
  clear hW
  go_upto_region 7 with (fail)
  clear a0 a1 a2 a3 a4 a5 o0 o1 o2 z0 y0 z1 y1 z2 y2 z3 y3 z4 y4 z5 y5 hz
  go_cut [8, 9] (fun v8 v9 wx => ∃ K1 tx fd, v8 = .string tx ∧ v9 = .bool fd ∧ Hid (HsAt wx lo h A c most L K1 ∧ OldR L K d b K1 tx fd ∧ OwnN W.drew h A K h A K1) ∧ SChg h W wx)
  case first =>
    have HSD : Hid ((fun V : World => SChg h W V) W.drew) := Lib.hid ((Chg.refl (one h) W).drew)
    refine wp_region_K (fun V : World => SChg h W V) 12 (by kernel_rfl) ?_
    refine wpAnyK_takeP (i := 0) (v := ?va0) rfl (by kernel_rfl) (by kernel_rfl) (by kernel_rfl) (by kernel_rfl) (fun _ _ _ h => h) (Or.inl ⟨by rfl, fun w hSw => ?hya0⟩) (.inr HSD.out) ?resta0
    case hya0 =>
      go_simp
      try with_reducible rfl
    change wpAnyK _ _ _ _ _ _ _ _ (Act.put _ (some 48) _) _
    try simp only [Act.put, List.setIfInBounds_toArray, List.set_cons_zero, List.set_cons_succ]
    refine wpAnyK_takeP (i := 1) (v := ?va1) rfl (by kernel_rfl) (by kernel_rfl) (by kernel_rfl) (by kernel_rfl) (fun _ _ _ h => h) (Or.inl ⟨by rfl, fun w hSw => ?hya1⟩) (.inr HSD.out) ?resta1
    case hya1 =>
      go_simp
      try with_reducible rfl
    change wpAnyK _ _ _ _ _ _ _ _ (Act.put _ (some 49) _) _
    try simp only [Act.put, List.setIfInBounds_toArray, List.set_cons_zero, List.set_cons_succ]
    refine wpAnyK_take (i := 2) (v := .string s1) rfl (by kernel_rfl) (by kernel_rfl) (by kernel_rfl) (by kernel_rfl) (fun _ _ _ h => h) (Or.inl ⟨by rfl, fun w hSw => ?hya2⟩) HSD.out ?resta2
    case hya2 =>
      have s1 := (HK.out w hSw).2.1.cell 1
      clear hSw
      try dsimp only at s1
      go_simp
      try with_reducible rfl
    change wpAnyK _ _ _ _ _ _ _ _ (Act.put _ (some 50) _) _
    try simp only [Act.put, List.setIfInBounds_toArray, List.set_cons_zero, List.set_cons_succ]
    refine wpAnyK_takeP (i := 4) (v := ?va4) rfl (by kernel_rfl) (by kernel_rfl) (by kernel_rfl) (by kernel_rfl) (fun _ _ _ h => h) (Or.inl ⟨by rfl, fun w hSw => ?hya4⟩) (.inr HSD.out) ?resta4
    case hya4 =>
      go_simp
      try with_reducible rfl
    change wpAnyK _ _ _ _ _ _ _ _ (Act.put _ (some 52) _) _
    try simp only [Act.put, List.setIfInBounds_toArray, List.set_cons_zero, List.set_cons_succ]
    refine wpAnyK_take (i := 5) (v := .string s2) rfl (by kernel_rfl) (by kernel_rfl) (by kernel_rfl) (by kernel_rfl) (fun _ _ _ h => h) (Or.inl ⟨by rfl, fun w hSw => ?hya5⟩) HSD.out ?resta5
    case hya5 =>
      have s1 := (HK.out w hSw).2.1.cell 2
      clear hSw
      try dsimp only at s1
      go_simp
      try with_reducible rfl
    change wpAnyK _ _ _ _ _ _ _ _ (Act.put _ (some 53) _) _
    try simp only [Act.put, List.setIfInBounds_toArray, List.set_cons_zero, List.set_cons_succ]
    refine wpAnyK_only (i := 3) (by kernel_rfl) rfl (fun K hK => ?_)
    refine step_call rfl 16 _ _ rfl (enters_of Tryd.func16 (by kernel_rfl) rfl) #[.string s1] (by simp [Act.eval, Act.put]) (PC1.out _) ?_
    rintro e wy ⟨rfl, rfl⟩
    refine ⟨_, rfl, ?_⟩
    refine hK.out _ _ (.inr HSD.out) ?_
    clear hK K
    change wpAnyK _ _ _ _ _ _ _ _ (Act.put _ (some 51) _) _
    try simp only [Act.put, List.setIfInBounds_toArray, List.set_cons_zero, List.set_cons_succ]
    refine wpAnyK_only (i := 6) (by kernel_rfl) rfl (fun K hK => ?_)
    refine step_call rfl 16 _ _ rfl (enters_of Tryd.func16 (by kernel_rfl) rfl) #[.string s2] (by simp [Act.eval, Act.put]) (PC2.out _) ?_
    rintro e wy ⟨rfl, rfl⟩
    refine ⟨_, rfl, ?_⟩
    refine hK.out _ _ (.inr HSD.out) ?_
    clear hK K
    change wpAnyK _ _ _ _ _ _ _ _ (Act.put _ (some 54) _) _
    try simp only [Act.put, List.setIfInBounds_toArray, List.set_cons_zero, List.set_cons_succ]
    refine wpAnyK_only (i := 7) (by kernel_rfl) rfl (fun K hK => ?_)
    refine step_call rfl 24 _ _ rfl (enters_of Tryd.func24 (by kernel_rfl) rfl) #[.pointer (some ⟨h, 0, none⟩), .string ⟨d.toArray⟩, .string ⟨b.toArray⟩] (by simp [Act.eval, Act.put]) (HOLD.out) ?_
    rintro e w1 ⟨K1, tx, fd, rfl, hq1, hc1⟩
    refine ⟨_, rfl, ?_⟩
    have HSE : Hid ((fun V : World => SChg h W V) w1) := Lib.hid (Chg.trans (HSD.out : Chg (one h) W W.drew) hc1 (fun _ h => .inl h))
    refine hK.out _ _ (.inr HSE.out) ?_
    clear hK K
    change wpAnyK _ _ _ _ _ _ _ _ (Act.put _ (some 55) _) _
    try simp only [Act.put, List.setIfInBounds_toArray, List.set_cons_zero, List.set_cons_succ]
    refine wpAnyK_takeP (i := 8) (v := ?vb8) rfl (by kernel_rfl) (by kernel_rfl) (by kernel_rfl) (by kernel_rfl) (fun _ _ _ h => h) (Or.inl ⟨by rfl, fun w hSw => ?hyb8⟩) (.inr HSE.out) ?restb8
    case hyb8 =>
      go_simp
      try with_reducible rfl
    change wpAnyK _ _ _ _ _ _ _ _ (Act.put _ (some 47) _) _
    try simp only [Act.put, List.setIfInBounds_toArray, List.set_cons_zero, List.set_cons_succ]
    refine wpAnyK_takeP (i := 9) (v := ?vb9) rfl (by kernel_rfl) (by kernel_rfl) (by kernel_rfl) (by kernel_rfl) (fun _ _ _ h => h) (Or.inl ⟨by rfl, fun w hSw => ?hyb9⟩) (.inr HSE.out) ?restb9
    case hyb9 =>
      go_simp
      try with_reducible rfl
    change wpAnyK _ _ _ _ _ _ _ _ (Act.put _ (some 56) _) _
    try simp only [Act.put, List.setIfInBounds_toArray, List.set_cons_zero, List.set_cons_succ]
    refine wpAnyK_takeP (i := 10) (v := ?vb10) rfl (by kernel_rfl) (by kernel_rfl) (by kernel_rfl) (by kernel_rfl) (fun _ _ _ h => h) (Or.inl ⟨by rfl, fun w hSw => ?hyb10⟩) (.inr HSE.out) ?restb10
    case hyb10 =>
      go_simp
      try with_reducible rfl
    change wpAnyK _ _ _ _ _ _ _ _ (Act.put _ (some 57) _) _
    try simp only [Act.put, List.setIfInBounds_toArray, List.set_cons_zero, List.set_cons_succ]
    refine wpAnyK_only (i := 11) (by kernel_rfl) rfl (fun K hK => ?_)
    go_simp
    refine hK.out _ _ (.inr HSE.out) ?_
    clear hK K
    try simp only [Act.put, List.setIfInBounds_toArray, List.set_cons_zero, List.set_cons_succ]
    refine wpAnyK_only (i := 12) (by kernel_rfl) rfl (fun K hK => ?_)
    go_simp
    refine hK.out _ _ (.inl (by kernel_rfl)) ?_
    clear hK K
    try simp only [Act.put, List.setIfInBounds_toArray, List.set_cons_zero, List.set_cons_succ]
    refine wpAnyK_done (by kernel_rfl) ?_ _
    (try go_wp2_with (fail))
    go_meet
    exact ⟨K1, tx, fd, rfl, rfl, hq1, HSE.out⟩
  case rest =>
  obtain ⟨K1, tx, fd, rfl, rfl, hq1, hc1⟩ := hcut
  generalize wc = w1 at *
  have HC1 : Hid (Chg (one h) W w1) := Lib.hid hc1
  have Q1 := Lib.hid hq1.out.1
  have HR1 := Lib.hid (HR0.out.chg HC1.out (fun k hk e => (HR0.out.ap k hk).1 e))
  obtain ⟨v2, v3, v4, v5, hv⟩ := rvC_cells most rA n rc K1
  have HV := Lib.hid hv
  have HOWN := Lib.hid (hq1.out.2.2.more (w0 := w) (by have := HB0.out.size; show w.heap.size ≤ W.heap.size; omega))
  have HKB1 := Lib.hid (hq1.out.2.1.kb HKB.out hdl hbl)
  have PRO : Hid (∀ V, SBe2 w1 V → Calls Tryd.prog 27 #[.agg #[.int .i64 most, .slice rA n rc, u2, u3, u4, u5], .string ⟨d.toArray⟩, .string ⟨b.toArray⟩] V fun e wx => e = .returned (.tuple #[.agg #[.int .i64 most, .slice rA n rc, v2, v3, v4, v5], .string tx, .bool fd]) ∧ Below V.heap.size V wx) := Lib.hid (fun V hV => by
    have hV2 : Below w1.heap.size w1 V := hV
    have h1 := rolder_both hq1.out.2.1 most HOK.out rA n rc (by omega) (by omega) V HR1.out.len hl4 ((HR1.out.s.below hV2).more hV2.size) HWK.out
    rw [HU.out, HV.out] at h1
    exact h1)
  have HK9 : Hid (∀ V, SBe2 w1 V → Blk V w.heap.size 29 [.int .i64 most, .slice rA n rc, u2, u3, u4, u5] ∧ Blk V (w.heap.size + 1) 34 [.int .u8 kd, .string s1, .string s2] ∧ Blk V (w.heap.size + 1 + 1) 29 blankH) := Lib.hid (fun V hV => HK.out V (HC1.out.trans (Chg.of_below (S := noB) hV) (fun _ h => h.elim)))
  have HZ1 : Hid (w.heap.size + 1 + 1 < w1.heap.size) := Lib.hid (HK9.out w1 (Below.refl _ _)).2.2.lt
  have HSD : Hid ((fun V : World => SBe2 w1 V) w1.drew) := Lib.hid ((Below.refl w1.heap.size w1).drew)
  clear hq1 hc1 hv
  go_upto_region 8 with (fail)
  go_cut [10, 11, 12] (fun v10 v11 v12 wx => ∃ ad : Nat, v10 = .pointer (some ⟨ad, 0, none⟩) ∧ v11 = .string tx ∧ v12 = .bool fd ∧ Hid (Blk wx ad 29 [.int .i64 most, .slice rA n rc, v2, v3, v4, v5]) ∧ SBe2 w1 wx)
  case first =>
    refine wp_region_K (fun V : World => SBe2 w1 V) 15 (by kernel_rfl) ?_
    refine wpAnyK_take (i := 0) (v := .agg #[.int .i64 most, .slice rA n rc, u2, u3, u4, u5]) rfl (by kernel_rfl) (by kernel_rfl) (by kernel_rfl) (by kernel_rfl) (fun _ _ _ h => h) (yieldsIf_load_mid (by rfl) _ _ rfl w.heap.size 0 rfl [.int .i64 most, .slice rA n rc, u2, u3, u4, u5] _ (fun w h => Blk.range (t := 29) (HK9.out w h).1 0 _ (fun j v hv => by simpa using hv)) Tryd.underlying29 rfl rh_size) HSD.out ?_
    change wpAnyK _ _ _ _ _ _ _ _ (Act.put _ (some 59) _) _
    try simp only [Act.put, List.setIfInBounds_toArray, List.set_cons_zero, List.set_cons_succ]
    refine wpAnyK_takeP (i := 1) (v := ?vd1) rfl (by kernel_rfl) (by kernel_rfl) (by kernel_rfl) (by kernel_rfl) (fun _ _ _ h => h) (Or.inl ⟨by rfl, fun w hSw => ?hyd1⟩) (.inr HSD.out) ?restd1
    case hyd1 =>
      go_simp
      try with_reducible rfl
    change wpAnyK _ _ _ _ _ _ _ _ (Act.put _ (some 60) _) _
    try simp only [Act.put, List.setIfInBounds_toArray, List.set_cons_zero, List.set_cons_succ]
    refine wpAnyK_take (i := 2) (v := .string s1) rfl (by kernel_rfl) (by kernel_rfl) (by kernel_rfl) (by kernel_rfl) (fun _ _ _ h => h) (Or.inl ⟨by rfl, fun w hSw => ?hyd2⟩) HSD.out ?restd2
    case hyd2 =>
      have s1 := (HK9.out w hSw).2.1.cell 1
      clear hSw
      try dsimp only at s1
      go_simp
      try with_reducible rfl
    change wpAnyK _ _ _ _ _ _ _ _ (Act.put _ (some 61) _) _
    try simp only [Act.put, List.setIfInBounds_toArray, List.set_cons_zero, List.set_cons_succ]
    refine wpAnyK_takeP (i := 4) (v := ?vd4) rfl (by kernel_rfl) (by kernel_rfl) (by kernel_rfl) (by kernel_rfl) (fun _ _ _ h => h) (Or.inl ⟨by rfl, fun w hSw => ?hyd4⟩) (.inr HSD.out) ?restd4
    case hyd4 =>
      go_simp
      try with_reducible rfl
    change wpAnyK _ _ _ _ _ _ _ _ (Act.put _ (some 63) _) _
    try simp only [Act.put, List.setIfInBounds_toArray, List.set_cons_zero, List.set_cons_succ]
    refine wpAnyK_take (i := 5) (v := .string s2) rfl (by kernel_rfl) (by kernel_rfl) (by kernel_rfl) (by kernel_rfl) (fun _ _ _ h => h) (Or.inl ⟨by rfl, fun w hSw => ?hyd5⟩) HSD.out ?restd5
    case hyd5 =>
      have s1 := (HK9.out w hSw).2.1.cell 2
      clear hSw
      try dsimp only at s1
      go_simp
      try with_reducible rfl
    change wpAnyK _ _ _ _ _ _ _ _ (Act.put _ (some 64) _) _
    try simp only [Act.put, List.setIfInBounds_toArray, List.set_cons_zero, List.set_cons_succ]
    refine wpAnyK_two (i := 3) (i' := 12) (by kernel_rfl) rfl rfl (fun K hK => ?g1x3) (fun K hK => ?g1x12)
    case' g1x3 =>
      refine step_call rfl 16 _ _ rfl (enters_of Tryd.func16 (by kernel_rfl) rfl) #[.string s1] (by simp [Act.eval, Act.put]) (PC1.out _) ?_
      rintro e wy ⟨rfl, rfl⟩
      refine ⟨_, rfl, ?_⟩
      refine hK.out _ _ (.inr HSD.out) ?_
      clear hK K
      change wpAnyK _ _ _ _ _ _ _ _ (Act.put _ (some 62) _) _
      try simp only [Act.put, List.setIfInBounds_toArray, List.set_cons_zero, List.set_cons_succ]
      refine wpAnyK_two (i := 6) (i' := 12) (by kernel_rfl) rfl rfl (fun K hK => ?g2x6) (fun K hK => ?g2x12)
      case' g2x6 =>
        refine step_call rfl 16 _ _ rfl (enters_of Tryd.func16 (by kernel_rfl) rfl) #[.string s2] (by simp [Act.eval, Act.put]) (PC2.out _) ?_
        rintro e wy ⟨rfl, rfl⟩
        refine ⟨_, rfl, ?_⟩
        refine hK.out _ _ (.inr HSD.out) ?_
        clear hK K
        change wpAnyK _ _ _ _ _ _ _ _ (Act.put _ (some 65) _) _
        try simp only [Act.put, List.setIfInBounds_toArray, List.set_cons_zero, List.set_cons_succ]
        refine wpAnyK_two (i := 7) (i' := 12) (by kernel_rfl) rfl rfl (fun K hK => ?g3x7) (fun K hK => ?g3x12)
        case' g3x7 =>
          refine step_call rfl 27 _ _ rfl (enters_of Tryd.func27 (by kernel_rfl) rfl) #[.agg #[.int .i64 most, .slice rA n rc, u2, u3, u4, u5], .string ⟨d.toArray⟩, .string ⟨b.toArray⟩] (by simp [Act.eval, Act.put]) (PRO.out _ HSD.out) ?_
          rintro e X ⟨rfl, hbw⟩
          refine ⟨_, rfl, ?_⟩
          have HBW := Lib.hid hbw
          have HSX : Hid ((fun V : World => SBe2 w1 V) X) := Lib.hid (Below.trans (HSD.out : Below w1.heap.size w1 _) (hbw.mono (Below.size (HSD.out : Below w1.heap.size w1 _))))
          clear hbw
          refine hK.out _ _ (.inr HSX.out) ?_
          clear hK K
          change wpAnyK _ _ _ _ _ _ _ _ (Act.put _ (some 66) _) _
          try simp only [Act.put, List.setIfInBounds_toArray, List.set_cons_zero, List.set_cons_succ]
          refine wpAnyK_takeP (i := 8) (v := ?ve38) rfl (by kernel_rfl) (by kernel_rfl) (by kernel_rfl) (by kernel_rfl) (fun _ _ _ h => h) (Or.inl ⟨by rfl, fun w hSw => ?hye38⟩) (.inr HSX.out) ?reste38
          case hye38 =>
            go_simp
            try with_reducible rfl
          change wpAnyK _ _ _ _ _ _ _ _ (Act.put _ (some 58) _) _
          try simp only [Act.put, List.setIfInBounds_toArray, List.set_cons_zero, List.set_cons_succ]
          refine wpAnyK_takeP (i := 9) (v := ?ve39) rfl (by kernel_rfl) (by kernel_rfl) (by kernel_rfl) (by kernel_rfl) (fun _ _ _ h => h) (Or.inl ⟨by rfl, fun w hSw => ?hye39⟩) (.inr HSX.out) ?reste39
          case hye39 =>
            go_simp
            try with_reducible rfl
          change wpAnyK _ _ _ _ _ _ _ _ (Act.put _ (some 67) _) _
          try simp only [Act.put, List.setIfInBounds_toArray, List.set_cons_zero, List.set_cons_succ]
          refine wpAnyK_takeP (i := 10) (v := ?ve310) rfl (by kernel_rfl) (by kernel_rfl) (by kernel_rfl) (by kernel_rfl) (fun _ _ _ h => h) (Or.inl ⟨by rfl, fun w hSw => ?hye310⟩) (.inr HSX.out) ?reste310
          case hye310 =>
            go_simp
            try with_reducible rfl
          change wpAnyK _ _ _ _ _ _ _ _ (Act.put _ (some 68) _) _
          try simp only [Act.put, List.setIfInBounds_toArray, List.set_cons_zero, List.set_cons_succ]
          refine wpAnyK_takeP (i := 11) (v := ?ve311) rfl (by kernel_rfl) (by kernel_rfl) (by kernel_rfl) (by kernel_rfl) (fun _ _ _ h => h) (Or.inl ⟨by rfl, fun w hSw => ?hye311⟩) (.inr HSX.out) ?reste311
          case hye311 =>
            go_simp
            try with_reducible rfl
          change wpAnyK _ _ _ _ _ _ _ _ (Act.put _ (some 69) _) _
          try simp only [Act.put, List.setIfInBounds_toArray, List.set_cons_zero, List.set_cons_succ]
          refine wpAnyK_only (i := 12) (by kernel_rfl) rfl (fun K hK => ?_)
          go_simp
          have HSY : Hid ((fun V : World => SBe2 w1 V) (X.alloc (.cells #[.int .i64 0, .slice none 0 0, .bool false, .string ⟨#[]⟩, .string ⟨#[]⟩, .int .i64 0] 29))) := Lib.hid (Below.alloc (HSX.out : Below w1.heap.size w1 X) (Below.size (HSX.out : Below w1.heap.size w1 X)) _)
          refine hK.out _ _ (.inr HSY.out) ?_
          clear hK K
          try simp only [Act.put, List.setIfInBounds_toArray, List.set_cons_zero, List.set_cons_succ]
          obtain ⟨ad, had⟩ : ∃ ad, ad = X.heap.size := ⟨_, rfl⟩
          obtain ⟨X9, hX9⟩ : ∃ X9, X9 = X.alloc (.cells #[.int .i64 0, .slice none 0 0, .bool false, .string ⟨#[]⟩, .string ⟨#[]⟩, .int .i64 0] 29) := ⟨_, rfl⟩
          have HMK : Hid (Blk X9 ad 29 [.int .i64 0, .slice none 0 0, .bool false, .string ⟨#[]⟩, .string ⟨#[]⟩, .int .i64 0]) := Lib.hid (by rw [hX9, had]; exact Blk.new X 29 [.int .i64 0, .slice none 0 0, .bool false, .string ⟨#[]⟩, .string ⟨#[]⟩, .int .i64 0])
          have HAD : Hid (w1.heap.size ≤ ad) := Lib.hid (by rw [had]; exact Below.size (HSX.out : Below w1.heap.size w1 X))
          have HS9 : Hid ((fun V : World => SBe2 w1 V) X9) := Lib.hid (by rw [hX9]; exact HSY.out)
          rw [← hX9, ← had]
          clear hX9 had
        case' g3x12 =>
          go_simp
          have HSY : Hid ((fun V : World => SBe2 w1 V) (w1.drew.alloc (.cells #[.int .i64 0, .slice none 0 0, .bool false, .string ⟨#[]⟩, .string ⟨#[]⟩, .int .i64 0] 29))) := Lib.hid (Below.alloc (HSD.out : Below w1.heap.size w1 w1.drew) (Below.size (HSD.out : Below w1.heap.size w1 w1.drew)) _)
          refine hK.out _ _ (.inr HSY.out) ?_
          clear hK K
          try simp only [Act.put, List.setIfInBounds_toArray, List.set_cons_zero, List.set_cons_succ]
          refine wpAnyK_only (i := 7) (by kernel_rfl) rfl (fun K hK => ?_)
          refine step_call rfl 27 _ _ rfl (enters_of Tryd.func27 (by kernel_rfl) rfl) #[.agg #[.int .i64 most, .slice rA n rc, u2, u3, u4, u5], .string ⟨d.toArray⟩, .string ⟨b.toArray⟩] (by simp [Act.eval, Act.put]) (PRO.out _ HSY.out) ?_
          rintro e X ⟨rfl, hbw⟩
          refine ⟨_, rfl, ?_⟩
          have HBW := Lib.hid hbw
          have HSX : Hid ((fun V : World => SBe2 w1 V) X) := Lib.hid (Below.trans (HSY.out : Below w1.heap.size w1 _) (hbw.mono (Below.size (HSY.out : Below w1.heap.size w1 _))))
          clear hbw
          refine hK.out _ _ (.inr HSX.out) ?_
          clear hK K
          change wpAnyK _ _ _ _ _ _ _ _ (Act.put _ (some 66) _) _
          try simp only [Act.put, List.setIfInBounds_toArray, List.set_cons_zero, List.set_cons_succ]
          refine wpAnyK_takeP (i := 8) (v := ?ve58) rfl (by kernel_rfl) (by kernel_rfl) (by kernel_rfl) (by kernel_rfl) (fun _ _ _ h => h) (Or.inl ⟨by rfl, fun w hSw => ?hye58⟩) (.inr HSX.out) ?reste58
          case hye58 =>
            go_simp
            try with_reducible rfl
          change wpAnyK _ _ _ _ _ _ _ _ (Act.put _ (some 58) _) _
          try simp only [Act.put, List.setIfInBounds_toArray, List.set_cons_zero, List.set_cons_succ]
          refine wpAnyK_takeP (i := 9) (v := ?ve59) rfl (by kernel_rfl) (by kernel_rfl) (by kernel_rfl) (by kernel_rfl) (fun _ _ _ h => h) (Or.inl ⟨by rfl, fun w hSw => ?hye59⟩) (.inr HSX.out) ?reste59
          case hye59 =>
            go_simp
            try with_reducible rfl
          change wpAnyK _ _ _ _ _ _ _ _ (Act.put _ (some 67) _) _
          try simp only [Act.put, List.setIfInBounds_toArray, List.set_cons_zero, List.set_cons_succ]
          refine wpAnyK_takeP (i := 10) (v := ?ve510) rfl (by kernel_rfl) (by kernel_rfl) (by kernel_rfl) (by kernel_rfl) (fun _ _ _ h => h) (Or.inl ⟨by rfl, fun w hSw => ?hye510⟩) (.inr HSX.out) ?reste510
          case hye510 =>
            go_simp
            try with_reducible rfl
          change wpAnyK _ _ _ _ _ _ _ _ (Act.put _ (some 68) _) _
          try simp only [Act.put, List.setIfInBounds_toArray, List.set_cons_zero, List.set_cons_succ]
          refine wpAnyK_takeP (i := 11) (v := ?ve511) rfl (by kernel_rfl) (by kernel_rfl) (by kernel_rfl) (by kernel_rfl) (fun _ _ _ h => h) (Or.inl ⟨by rfl, fun w hSw => ?hye511⟩) (.inr HSX.out) ?reste511
          case hye511 =>
            go_simp
            try with_reducible rfl
          change wpAnyK _ _ _ _ _ _ _ _ (Act.put _ (some 69) _) _
          try simp only [Act.put, List.setIfInBounds_toArray, List.set_cons_zero, List.set_cons_succ]
          obtain ⟨ad, had⟩ : ∃ ad, ad = w1.heap.size := ⟨_, rfl⟩
          obtain ⟨X9, hX9⟩ : ∃ X9, X9 = X := ⟨_, rfl⟩
          have HMK : Hid (Blk X9 ad 29 [.int .i64 0, .slice none 0 0, .bool false, .string ⟨#[]⟩, .string ⟨#[]⟩, .int .i64 0]) := Lib.hid (by rw [hX9, had]; exact Blk.below (Blk.new w1.drew 29 [.int .i64 0, .slice none 0 0, .bool false, .string ⟨#[]⟩, .string ⟨#[]⟩, .int .i64 0]) HBW.out (by simp))
          have HAD : Hid (w1.heap.size ≤ ad) := Lib.hid (by omega)
          have HS9 : Hid ((fun V : World => SBe2 w1 V) X9) := Lib.hid (by rw [hX9]; exact HSX.out)
          rw [← hX9, ← had]
          clear hX9 had
      case' g2x12 =>
        go_simp
        have HSY : Hid ((fun V : World => SBe2 w1 V) (w1.drew.alloc (.cells #[.int .i64 0, .slice none 0 0, .bool false, .string ⟨#[]⟩, .string ⟨#[]⟩, .int .i64 0] 29))) := Lib.hid (Below.alloc (HSD.out : Below w1.heap.size w1 w1.drew) (Below.size (HSD.out : Below w1.heap.size w1 w1.drew)) _)
        refine hK.out _ _ (.inr HSY.out) ?_
        clear hK K
        try simp only [Act.put, List.setIfInBounds_toArray, List.set_cons_zero, List.set_cons_succ]
        refine wpAnyK_only (i := 6) (by kernel_rfl) rfl (fun K hK => ?_)
        refine step_call rfl 16 _ _ rfl (enters_of Tryd.func16 (by kernel_rfl) rfl) #[.string s2] (by simp [Act.eval, Act.put]) (PC2.out _) ?_
        rintro e wy ⟨rfl, rfl⟩
        refine ⟨_, rfl, ?_⟩
        refine hK.out _ _ (.inr HSY.out) ?_
        clear hK K
        change wpAnyK _ _ _ _ _ _ _ _ (Act.put _ (some 65) _) _
        try simp only [Act.put, List.setIfInBounds_toArray, List.set_cons_zero, List.set_cons_succ]
        refine wpAnyK_only (i := 7) (by kernel_rfl) rfl (fun K hK => ?_)
        refine step_call rfl 27 _ _ rfl (enters_of Tryd.func27 (by kernel_rfl) rfl) #[.agg #[.int .i64 most, .slice rA n rc, u2, u3, u4, u5], .string ⟨d.toArray⟩, .string ⟨b.toArray⟩] (by simp [Act.eval, Act.put]) (PRO.out _ HSY.out) ?_
        rintro e X ⟨rfl, hbw⟩
        refine ⟨_, rfl, ?_⟩
        have HBW := Lib.hid hbw
        have HSX : Hid ((fun V : World => SBe2 w1 V) X) := Lib.hid (Below.trans (HSY.out : Below w1.heap.size w1 _) (hbw.mono (Below.size (HSY.out : Below w1.heap.size w1 _))))
        clear hbw
        refine hK.out _ _ (.inr HSX.out) ?_
        clear hK K
        change wpAnyK _ _ _ _ _ _ _ _ (Act.put _ (some 66) _) _
        try simp only [Act.put, List.setIfInBounds_toArray, List.set_cons_zero, List.set_cons_succ]
        refine wpAnyK_takeP (i := 8) (v := ?ve78) rfl (by kernel_rfl) (by kernel_rfl) (by kernel_rfl) (by kernel_rfl) (fun _ _ _ h => h) (Or.inl ⟨by rfl, fun w hSw => ?hye78⟩) (.inr HSX.out) ?reste78
        case hye78 =>
          go_simp
          try with_reducible rfl
        change wpAnyK _ _ _ _ _ _ _ _ (Act.put _ (some 58) _) _
        try simp only [Act.put, List.setIfInBounds_toArray, List.set_cons_zero, List.set_cons_succ]
        refine wpAnyK_takeP (i := 9) (v := ?ve79) rfl (by kernel_rfl) (by kernel_rfl) (by kernel_rfl) (by kernel_rfl) (fun _ _ _ h => h) (Or.inl ⟨by rfl, fun w hSw => ?hye79⟩) (.inr HSX.out) ?reste79
        case hye79 =>
          go_simp
          try with_reducible rfl
        change wpAnyK _ _ _ _ _ _ _ _ (Act.put _ (some 67) _) _
        try simp only [Act.put, List.setIfInBounds_toArray, List.set_cons_zero, List.set_cons_succ]
        refine wpAnyK_takeP (i := 10) (v := ?ve710) rfl (by kernel_rfl) (by kernel_rfl) (by kernel_rfl) (by kernel_rfl) (fun _ _ _ h => h) (Or.inl ⟨by rfl, fun w hSw => ?hye710⟩) (.inr HSX.out) ?reste710
        case hye710 =>
          go_simp
          try with_reducible rfl
        change wpAnyK _ _ _ _ _ _ _ _ (Act.put _ (some 68) _) _
        try simp only [Act.put, List.setIfInBounds_toArray, List.set_cons_zero, List.set_cons_succ]
        refine wpAnyK_takeP (i := 11) (v := ?ve711) rfl (by kernel_rfl) (by kernel_rfl) (by kernel_rfl) (by kernel_rfl) (fun _ _ _ h => h) (Or.inl ⟨by rfl, fun w hSw => ?hye711⟩) (.inr HSX.out) ?reste711
        case hye711 =>
          go_simp
          try with_reducible rfl
        change wpAnyK _ _ _ _ _ _ _ _ (Act.put _ (some 69) _) _
        try simp only [Act.put, List.setIfInBounds_toArray, List.set_cons_zero, List.set_cons_succ]
        obtain ⟨ad, had⟩ : ∃ ad, ad = w1.heap.size := ⟨_, rfl⟩
        obtain ⟨X9, hX9⟩ : ∃ X9, X9 = X := ⟨_, rfl⟩
        have HMK : Hid (Blk X9 ad 29 [.int .i64 0, .slice none 0 0, .bool false, .string ⟨#[]⟩, .string ⟨#[]⟩, .int .i64 0]) := Lib.hid (by rw [hX9, had]; exact Blk.below (Blk.new w1.drew 29 [.int .i64 0, .slice none 0 0, .bool false, .string ⟨#[]⟩, .string ⟨#[]⟩, .int .i64 0]) HBW.out (by simp))
        have HAD : Hid (w1.heap.size ≤ ad) := Lib.hid (by omega)
        have HS9 : Hid ((fun V : World => SBe2 w1 V) X9) := Lib.hid (by rw [hX9]; exact HSX.out)
        rw [← hX9, ← had]
        clear hX9 had
    case' g1x12 =>
      go_simp
      have HSY : Hid ((fun V : World => SBe2 w1 V) (w1.drew.alloc (.cells #[.int .i64 0, .slice none 0 0, .bool false, .string ⟨#[]⟩, .string ⟨#[]⟩, .int .i64 0] 29))) := Lib.hid (Below.alloc (HSD.out : Below w1.heap.size w1 w1.drew) (Below.size (HSD.out : Below w1.heap.size w1 w1.drew)) _)
      refine hK.out _ _ (.inr HSY.out) ?_
      clear hK K
      try simp only [Act.put, List.setIfInBounds_toArray, List.set_cons_zero, List.set_cons_succ]
      refine wpAnyK_only (i := 3) (by kernel_rfl) rfl (fun K hK => ?_)
      refine step_call rfl 16 _ _ rfl (enters_of Tryd.func16 (by kernel_rfl) rfl) #[.string s1] (by simp [Act.eval, Act.put]) (PC1.out _) ?_
      rintro e wy ⟨rfl, rfl⟩
      refine ⟨_, rfl, ?_⟩
      refine hK.out _ _ (.inr HSY.out) ?_
      clear hK K
      change wpAnyK _ _ _ _ _ _ _ _ (Act.put _ (some 62) _) _
      try simp only [Act.put, List.setIfInBounds_toArray, List.set_cons_zero, List.set_cons_succ]
      refine wpAnyK_only (i := 6) (by kernel_rfl) rfl (fun K hK => ?_)
      refine step_call rfl 16 _ _ rfl (enters_of Tryd.func16 (by kernel_rfl) rfl) #[.string s2] (by simp [Act.eval, Act.put]) (PC2.out _) ?_
      rintro e wy ⟨rfl, rfl⟩
      refine ⟨_, rfl, ?_⟩
      refine hK.out _ _ (.inr HSY.out) ?_
      clear hK K
      change wpAnyK _ _ _ _ _ _ _ _ (Act.put _ (some 65) _) _
      try simp only [Act.put, List.setIfInBounds_toArray, List.set_cons_zero, List.set_cons_succ]
      refine wpAnyK_only (i := 7) (by kernel_rfl) rfl (fun K hK => ?_)
      refine step_call rfl 27 _ _ rfl (enters_of Tryd.func27 (by kernel_rfl) rfl) #[.agg #[.int .i64 most, .slice rA n rc, u2, u3, u4, u5], .string ⟨d.toArray⟩, .string ⟨b.toArray⟩] (by simp [Act.eval, Act.put]) (PRO.out _ HSY.out) ?_
      rintro e X ⟨rfl, hbw⟩
      refine ⟨_, rfl, ?_⟩
      have HBW := Lib.hid hbw
      have HSX : Hid ((fun V : World => SBe2 w1 V) X) := Lib.hid (Below.trans (HSY.out : Below w1.heap.size w1 _) (hbw.mono (Below.size (HSY.out : Below w1.heap.size w1 _))))
      clear hbw
      refine hK.out _ _ (.inr HSX.out) ?_
      clear hK K
      change wpAnyK _ _ _ _ _ _ _ _ (Act.put _ (some 66) _) _
      try simp only [Act.put, List.setIfInBounds_toArray, List.set_cons_zero, List.set_cons_succ]
      refine wpAnyK_takeP (i := 8) (v := ?ve108) rfl (by kernel_rfl) (by kernel_rfl) (by kernel_rfl) (by kernel_rfl) (fun _ _ _ h => h) (Or.inl ⟨by rfl, fun w hSw => ?hye108⟩) (.inr HSX.out) ?reste108
      case hye108 =>
        go_simp
        try with_reducible rfl
      change wpAnyK _ _ _ _ _ _ _ _ (Act.put _ (some 58) _) _
      try simp only [Act.put, List.setIfInBounds_toArray, List.set_cons_zero, List.set_cons_succ]
      refine wpAnyK_takeP (i := 9) (v := ?ve109) rfl (by kernel_rfl) (by kernel_rfl) (by kernel_rfl) (by kernel_rfl) (fun _ _ _ h => h) (Or.inl ⟨by rfl, fun w hSw => ?hye109⟩) (.inr HSX.out) ?reste109
      case hye109 =>
        go_simp
        try with_reducible rfl
      change wpAnyK _ _ _ _ _ _ _ _ (Act.put _ (some 67) _) _
      try simp only [Act.put, List.setIfInBounds_toArray, List.set_cons_zero, List.set_cons_succ]
      refine wpAnyK_takeP (i := 10) (v := ?ve1010) rfl (by kernel_rfl) (by kernel_rfl) (by kernel_rfl) (by kernel_rfl) (fun _ _ _ h => h) (Or.inl ⟨by rfl, fun w hSw => ?hye1010⟩) (.inr HSX.out) ?reste1010
      case hye1010 =>
        go_simp
        try with_reducible rfl
      change wpAnyK _ _ _ _ _ _ _ _ (Act.put _ (some 68) _) _
      try simp only [Act.put, List.setIfInBounds_toArray, List.set_cons_zero, List.set_cons_succ]
      refine wpAnyK_takeP (i := 11) (v := ?ve1011) rfl (by kernel_rfl) (by kernel_rfl) (by kernel_rfl) (by kernel_rfl) (fun _ _ _ h => h) (Or.inl ⟨by rfl, fun w hSw => ?hye1011⟩) (.inr HSX.out) ?reste1011
      case hye1011 =>
        go_simp
        try with_reducible rfl
      change wpAnyK _ _ _ _ _ _ _ _ (Act.put _ (some 69) _) _
      try simp only [Act.put, List.setIfInBounds_toArray, List.set_cons_zero, List.set_cons_succ]
      obtain ⟨ad, had⟩ : ∃ ad, ad = w1.heap.size := ⟨_, rfl⟩
      obtain ⟨X9, hX9⟩ : ∃ X9, X9 = X := ⟨_, rfl⟩
      have HMK : Hid (Blk X9 ad 29 [.int .i64 0, .slice none 0 0, .bool false, .string ⟨#[]⟩, .string ⟨#[]⟩, .int .i64 0]) := Lib.hid (by rw [hX9, had]; exact Blk.below (Blk.new w1.drew 29 [.int .i64 0, .slice none 0 0, .bool false, .string ⟨#[]⟩, .string ⟨#[]⟩, .int .i64 0]) HBW.out (by simp))
      have HAD : Hid (w1.heap.size ≤ ad) := Lib.hid (by omega)
      have HS9 : Hid ((fun V : World => SBe2 w1 V) X9) := Lib.hid (by rw [hX9]; exact HSX.out)
      rw [← hX9, ← had]
      clear hX9 had
    all_goals
      refine wpAnyK_only (i := 13) (by kernel_rfl) rfl (fun K hK => ?_)
      refine step_store_blkK rfl _ _ _ rfl ad 0 _ [.int .i64 0, .slice none 0 0, .bool false, .string ⟨#[]⟩, .string ⟨#[]⟩, .int .i64 0] [.int .i64 most, .slice rA n rc, v2, v3, v4, v5] (by simp [Act.eval, Act.put]) (by simp [Act.eval, Act.put]) HMK.out (by simp) rh_size (by rw [← HV.out]; exact rvC_one most rA n rc K1) ?_
      intro X10 hn10 hg10
      have hc10 := chg_of_grown hg10
      have HSZ : Hid ((fun V : World => SBe2 w1 V) X10) := Lib.hid (Below.trans (HS9.out : Below w1.heap.size w1 X9) (hc10.below (Below.size (HS9.out : Below w1.heap.size w1 X9)) (fun j hj => by unfold one at hj; have := HAD.out; omega)))
      refine hK.out _ _ (.inr HSZ.out) ?_
      clear hK K
      try simp only [Act.put, List.setIfInBounds_toArray, List.set_cons_zero, List.set_cons_succ]
      refine wpAnyK_only (i := 14) (by kernel_rfl) rfl (fun K hK => ?_)
      go_simp
      refine hK.out _ _ (.inr HSZ.out) ?_
      clear hK K
      try simp only [Act.put, List.setIfInBounds_toArray, List.set_cons_zero, List.set_cons_succ]
      refine wpAnyK_only (i := 15) (by kernel_rfl) rfl (fun K hK => ?_)
      go_simp
      refine hK.out _ _ (.inl (by kernel_rfl)) ?_
      clear hK K
      try simp only [Act.put, List.setIfInBounds_toArray, List.set_cons_zero, List.set_cons_succ]
      refine wpAnyK_done (by kernel_rfl) ?_ _
      (try go_wp2_with (fail))
      go_meet
      exact ⟨ad, rfl, rfl, rfl, Lib.hid hn10, HSZ.out⟩
  case rest =>
  obtain ⟨ad, rfl, rfl, rfl, hm, hsz⟩ := hcut
  generalize wc = X10 at *
  have HM10 := hm
  have HSZ : Hid (SBe2 w1 X10) := Lib.hid hsz
  clear hm hsz
  have x0 := HM10.out.cell 0
  have x1 := HM10.out.cell 1
  have x2 := HM10.out.cell 2
  have x3 := HM10.out.cell 3
  have x4 := HM10.out.cell 4
  have x5 := HM10.out.cell 5
  simp only [List.getElem?_cons_succ, List.getElem?_cons_zero] at x0 x1 x2 x3 x4 x5
  go_wp2_with ((with_reducible refine at_store 6 ?_); refine wpList_store_blk rfl _ _ _ rfl rfl (w.heap.size + 1 + 1) 0 _ blankH [.int .i64 most, .slice rA n rc, v2, v3, v4, v5] rfl rfl (HK9.out X10 HSZ.out).2.2 (by simp [blankH]) rh_size (by rw [← HV.out]; exact rvC_one most rA n rc K1) ?_; intro w8 hn8 hg8)
  have hc8 := chg_of_grown hg8
  have hn9 : Blk w8 (w.heap.size + 1 + 1) 29 [.int .i64 most, .slice rA n rc, v2, v3, v4, v5] := hn8
  refine bodyPost_ret (hsres_ct (ad := w.heap.size + 1 + 1) (cs := [.int .i64 most, .slice rA n rc, v2, v3, v4, v5]) rfl rfl rfl (Blk.range (t := 29) hn9 0 _ (fun j v hv => by simpa using hv)) Tryd.underlying29 rfl rh_size) rfl ?_
  exact StepH.close (K' := K1) (HCW.out.trans HC1.out (fun j hj => .inl hj)) Q1.out (HK.out _ HC1.out).2.2 (by omega) HH.out HSZ.out (HR1.out.chg (Chg.of_below (S := noB) HSZ.out) (fun _ _ h => h)) (fun k hk => by have := (HAP.out k hk).2; omega) hc8 HKB1.out HV.out HOWN.out (fun k hk => .inl hk)
set_option maxHeartbeats 16000000 in
theorem step_older4 {w : World} {lo h c most : Nat} {A : Option Addr} {L : List (List UInt8)} {K : Option HW} (q : HsAt w lo h A c most L K) (hlw : lo ≤ w.heap.size) (rA : Option Addr) (n rc : Nat) (hR : RowH w h rA n rc L) (hKB : KB K) (kd : Int) (s1 s2 : ByteArray) (hd0 : 0 ≤ kd) (hd1 : kd ≤ 255) (hs1 : s1.size ≤ maxLen) (hs2 : s2.size ≤ maxLen) (hk : kd % 8 = 4) :
    Calls Tryd.prog 10 #[.pointer (some ⟨h, 0, none⟩), .agg (rvC most rA n rc K).toArray, .agg #[.int .u8 kd, .string s1, .string s2]] w (StepH w lo h most A K rA) := by
  have hq3 : (kd % 8 == 3) = false := by simp; omega
  have hq4 : (kd % 8 == 4) = true := by simp; omega
  clear hk
  obtain ⟨d, hd⟩ : ∃ d, d = cut60 s1.data.toList := ⟨_, rfl⟩
  obtain ⟨b, hb⟩ : ∃ b, b = cut60 s2.data.toList := ⟨_, rfl⟩
  have hdl : d.length ≤ 60 := by rw [hd]; exact cut60_len _
  have hbl : b.length ≤ 60 := by rw [hb]; exact cut60_len _
  have hok : ∀ l ∈ L, l.length ≤ 3000 := fun l hl => (q.ok l hl).2
  have hl4 : n ≤ 256 := by rw [hR.len]; exact q.len4
  have PC1 : Hid (∀ V, Calls Tryd.prog 16 #[.string s1] V fun e w' => e = .returned (.string ⟨d.toArray⟩) ∧ V = w') := Lib.hid (fun V => by rw [hd]; exact hcut_any s1 hs1 V)
  have PC2 : Hid (∀ V, Calls Tryd.prog 16 #[.string s2] V fun e w' => e = .returned (.string ⟨b.toArray⟩) ∧ V = w') := Lib.hid (fun V => by rw [hb]; exact hcut_any s2 hs2 V)
  have HWK : Hid (∀ k, K = some k → k.i < L.length ∧ k.d.length ≤ 1000000 ∧ k.b.length ≤ 1000000) := Lib.hid (fun k hk => by have h1 := hKB k hk; have h2 := (q.wk k hk).2.2.2; exact ⟨h2, by omega, by omega⟩)
  have HOK := Lib.hid hok
  clear hok hd hb
  have hh : h < w.heap.size := q.head.lt
  obtain ⟨u2, u3, u4, u5, hu⟩ := rvC_cells most rA n rc K
  rw [hu]
  obtain ⟨W, hW⟩ : ∃ W, W = ((w.alloc (.cells #[.int .i64 most, .slice rA n rc, u2, u3, u4, u5] 29)).alloc (.cells #[.int .u8 kd, .string s1, .string s2] 34)).alloc (.cells #[.int .i64 0, .slice none 0 0, .bool false, .string ⟨#[]⟩, .string ⟨#[]⟩, .int .i64 0] 29) := ⟨_, rfl⟩
  have hb0 : Below w.heap.size w W := by rw [hW]; exact (((Below.refl _ w).alloc (Nat.le_refl _) _).alloc (by simp) _).alloc (by simp; omega) _
  have hB4 : Blk W w.heap.size 29 [.int .i64 most, .slice rA n rc, u2, u3, u4, u5] := by rw [hW]; exact ((Blk.new w 29 _).alloc _).alloc _
  have hB5 : Blk W (w.heap.size + 1) 34 [.int .u8 kd, .string s1, .string s2] := by
    have := (Blk.new (w.alloc (.cells #[.int .i64 most, .slice rA n rc, u2, u3, u4, u5] 29)) 34 [.int .u8 kd, .string s1, .string s2]).alloc (.cells #[.int .i64 0, .slice none 0 0, .bool false, .string ⟨#[]⟩, .string ⟨#[]⟩, .int .i64 0] 29)
    rw [hW]; simpa using this
  have hB6 : Blk W (w.heap.size + 1 + 1) 29 blankH := by
    have := Blk.new ((w.alloc (.cells #[.int .i64 most, .slice rA n rc, u2, u3, u4, u5] 29)).alloc (.cells #[.int .u8 kd, .string s1, .string s2] 34)) 29 blankH
    rw [hW]; simpa [blankH] using this
  have hk4 : ∀ V, Chg (one h) W V → Blk V w.heap.size 29 [.int .i64 most, .slice rA n rc, u2, u3, u4, u5] ∧ Blk V (w.heap.size + 1) 34 [.int .u8 kd, .string s1, .string s2] ∧ Blk V (w.heap.size + 1 + 1) 29 blankH := fun V hV =>
    ⟨hB4.chg hV (fun e => by unfold one at e; omega), hB5.chg hV (fun e => by unfold one at e; omega), hB6.chg hV (fun e => by unfold one at e; omega)⟩
  have HK := Lib.hid hk4
  have HB0 := Lib.hid hb0
  have HR0 := Lib.hid (hR.chg (Chg.of_below (S := noB) hb0) (fun _ _ h => h))
  have Q0 := Lib.hid (q.below hb0)
  have HCW := Lib.hid (Chg.of_below (S := one h) hb0)
  have HH := Lib.hid hh
  have HU := Lib.hid hu
  have HAP := Lib.hid hR.ap
  have HKB := Lib.hid hKB
  clear hR q hk4 hb0 hB4 hB5 hB6 hh hu hKB
  obtain ⟨B4, B5, B6⟩ := HK.out _ (Chg.refl _ W)
  have a0 : W.cell? ⟨w.heap.size, 0, none⟩ = some (.int .i64 most) := B4.cell 0
  have a1 : W.cell? ⟨w.heap.size, 1, none⟩ = some (.slice rA n rc) := B4.cell 1
  have a2 : W.cell? ⟨w.heap.size, 2, none⟩ = some (u2) := B4.cell 2
  have a3 : W.cell? ⟨w.heap.size, 3, none⟩ = some (u3) := B4.cell 3
  have a4 : W.cell? ⟨w.heap.size, 4, none⟩ = some (u4) := B4.cell 4
  have a5 : W.cell? ⟨w.heap.size, 5, none⟩ = some (u5) := B4.cell 5
  have o0 : W.cell? ⟨w.heap.size + 1, 0, none⟩ = some (.int .u8 kd) := B5.cell 0
  have o1 : W.cell? ⟨w.heap.size + 1, 1, none⟩ = some (.string s1) := B5.cell 1
  have o2 : W.cell? ⟨w.heap.size + 1, 2, none⟩ = some (.string s2) := B5.cell 2
  have z0 : W.cell? ⟨w.heap.size + 1 + 1, 0, none⟩ = some (.int .i64 0) := B6.cell 0
  have y0 : W.frozen? ⟨w.heap.size + 1 + 1, 0, none⟩ = false := B6.frozen 0
  have z1 : W.cell? ⟨w.heap.size + 1 + 1, 1, none⟩ = some (.slice none 0 0) := B6.cell 1
  have y1 : W.frozen? ⟨w.heap.size + 1 + 1, 1, none⟩ = false := B6.frozen 1
  have z2 : W.cell? ⟨w.heap.size + 1 + 1, 2, none⟩ = some (.bool false) := B6.cell 2
  have y2 : W.frozen? ⟨w.heap.size + 1 + 1, 2, none⟩ = false := B6.frozen 2
  have z3 : W.cell? ⟨w.heap.size + 1 + 1, 3, none⟩ = some (.string ⟨#[]⟩) := B6.cell 3
  have y3 : W.frozen? ⟨w.heap.size + 1 + 1, 3, none⟩ = false := B6.frozen 3
  have z4 : W.cell? ⟨w.heap.size + 1 + 1, 4, none⟩ = some (.string ⟨#[]⟩) := B6.cell 4
  have y4 : W.frozen? ⟨w.heap.size + 1 + 1, 4, none⟩ = false := B6.frozen 4
  have z5 : W.cell? ⟨w.heap.size + 1 + 1, 5, none⟩ = some (.int .i64 0) := B6.cell 5
  have y5 : W.frozen? ⟨w.heap.size + 1 + 1, 5, none⟩ = false := B6.frozen 5
  have hz : w.heap.size + 1 + 1 < W.heap.size := B6.lt
  clear B4 B5 B6
  have HOLD : Hid (Calls Tryd.prog 24 #[.pointer (some ⟨h, 0, none⟩), .string ⟨d.toArray⟩, .string ⟨b.toArray⟩] W.drew fun e w' => ∃ K1 tx fd, e = .returned (.tuple #[.string tx, .bool fd]) ∧ Hid (HsAt w' lo h A c most L K1 ∧ OldR L K d b K1 tx fd ∧ OwnN W.drew h A K h A K1) ∧ Chg (one h) W.drew w') := Lib.hid (holder_both (Q0.out.drewN 1) d b (by omega) (by omega) (by have := HB0.out.size; show lo ≤ W.heap.size; omega))
  go_enter Tryd.func10, Tryd.ntmps10
  go_upto_region 1 with (fail)
  rw [← hW]
  clear hW
  go_upto_region 7 with (fail)
  clear a0 a1 a2 a3 a4 a5 o0 o1 o2 z0 y0 z1 y1 z2 y2 z3 y3 z4 y4 z5 y5 hz
  go_cut [8, 9] (fun v8 v9 wx => ∃ K1 tx fd, v8 = .string tx ∧ v9 = .bool fd ∧ Hid (HsAt wx lo h A c most L K1 ∧ OldR L K d b K1 tx fd ∧ OwnN W.drew h A K h A K1) ∧ SChg h W wx)
  case first =>
    have HSD : Hid ((fun V : World => SChg h W V) W.drew) := Lib.hid ((Chg.refl (one h) W).drew)
    refine wp_region_K (fun V : World => SChg h W V) 12 (by kernel_rfl) ?_
    refine wpAnyK_takeP (i := 0) (v := ?va0) rfl (by kernel_rfl) (by kernel_rfl) (by kernel_rfl) (by kernel_rfl) (fun _ _ _ h => h) (Or.inl ⟨by rfl, fun w hSw => ?hya0⟩) (.inr HSD.out) ?resta0
    case hya0 =>
      go_simp
      try with_reducible rfl
    change wpAnyK _ _ _ _ _ _ _ _ (Act.put _ (some 48) _) _
    try simp only [Act.put, List.setIfInBounds_toArray, List.set_cons_zero, List.set_cons_succ]
    refine wpAnyK_takeP (i := 1) (v := ?va1) rfl (by kernel_rfl) (by kernel_rfl) (by kernel_rfl) (by kernel_rfl) (fun _ _ _ h => h) (Or.inl ⟨by rfl, fun w hSw => ?hya1⟩) (.inr HSD.out) ?resta1
    case hya1 =>
      go_simp
      try with_reducible rfl
    change wpAnyK _ _ _ _ _ _ _ _ (Act.put _ (some 49) _) _
    try simp only [Act.put, List.setIfInBounds_toArray, List.set_cons_zero, List.set_cons_succ]
    refine wpAnyK_take (i := 2) (v := .string s1) rfl (by kernel_rfl) (by kernel_rfl) (by kernel_rfl) (by kernel_rfl) (fun _ _ _ h => h) (Or.inl ⟨by rfl, fun w hSw => ?hya2⟩) HSD.out ?resta2
    case hya2 =>
      have s1 := (HK.out w hSw).2.1.cell 1
      clear hSw
      try dsimp only at s1
      go_simp
      try with_reducible rfl
    change wpAnyK _ _ _ _ _ _ _ _ (Act.put _ (some 50) _) _
    try simp only [Act.put, List.setIfInBounds_toArray, List.set_cons_zero, List.set_cons_succ]
    refine wpAnyK_takeP (i := 4) (v := ?va4) rfl (by kernel_rfl) (by kernel_rfl) (by kernel_rfl) (by kernel_rfl) (fun _ _ _ h => h) (Or.inl ⟨by rfl, fun w hSw => ?hya4⟩) (.inr HSD.out) ?resta4
    case hya4 =>
      go_simp
      try with_reducible rfl
    change wpAnyK _ _ _ _ _ _ _ _ (Act.put _ (some 52) _) _
    try simp only [Act.put, List.setIfInBounds_toArray, List.set_cons_zero, List.set_cons_succ]
    refine wpAnyK_take (i := 5) (v := .string s2) rfl (by kernel_rfl) (by kernel_rfl) (by kernel_rfl) (by kernel_rfl) (fun _ _ _ h => h) (Or.inl ⟨by rfl, fun w hSw => ?hya5⟩) HSD.out ?resta5
    case hya5 =>
      have s1 := (HK.out w hSw).2.1.cell 2
      clear hSw
      try dsimp only at s1
      go_simp
      try with_reducible rfl
    change wpAnyK _ _ _ _ _ _ _ _ (Act.put _ (some 53) _) _
    try simp only [Act.put, List.setIfInBounds_toArray, List.set_cons_zero, List.set_cons_succ]
    refine wpAnyK_only (i := 3) (by kernel_rfl) rfl (fun K hK => ?_)
    refine step_call rfl 16 _ _ rfl (enters_of Tryd.func16 (by kernel_rfl) rfl) #[.string s1] (by simp [Act.eval, Act.put]) (PC1.out _) ?_
    rintro e wy ⟨rfl, rfl⟩
    refine ⟨_, rfl, ?_⟩
    refine hK.out _ _ (.inr HSD.out) ?_
    clear hK K
    change wpAnyK _ _ _ _ _ _ _ _ (Act.put _ (some 51) _) _
    try simp only [Act.put, List.setIfInBounds_toArray, List.set_cons_zero, List.set_cons_succ]
    refine wpAnyK_only (i := 6) (by kernel_rfl) rfl (fun K hK => ?_)
    refine step_call rfl 16 _ _ rfl (enters_of Tryd.func16 (by kernel_rfl) rfl) #[.string s2] (by simp [Act.eval, Act.put]) (PC2.out _) ?_
    rintro e wy ⟨rfl, rfl⟩
    refine ⟨_, rfl, ?_⟩
    refine hK.out _ _ (.inr HSD.out) ?_
    clear hK K
    change wpAnyK _ _ _ _ _ _ _ _ (Act.put _ (some 54) _) _
    try simp only [Act.put, List.setIfInBounds_toArray, List.set_cons_zero, List.set_cons_succ]
    refine wpAnyK_only (i := 7) (by kernel_rfl) rfl (fun K hK => ?_)
    refine step_call rfl 24 _ _ rfl (enters_of Tryd.func24 (by kernel_rfl) rfl) #[.pointer (some ⟨h, 0, none⟩), .string ⟨d.toArray⟩, .string ⟨b.toArray⟩] (by simp [Act.eval, Act.put]) (HOLD.out) ?_
    rintro e w1 ⟨K1, tx, fd, rfl, hq1, hc1⟩
    refine ⟨_, rfl, ?_⟩
    have HSE : Hid ((fun V : World => SChg h W V) w1) := Lib.hid (Chg.trans (HSD.out : Chg (one h) W W.drew) hc1 (fun _ h => .inl h))
    refine hK.out _ _ (.inr HSE.out) ?_
    clear hK K
    change wpAnyK _ _ _ _ _ _ _ _ (Act.put _ (some 55) _) _
    try simp only [Act.put, List.setIfInBounds_toArray, List.set_cons_zero, List.set_cons_succ]
    refine wpAnyK_takeP (i := 8) (v := ?vb8) rfl (by kernel_rfl) (by kernel_rfl) (by kernel_rfl) (by kernel_rfl) (fun _ _ _ h => h) (Or.inl ⟨by rfl, fun w hSw => ?hyb8⟩) (.inr HSE.out) ?restb8
    case hyb8 =>
      go_simp
      try with_reducible rfl
    change wpAnyK _ _ _ _ _ _ _ _ (Act.put _ (some 47) _) _
    try simp only [Act.put, List.setIfInBounds_toArray, List.set_cons_zero, List.set_cons_succ]
    refine wpAnyK_takeP (i := 9) (v := ?vb9) rfl (by kernel_rfl) (by kernel_rfl) (by kernel_rfl) (by kernel_rfl) (fun _ _ _ h => h) (Or.inl ⟨by rfl, fun w hSw => ?hyb9⟩) (.inr HSE.out) ?restb9
    case hyb9 =>
      go_simp
      try with_reducible rfl
    change wpAnyK _ _ _ _ _ _ _ _ (Act.put _ (some 56) _) _
    try simp only [Act.put, List.setIfInBounds_toArray, List.set_cons_zero, List.set_cons_succ]
    refine wpAnyK_takeP (i := 10) (v := ?vb10) rfl (by kernel_rfl) (by kernel_rfl) (by kernel_rfl) (by kernel_rfl) (fun _ _ _ h => h) (Or.inl ⟨by rfl, fun w hSw => ?hyb10⟩) (.inr HSE.out) ?restb10
    case hyb10 =>
      go_simp
      try with_reducible rfl
    change wpAnyK _ _ _ _ _ _ _ _ (Act.put _ (some 57) _) _
    try simp only [Act.put, List.setIfInBounds_toArray, List.set_cons_zero, List.set_cons_succ]
    refine wpAnyK_only (i := 11) (by kernel_rfl) rfl (fun K hK => ?_)
    go_simp
    refine hK.out _ _ (.inr HSE.out) ?_
    clear hK K
    try simp only [Act.put, List.setIfInBounds_toArray, List.set_cons_zero, List.set_cons_succ]
    refine wpAnyK_only (i := 12) (by kernel_rfl) rfl (fun K hK => ?_)
    go_simp
    refine hK.out _ _ (.inl (by kernel_rfl)) ?_
    clear hK K
    try simp only [Act.put, List.setIfInBounds_toArray, List.set_cons_zero, List.set_cons_succ]
    refine wpAnyK_done (by kernel_rfl) ?_ _
    (try go_wp2_with (fail))
    go_meet
    exact ⟨K1, tx, fd, rfl, rfl, hq1, HSE.out⟩
  case rest =>
  obtain ⟨K1, tx, fd, rfl, rfl, hq1, hc1⟩ := hcut
  generalize wc = w1 at *
  have HC1 : Hid (Chg (one h) W w1) := Lib.hid hc1
  have Q1 := Lib.hid hq1.out.1
  have HR1 := Lib.hid (HR0.out.chg HC1.out (fun k hk e => (HR0.out.ap k hk).1 e))
  obtain ⟨v2, v3, v4, v5, hv⟩ := rvC_cells most rA n rc K1
  have HV := Lib.hid hv
  have HOWN := Lib.hid (hq1.out.2.2.more (w0 := w) (by have := HB0.out.size; show w.heap.size ≤ W.heap.size; omega))
  have HKB1 := Lib.hid (hq1.out.2.1.kb HKB.out hdl hbl)
  have PRO : Hid (∀ V, SBe2 w1 V → Calls Tryd.prog 27 #[.agg #[.int .i64 most, .slice rA n rc, u2, u3, u4, u5], .string ⟨d.toArray⟩, .string ⟨b.toArray⟩] V fun e wx => e = .returned (.tuple #[.agg #[.int .i64 most, .slice rA n rc, v2, v3, v4, v5], .string tx, .bool fd]) ∧ Below V.heap.size V wx) := Lib.hid (fun V hV => by
    have hV2 : Below w1.heap.size w1 V := hV
    have h1 := rolder_both hq1.out.2.1 most HOK.out rA n rc (by omega) (by omega) V HR1.out.len hl4 ((HR1.out.s.below hV2).more hV2.size) HWK.out
    rw [HU.out, HV.out] at h1
    exact h1)
  have HK9 : Hid (∀ V, SBe2 w1 V → Blk V w.heap.size 29 [.int .i64 most, .slice rA n rc, u2, u3, u4, u5] ∧ Blk V (w.heap.size + 1) 34 [.int .u8 kd, .string s1, .string s2] ∧ Blk V (w.heap.size + 1 + 1) 29 blankH) := Lib.hid (fun V hV => HK.out V (HC1.out.trans (Chg.of_below (S := noB) hV) (fun _ h => h.elim)))
  have HZ1 : Hid (w.heap.size + 1 + 1 < w1.heap.size) := Lib.hid (HK9.out w1 (Below.refl _ _)).2.2.lt
  have HSD : Hid ((fun V : World => SBe2 w1 V) w1.drew) := Lib.hid ((Below.refl w1.heap.size w1).drew)
  clear hq1 hc1 hv
  go_upto_region 8 with (fail)
  go_cut [10, 11, 12] (fun v10 v11 v12 wx => ∃ ad : Nat, v10 = .pointer (some ⟨ad, 0, none⟩) ∧ v11 = .string tx ∧ v12 = .bool fd ∧ Hid (Blk wx ad 29 [.int .i64 most, .slice rA n rc, v2, v3, v4, v5]) ∧ SBe2 w1 wx)
  case first =>
    refine wp_region_K (fun V : World => SBe2 w1 V) 15 (by kernel_rfl) ?_
    refine wpAnyK_take (i := 0) (v := .agg #[.int .i64 most, .slice rA n rc, u2, u3, u4, u5]) rfl (by kernel_rfl) (by kernel_rfl) (by kernel_rfl) (by kernel_rfl) (fun _ _ _ h => h) (yieldsIf_load_mid (by rfl) _ _ rfl w.heap.size 0 rfl [.int .i64 most, .slice rA n rc, u2, u3, u4, u5] _ (fun w h => Blk.range (t := 29) (HK9.out w h).1 0 _ (fun j v hv => by simpa using hv)) Tryd.underlying29 rfl rh_size) HSD.out ?_
    change wpAnyK _ _ _ _ _ _ _ _ (Act.put _ (some 59) _) _
    try simp only [Act.put, List.setIfInBounds_toArray, List.set_cons_zero, List.set_cons_succ]
    refine wpAnyK_takeP (i := 1) (v := ?vd1) rfl (by kernel_rfl) (by kernel_rfl) (by kernel_rfl) (by kernel_rfl) (fun _ _ _ h => h) (Or.inl ⟨by rfl, fun w hSw => ?hyd1⟩) (.inr HSD.out) ?restd1
    case hyd1 =>
      go_simp
      try with_reducible rfl
    change wpAnyK _ _ _ _ _ _ _ _ (Act.put _ (some 60) _) _
    try simp only [Act.put, List.setIfInBounds_toArray, List.set_cons_zero, List.set_cons_succ]
    refine wpAnyK_take (i := 2) (v := .string s1) rfl (by kernel_rfl) (by kernel_rfl) (by kernel_rfl) (by kernel_rfl) (fun _ _ _ h => h) (Or.inl ⟨by rfl, fun w hSw => ?hyd2⟩) HSD.out ?restd2
    case hyd2 =>
      have s1 := (HK9.out w hSw).2.1.cell 1
      clear hSw
      try dsimp only at s1
      go_simp
      try with_reducible rfl
    change wpAnyK _ _ _ _ _ _ _ _ (Act.put _ (some 61) _) _
    try simp only [Act.put, List.setIfInBounds_toArray, List.set_cons_zero, List.set_cons_succ]
    refine wpAnyK_takeP (i := 4) (v := ?vd4) rfl (by kernel_rfl) (by kernel_rfl) (by kernel_rfl) (by kernel_rfl) (fun _ _ _ h => h) (Or.inl ⟨by rfl, fun w hSw => ?hyd4⟩) (.inr HSD.out) ?restd4
    case hyd4 =>
      go_simp
      try with_reducible rfl
    change wpAnyK _ _ _ _ _ _ _ _ (Act.put _ (some 63) _) _
    try simp only [Act.put, List.setIfInBounds_toArray, List.set_cons_zero, List.set_cons_succ]
    refine wpAnyK_take (i := 5) (v := .string s2) rfl (by kernel_rfl) (by kernel_rfl) (by kernel_rfl) (by kernel_rfl) (fun _ _ _ h => h) (Or.inl ⟨by rfl, fun w hSw => ?hyd5⟩) HSD.out ?restd5
    case hyd5 =>
      have s1 := (HK9.out w hSw).2.1.cell 2
      clear hSw
      try dsimp only at s1
      go_simp
      try with_reducible rfl
    change wpAnyK _ _ _ _ _ _ _ _ (Act.put _ (some 64) _) _
    try simp only [Act.put, List.setIfInBounds_toArray, List.set_cons_zero, List.set_cons_succ]
    refine wpAnyK_two (i := 3) (i' := 12) (by kernel_rfl) rfl rfl (fun K hK => ?g1x3) (fun K hK => ?g1x12)
    case' g1x3 =>
      refine step_call rfl 16 _ _ rfl (enters_of Tryd.func16 (by kernel_rfl) rfl) #[.string s1] (by simp [Act.eval, Act.put]) (PC1.out _) ?_
      rintro e wy ⟨rfl, rfl⟩
      refine ⟨_, rfl, ?_⟩
      refine hK.out _ _ (.inr HSD.out) ?_
      clear hK K
      change wpAnyK _ _ _ _ _ _ _ _ (Act.put _ (some 62) _) _
      try simp only [Act.put, List.setIfInBounds_toArray, List.set_cons_zero, List.set_cons_succ]
      refine wpAnyK_two (i := 6) (i' := 12) (by kernel_rfl) rfl rfl (fun K hK => ?g2x6) (fun K hK => ?g2x12)
      case' g2x6 =>
        refine step_call rfl 16 _ _ rfl (enters_of Tryd.func16 (by kernel_rfl) rfl) #[.string s2] (by simp [Act.eval, Act.put]) (PC2.out _) ?_
        rintro e wy ⟨rfl, rfl⟩
        refine ⟨_, rfl, ?_⟩
        refine hK.out _ _ (.inr HSD.out) ?_
        clear hK K
        change wpAnyK _ _ _ _ _ _ _ _ (Act.put _ (some 65) _) _
        try simp only [Act.put, List.setIfInBounds_toArray, List.set_cons_zero, List.set_cons_succ]
        refine wpAnyK_two (i := 7) (i' := 12) (by kernel_rfl) rfl rfl (fun K hK => ?g3x7) (fun K hK => ?g3x12)
        case' g3x7 =>
          refine step_call rfl 27 _ _ rfl (enters_of Tryd.func27 (by kernel_rfl) rfl) #[.agg #[.int .i64 most, .slice rA n rc, u2, u3, u4, u5], .string ⟨d.toArray⟩, .string ⟨b.toArray⟩] (by simp [Act.eval, Act.put]) (PRO.out _ HSD.out) ?_
          rintro e X ⟨rfl, hbw⟩
          refine ⟨_, rfl, ?_⟩
          have HBW := Lib.hid hbw
          have HSX : Hid ((fun V : World => SBe2 w1 V) X) := Lib.hid (Below.trans (HSD.out : Below w1.heap.size w1 _) (hbw.mono (Below.size (HSD.out : Below w1.heap.size w1 _))))
          clear hbw
          refine hK.out _ _ (.inr HSX.out) ?_
          clear hK K
          change wpAnyK _ _ _ _ _ _ _ _ (Act.put _ (some 66) _) _
          try simp only [Act.put, List.setIfInBounds_toArray, List.set_cons_zero, List.set_cons_succ]
          refine wpAnyK_takeP (i := 8) (v := ?ve38) rfl (by kernel_rfl) (by kernel_rfl) (by kernel_rfl) (by kernel_rfl) (fun _ _ _ h => h) (Or.inl ⟨by rfl, fun w hSw => ?hye38⟩) (.inr HSX.out) ?reste38
          case hye38 =>
            go_simp
            try with_reducible rfl
          change wpAnyK _ _ _ _ _ _ _ _ (Act.put _ (some 58) _) _
          try simp only [Act.put, List.setIfInBounds_toArray, List.set_cons_zero, List.set_cons_succ]
          refine wpAnyK_takeP (i := 9) (v := ?ve39) rfl (by kernel_rfl) (by kernel_rfl) (by kernel_rfl) (by kernel_rfl) (fun _ _ _ h => h) (Or.inl ⟨by rfl, fun w hSw => ?hye39⟩) (.inr HSX.out) ?reste39
          case hye39 =>
            go_simp
            try with_reducible rfl
          change wpAnyK _ _ _ _ _ _ _ _ (Act.put _ (some 67) _) _
          try simp only [Act.put, List.setIfInBounds_toArray, List.set_cons_zero, List.set_cons_succ]
          refine wpAnyK_takeP (i := 10) (v := ?ve310) rfl (by kernel_rfl) (by kernel_rfl) (by kernel_rfl) (by kernel_rfl) (fun _ _ _ h => h) (Or.inl ⟨by rfl, fun w hSw => ?hye310⟩) (.inr HSX.out) ?reste310
          case hye310 =>
            go_simp
            try with_reducible rfl
          change wpAnyK _ _ _ _ _ _ _ _ (Act.put _ (some 68) _) _
          try simp only [Act.put, List.setIfInBounds_toArray, List.set_cons_zero, List.set_cons_succ]
          refine wpAnyK_takeP (i := 11) (v := ?ve311) rfl (by kernel_rfl) (by kernel_rfl) (by kernel_rfl) (by kernel_rfl) (fun _ _ _ h => h) (Or.inl ⟨by rfl, fun w hSw => ?hye311⟩) (.inr HSX.out) ?reste311
          case hye311 =>
            go_simp
            try with_reducible rfl
          change wpAnyK _ _ _ _ _ _ _ _ (Act.put _ (some 69) _) _
          try simp only [Act.put, List.setIfInBounds_toArray, List.set_cons_zero, List.set_cons_succ]
          refine wpAnyK_only (i := 12) (by kernel_rfl) rfl (fun K hK => ?_)
          go_simp
          have HSY : Hid ((fun V : World => SBe2 w1 V) (X.alloc (.cells #[.int .i64 0, .slice none 0 0, .bool false, .string ⟨#[]⟩, .string ⟨#[]⟩, .int .i64 0] 29))) := Lib.hid (Below.alloc (HSX.out : Below w1.heap.size w1 X) (Below.size (HSX.out : Below w1.heap.size w1 X)) _)
          refine hK.out _ _ (.inr HSY.out) ?_
          clear hK K
          try simp only [Act.put, List.setIfInBounds_toArray, List.set_cons_zero, List.set_cons_succ]
          obtain ⟨ad, had⟩ : ∃ ad, ad = X.heap.size := ⟨_, rfl⟩
          obtain ⟨X9, hX9⟩ : ∃ X9, X9 = X.alloc (.cells #[.int .i64 0, .slice none 0 0, .bool false, .string ⟨#[]⟩, .string ⟨#[]⟩, .int .i64 0] 29) := ⟨_, rfl⟩
          have HMK : Hid (Blk X9 ad 29 [.int .i64 0, .slice none 0 0, .bool false, .string ⟨#[]⟩, .string ⟨#[]⟩, .int .i64 0]) := Lib.hid (by rw [hX9, had]; exact Blk.new X 29 [.int .i64 0, .slice none 0 0, .bool false, .string ⟨#[]⟩, .string ⟨#[]⟩, .int .i64 0])
          have HAD : Hid (w1.heap.size ≤ ad) := Lib.hid (by rw [had]; exact Below.size (HSX.out : Below w1.heap.size w1 X))
          have HS9 : Hid ((fun V : World => SBe2 w1 V) X9) := Lib.hid (by rw [hX9]; exact HSY.out)
          rw [← hX9, ← had]
          clear hX9 had
        case' g3x12 =>
          go_simp
          have HSY : Hid ((fun V : World => SBe2 w1 V) (w1.drew.alloc (.cells #[.int .i64 0, .slice none 0 0, .bool false, .string ⟨#[]⟩, .string ⟨#[]⟩, .int .i64 0] 29))) := Lib.hid (Below.alloc (HSD.out : Below w1.heap.size w1 w1.drew) (Below.size (HSD.out : Below w1.heap.size w1 w1.drew)) _)
          refine hK.out _ _ (.inr HSY.out) ?_
          clear hK K
          try simp only [Act.put, List.setIfInBounds_toArray, List.set_cons_zero, List.set_cons_succ]
          refine wpAnyK_only (i := 7) (by kernel_rfl) rfl (fun K hK => ?_)
          refine step_call rfl 27 _ _ rfl (enters_of Tryd.func27 (by kernel_rfl) rfl) #[.agg #[.int .i64 most, .slice rA n rc, u2, u3, u4, u5], .string ⟨d.toArray⟩, .string ⟨b.toArray⟩] (by simp [Act.eval, Act.put]) (PRO.out _ HSY.out) ?_
          rintro e X ⟨rfl, hbw⟩
          refine ⟨_, rfl, ?_⟩
          have HBW := Lib.hid hbw
          have HSX : Hid ((fun V : World => SBe2 w1 V) X) := Lib.hid (Below.trans (HSY.out : Below w1.heap.size w1 _) (hbw.mono (Below.size (HSY.out : Below w1.heap.size w1 _))))
          clear hbw
          refine hK.out _ _ (.inr HSX.out) ?_
          clear hK K
          change wpAnyK _ _ _ _ _ _ _ _ (Act.put _ (some 66) _) _
          try simp only [Act.put, List.setIfInBounds_toArray, List.set_cons_zero, List.set_cons_succ]
          refine wpAnyK_takeP (i := 8) (v := ?ve58) rfl (by kernel_rfl) (by kernel_rfl) (by kernel_rfl) (by kernel_rfl) (fun _ _ _ h => h) (Or.inl ⟨by rfl, fun w hSw => ?hye58⟩) (.inr HSX.out) ?reste58
          case hye58 =>
            go_simp
            try with_reducible rfl
          change wpAnyK _ _ _ _ _ _ _ _ (Act.put _ (some 58) _) _
          try simp only [Act.put, List.setIfInBounds_toArray, List.set_cons_zero, List.set_cons_succ]
          refine wpAnyK_takeP (i := 9) (v := ?ve59) rfl (by kernel_rfl) (by kernel_rfl) (by kernel_rfl) (by kernel_rfl) (fun _ _ _ h => h) (Or.inl ⟨by rfl, fun w hSw => ?hye59⟩) (.inr HSX.out) ?reste59
          case hye59 =>
            go_simp
            try with_reducible rfl
          change wpAnyK _ _ _ _ _ _ _ _ (Act.put _ (some 67) _) _
          try simp only [Act.put, List.setIfInBounds_toArray, List.set_cons_zero, List.set_cons_succ]
          refine wpAnyK_takeP (i := 10) (v := ?ve510) rfl (by kernel_rfl) (by kernel_rfl) (by kernel_rfl) (by kernel_rfl) (fun _ _ _ h => h) (Or.inl ⟨by rfl, fun w hSw => ?hye510⟩) (.inr HSX.out) ?reste510
          case hye510 =>
            go_simp
            try with_reducible rfl
          change wpAnyK _ _ _ _ _ _ _ _ (Act.put _ (some 68) _) _
          try simp only [Act.put, List.setIfInBounds_toArray, List.set_cons_zero, List.set_cons_succ]
          refine wpAnyK_takeP (i := 11) (v := ?ve511) rfl (by kernel_rfl) (by kernel_rfl) (by kernel_rfl) (by kernel_rfl) (fun _ _ _ h => h) (Or.inl ⟨by rfl, fun w hSw => ?hye511⟩) (.inr HSX.out) ?reste511
          case hye511 =>
            go_simp
            try with_reducible rfl
          change wpAnyK _ _ _ _ _ _ _ _ (Act.put _ (some 69) _) _
          try simp only [Act.put, List.setIfInBounds_toArray, List.set_cons_zero, List.set_cons_succ]
          obtain ⟨ad, had⟩ : ∃ ad, ad = w1.heap.size := ⟨_, rfl⟩
          obtain ⟨X9, hX9⟩ : ∃ X9, X9 = X := ⟨_, rfl⟩
          have HMK : Hid (Blk X9 ad 29 [.int .i64 0, .slice none 0 0, .bool false, .string ⟨#[]⟩, .string ⟨#[]⟩, .int .i64 0]) := Lib.hid (by rw [hX9, had]; exact Blk.below (Blk.new w1.drew 29 [.int .i64 0, .slice none 0 0, .bool false, .string ⟨#[]⟩, .string ⟨#[]⟩, .int .i64 0]) HBW.out (by simp))
          have HAD : Hid (w1.heap.size ≤ ad) := Lib.hid (by omega)
          have HS9 : Hid ((fun V : World => SBe2 w1 V) X9) := Lib.hid (by rw [hX9]; exact HSX.out)
          rw [← hX9, ← had]
          clear hX9 had
      case' g2x12 =>
        go_simp
        have HSY : Hid ((fun V : World => SBe2 w1 V) (w1.drew.alloc (.cells #[.int .i64 0, .slice none 0 0, .bool false, .string ⟨#[]⟩, .string ⟨#[]⟩, .int .i64 0] 29))) := Lib.hid (Below.alloc (HSD.out : Below w1.heap.size w1 w1.drew) (Below.size (HSD.out : Below w1.heap.size w1 w1.drew)) _)
        refine hK.out _ _ (.inr HSY.out) ?_
        clear hK K
        try simp only [Act.put, List.setIfInBounds_toArray, List.set_cons_zero, List.set_cons_succ]
        refine wpAnyK_only (i := 6) (by kernel_rfl) rfl (fun K hK => ?_)
        refine step_call rfl 16 _ _ rfl (enters_of Tryd.func16 (by kernel_rfl) rfl) #[.string s2] (by simp [Act.eval, Act.put]) (PC2.out _) ?_
        rintro e wy ⟨rfl, rfl⟩
        refine ⟨_, rfl, ?_⟩
        refine hK.out _ _ (.inr HSY.out) ?_
        clear hK K
        change wpAnyK _ _ _ _ _ _ _ _ (Act.put _ (some 65) _) _
        try simp only [Act.put, List.setIfInBounds_toArray, List.set_cons_zero, List.set_cons_succ]
        refine wpAnyK_only (i := 7) (by kernel_rfl) rfl (fun K hK => ?_)
        refine step_call rfl 27 _ _ rfl (enters_of Tryd.func27 (by kernel_rfl) rfl) #[.agg #[.int .i64 most, .slice rA n rc, u2, u3, u4, u5], .string ⟨d.toArray⟩, .string ⟨b.toArray⟩] (by simp [Act.eval, Act.put]) (PRO.out _ HSY.out) ?_
        rintro e X ⟨rfl, hbw⟩
        refine ⟨_, rfl, ?_⟩
        have HBW := Lib.hid hbw
        have HSX : Hid ((fun V : World => SBe2 w1 V) X) := Lib.hid (Below.trans (HSY.out : Below w1.heap.size w1 _) (hbw.mono (Below.size (HSY.out : Below w1.heap.size w1 _))))
        clear hbw
        refine hK.out _ _ (.inr HSX.out) ?_
        clear hK K
        change wpAnyK _ _ _ _ _ _ _ _ (Act.put _ (some 66) _) _
        try simp only [Act.put, List.setIfInBounds_toArray, List.set_cons_zero, List.set_cons_succ]
        refine wpAnyK_takeP (i := 8) (v := ?ve78) rfl (by kernel_rfl) (by kernel_rfl) (by kernel_rfl) (by kernel_rfl) (fun _ _ _ h => h) (Or.inl ⟨by rfl, fun w hSw => ?hye78⟩) (.inr HSX.out) ?reste78
        case hye78 =>
          go_simp
          try with_reducible rfl
        change wpAnyK _ _ _ _ _ _ _ _ (Act.put _ (some 58) _) _
        try simp only [Act.put, List.setIfInBounds_toArray, List.set_cons_zero, List.set_cons_succ]
        refine wpAnyK_takeP (i := 9) (v := ?ve79) rfl (by kernel_rfl) (by kernel_rfl) (by kernel_rfl) (by kernel_rfl) (fun _ _ _ h => h) (Or.inl ⟨by rfl, fun w hSw => ?hye79⟩) (.inr HSX.out) ?reste79
        case hye79 =>
          go_simp
          try with_reducible rfl
        change wpAnyK _ _ _ _ _ _ _ _ (Act.put _ (some 67) _) _
        try simp only [Act.put, List.setIfInBounds_toArray, List.set_cons_zero, List.set_cons_succ]
        refine wpAnyK_takeP (i := 10) (v := ?ve710) rfl (by kernel_rfl) (by kernel_rfl) (by kernel_rfl) (by kernel_rfl) (fun _ _ _ h => h) (Or.inl ⟨by rfl, fun w hSw => ?hye710⟩) (.inr HSX.out) ?reste710
        case hye710 =>
          go_simp
          try with_reducible rfl
        change wpAnyK _ _ _ _ _ _ _ _ (Act.put _ (some 68) _) _
        try simp only [Act.put, List.setIfInBounds_toArray, List.set_cons_zero, List.set_cons_succ]
        refine wpAnyK_takeP (i := 11) (v := ?ve711) rfl (by kernel_rfl) (by kernel_rfl) (by kernel_rfl) (by kernel_rfl) (fun _ _ _ h => h) (Or.inl ⟨by rfl, fun w hSw => ?hye711⟩) (.inr HSX.out) ?reste711
        case hye711 =>
          go_simp
          try with_reducible rfl
        change wpAnyK _ _ _ _ _ _ _ _ (Act.put _ (some 69) _) _
        try simp only [Act.put, List.setIfInBounds_toArray, List.set_cons_zero, List.set_cons_succ]
        obtain ⟨ad, had⟩ : ∃ ad, ad = w1.heap.size := ⟨_, rfl⟩
        obtain ⟨X9, hX9⟩ : ∃ X9, X9 = X := ⟨_, rfl⟩
        have HMK : Hid (Blk X9 ad 29 [.int .i64 0, .slice none 0 0, .bool false, .string ⟨#[]⟩, .string ⟨#[]⟩, .int .i64 0]) := Lib.hid (by rw [hX9, had]; exact Blk.below (Blk.new w1.drew 29 [.int .i64 0, .slice none 0 0, .bool false, .string ⟨#[]⟩, .string ⟨#[]⟩, .int .i64 0]) HBW.out (by simp))
        have HAD : Hid (w1.heap.size ≤ ad) := Lib.hid (by omega)
        have HS9 : Hid ((fun V : World => SBe2 w1 V) X9) := Lib.hid (by rw [hX9]; exact HSX.out)
        rw [← hX9, ← had]
        clear hX9 had
    case' g1x12 =>
      go_simp
      have HSY : Hid ((fun V : World => SBe2 w1 V) (w1.drew.alloc (.cells #[.int .i64 0, .slice none 0 0, .bool false, .string ⟨#[]⟩, .string ⟨#[]⟩, .int .i64 0] 29))) := Lib.hid (Below.alloc (HSD.out : Below w1.heap.size w1 w1.drew) (Below.size (HSD.out : Below w1.heap.size w1 w1.drew)) _)
      refine hK.out _ _ (.inr HSY.out) ?_
      clear hK K
      try simp only [Act.put, List.setIfInBounds_toArray, List.set_cons_zero, List.set_cons_succ]
      refine wpAnyK_only (i := 3) (by kernel_rfl) rfl (fun K hK => ?_)
      refine step_call rfl 16 _ _ rfl (enters_of Tryd.func16 (by kernel_rfl) rfl) #[.string s1] (by simp [Act.eval, Act.put]) (PC1.out _) ?_
      rintro e wy ⟨rfl, rfl⟩
      refine ⟨_, rfl, ?_⟩
      refine hK.out _ _ (.inr HSY.out) ?_
      clear hK K
      change wpAnyK _ _ _ _ _ _ _ _ (Act.put _ (some 62) _) _
      try simp only [Act.put, List.setIfInBounds_toArray, List.set_cons_zero, List.set_cons_succ]
      refine wpAnyK_only (i := 6) (by kernel_rfl) rfl (fun K hK => ?_)
      refine step_call rfl 16 _ _ rfl (enters_of Tryd.func16 (by kernel_rfl) rfl) #[.string s2] (by simp [Act.eval, Act.put]) (PC2.out _) ?_
      rintro e wy ⟨rfl, rfl⟩
      refine ⟨_, rfl, ?_⟩
      refine hK.out _ _ (.inr HSY.out) ?_
      clear hK K
      change wpAnyK _ _ _ _ _ _ _ _ (Act.put _ (some 65) _) _
      try simp only [Act.put, List.setIfInBounds_toArray, List.set_cons_zero, List.set_cons_succ]
      refine wpAnyK_only (i := 7) (by kernel_rfl) rfl (fun K hK => ?_)
      refine step_call rfl 27 _ _ rfl (enters_of Tryd.func27 (by kernel_rfl) rfl) #[.agg #[.int .i64 most, .slice rA n rc, u2, u3, u4, u5], .string ⟨d.toArray⟩, .string ⟨b.toArray⟩] (by simp [Act.eval, Act.put]) (PRO.out _ HSY.out) ?_
      rintro e X ⟨rfl, hbw⟩
      refine ⟨_, rfl, ?_⟩
      have HBW := Lib.hid hbw
      have HSX : Hid ((fun V : World => SBe2 w1 V) X) := Lib.hid (Below.trans (HSY.out : Below w1.heap.size w1 _) (hbw.mono (Below.size (HSY.out : Below w1.heap.size w1 _))))
      clear hbw
      refine hK.out _ _ (.inr HSX.out) ?_
      clear hK K
      change wpAnyK _ _ _ _ _ _ _ _ (Act.put _ (some 66) _) _
      try simp only [Act.put, List.setIfInBounds_toArray, List.set_cons_zero, List.set_cons_succ]
      refine wpAnyK_takeP (i := 8) (v := ?ve108) rfl (by kernel_rfl) (by kernel_rfl) (by kernel_rfl) (by kernel_rfl) (fun _ _ _ h => h) (Or.inl ⟨by rfl, fun w hSw => ?hye108⟩) (.inr HSX.out) ?reste108
      case hye108 =>
        go_simp
        try with_reducible rfl
      change wpAnyK _ _ _ _ _ _ _ _ (Act.put _ (some 58) _) _
      try simp only [Act.put, List.setIfInBounds_toArray, List.set_cons_zero, List.set_cons_succ]
      refine wpAnyK_takeP (i := 9) (v := ?ve109) rfl (by kernel_rfl) (by kernel_rfl) (by kernel_rfl) (by kernel_rfl) (fun _ _ _ h => h) (Or.inl ⟨by rfl, fun w hSw => ?hye109⟩) (.inr HSX.out) ?reste109
      case hye109 =>
        go_simp
        try with_reducible rfl
      change wpAnyK _ _ _ _ _ _ _ _ (Act.put _ (some 67) _) _
      try simp only [Act.put, List.setIfInBounds_toArray, List.set_cons_zero, List.set_cons_succ]
      refine wpAnyK_takeP (i := 10) (v := ?ve1010) rfl (by kernel_rfl) (by kernel_rfl) (by kernel_rfl) (by kernel_rfl) (fun _ _ _ h => h) (Or.inl ⟨by rfl, fun w hSw => ?hye1010⟩) (.inr HSX.out) ?reste1010
      case hye1010 =>
        go_simp
        try with_reducible rfl
      change wpAnyK _ _ _ _ _ _ _ _ (Act.put _ (some 68) _) _
      try simp only [Act.put, List.setIfInBounds_toArray, List.set_cons_zero, List.set_cons_succ]
      refine wpAnyK_takeP (i := 11) (v := ?ve1011) rfl (by kernel_rfl) (by kernel_rfl) (by kernel_rfl) (by kernel_rfl) (fun _ _ _ h => h) (Or.inl ⟨by rfl, fun w hSw => ?hye1011⟩) (.inr HSX.out) ?reste1011
      case hye1011 =>
        go_simp
        try with_reducible rfl
      change wpAnyK _ _ _ _ _ _ _ _ (Act.put _ (some 69) _) _
      try simp only [Act.put, List.setIfInBounds_toArray, List.set_cons_zero, List.set_cons_succ]
      obtain ⟨ad, had⟩ : ∃ ad, ad = w1.heap.size := ⟨_, rfl⟩
      obtain ⟨X9, hX9⟩ : ∃ X9, X9 = X := ⟨_, rfl⟩
      have HMK : Hid (Blk X9 ad 29 [.int .i64 0, .slice none 0 0, .bool false, .string ⟨#[]⟩, .string ⟨#[]⟩, .int .i64 0]) := Lib.hid (by rw [hX9, had]; exact Blk.below (Blk.new w1.drew 29 [.int .i64 0, .slice none 0 0, .bool false, .string ⟨#[]⟩, .string ⟨#[]⟩, .int .i64 0]) HBW.out (by simp))
      have HAD : Hid (w1.heap.size ≤ ad) := Lib.hid (by omega)
      have HS9 : Hid ((fun V : World => SBe2 w1 V) X9) := Lib.hid (by rw [hX9]; exact HSX.out)
      rw [← hX9, ← had]
      clear hX9 had
    all_goals
      refine wpAnyK_only (i := 13) (by kernel_rfl) rfl (fun K hK => ?_)
      refine step_store_blkK rfl _ _ _ rfl ad 0 _ [.int .i64 0, .slice none 0 0, .bool false, .string ⟨#[]⟩, .string ⟨#[]⟩, .int .i64 0] [.int .i64 most, .slice rA n rc, v2, v3, v4, v5] (by simp [Act.eval, Act.put]) (by simp [Act.eval, Act.put]) HMK.out (by simp) rh_size (by rw [← HV.out]; exact rvC_one most rA n rc K1) ?_
      intro X10 hn10 hg10
      have hc10 := chg_of_grown hg10
      have HSZ : Hid ((fun V : World => SBe2 w1 V) X10) := Lib.hid (Below.trans (HS9.out : Below w1.heap.size w1 X9) (hc10.below (Below.size (HS9.out : Below w1.heap.size w1 X9)) (fun j hj => by unfold one at hj; have := HAD.out; omega)))
      refine hK.out _ _ (.inr HSZ.out) ?_
      clear hK K
      try simp only [Act.put, List.setIfInBounds_toArray, List.set_cons_zero, List.set_cons_succ]
      refine wpAnyK_only (i := 14) (by kernel_rfl) rfl (fun K hK => ?_)
      go_simp
      refine hK.out _ _ (.inr HSZ.out) ?_
      clear hK K
      try simp only [Act.put, List.setIfInBounds_toArray, List.set_cons_zero, List.set_cons_succ]
      refine wpAnyK_only (i := 15) (by kernel_rfl) rfl (fun K hK => ?_)
      go_simp
      refine hK.out _ _ (.inl (by kernel_rfl)) ?_
      clear hK K
      try simp only [Act.put, List.setIfInBounds_toArray, List.set_cons_zero, List.set_cons_succ]
      refine wpAnyK_done (by kernel_rfl) ?_ _
      (try go_wp2_with (fail))
      go_meet
      exact ⟨ad, rfl, rfl, rfl, Lib.hid hn10, HSZ.out⟩
  case rest =>
  obtain ⟨ad, rfl, rfl, rfl, hm, hsz⟩ := hcut
  generalize wc = X10 at *
  have HM10 := hm
  have HSZ : Hid (SBe2 w1 X10) := Lib.hid hsz
  clear hm hsz
  have x0 := HM10.out.cell 0
  have x1 := HM10.out.cell 1
  have x2 := HM10.out.cell 2
  have x3 := HM10.out.cell 3
  have x4 := HM10.out.cell 4
  have x5 := HM10.out.cell 5
  simp only [List.getElem?_cons_succ, List.getElem?_cons_zero] at x0 x1 x2 x3 x4 x5
  go_wp2_with ((with_reducible refine at_store 6 ?_); refine wpList_store_blk rfl _ _ _ rfl rfl (w.heap.size + 1 + 1) 0 _ blankH [.int .i64 most, .slice rA n rc, v2, v3, v4, v5] rfl rfl (HK9.out X10 HSZ.out).2.2 (by simp [blankH]) rh_size (by rw [← HV.out]; exact rvC_one most rA n rc K1) ?_; intro w8 hn8 hg8)
  have hc8 := chg_of_grown hg8
  have hn9 : Blk w8 (w.heap.size + 1 + 1) 29 [.int .i64 most, .slice rA n rc, v2, v3, v4, v5] := hn8
  refine bodyPost_ret (hsres_ct (ad := w.heap.size + 1 + 1) (cs := [.int .i64 most, .slice rA n rc, v2, v3, v4, v5]) rfl rfl rfl (Blk.range (t := 29) hn9 0 _ (fun j v hv => by simpa using hv)) Tryd.underlying29 rfl rh_size) rfl ?_
  exact StepH.close (K' := K1) (HCW.out.trans HC1.out (fun j hj => .inl hj)) Q1.out (HK.out _ HC1.out).2.2 (by omega) HH.out HSZ.out (HR1.out.chg (Chg.of_below (S := noB) HSZ.out) (fun _ _ h => h)) (fun k hk => by have := (HAP.out k hk).2; omega) hc8 HKB1.out HV.out HOWN.out (fun k hk => .inl hk)
end Go.Proofs.YtfjiogockpmogaaDoor
