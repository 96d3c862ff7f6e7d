/-
  Walk: the law's shows.
-/
import Derived.Test.YtfjiogockpmogaaDoorHsOnce
import Derived.Test.YtfjiogockpmogaaDoorHsNob
import Derived.Test.YtfjiogockpmogaaDoorHsRAdd
import Derived.Test.YtfjiogockpmogaaDoorGfS
namespace Go.Proofs.YtfjiogockpmogaaDoor
open Go.RowKit Go.Sort
set_option linter.unusedVariables false
set_option linter.unusedSimpArgs false

theorem hsv_take (l : List (List UInt8)) (m : Nat) : (sv l).take m = sv (l.take m) := by unfold sv; rw [List.map_take]
set_option maxRecDepth 100000 in
set_option maxHeartbeats 16000000 in
theorem hshows_any {w : World} {lo h c most : Nat} {A : Option Addr} {L : List (List UInt8)} {K : Option HW} (q : HsAt w lo h A c most L K) (rA : Option Addr) (n rc : Nat) (hn : n = L.length) (hS : Sl w w.heap.size rA (sv L)) (hrc : n ≤ rc) (a : Int) (m : Nat) (hm : m ≤ 255) :
    Calls Tryd.prog 11 #[.pointer (some ⟨h, 0, none⟩), .agg (rvC most rA n rc K).toArray, .int .i64 a, .int .i64 m] w fun e w' => e = .returned (.bool true) ∧ Below w.heap.size w w' := by
  have hl4 : n ≤ 256 := by rw [hn]; exact q.len4
  obtain ⟨x, hx⟩ : ∃ x : ByteArray, x = ⟨(lineAt L a).1.toArray⟩ := ⟨_, rfl⟩
  obtain ⟨bb, hbb⟩ : ∃ b : Bool, b = (lineAt L a).2 := ⟨_, rfl⟩
  obtain ⟨M, hM⟩ : ∃ M, M = min m n := ⟨_, rfl⟩
  have hMl : (L.take m).length = M := by rw [List.length_take, ← hn, hM]
  have hLM : L.take m = L.take M := by
    rw [hM, hn]
    rcases Nat.le_total m L.length with h | h
    · rw [Nat.min_eq_left h]
    · rw [Nat.min_eq_right h, List.take_of_length_le h, List.take_length]
  have hmin : min ((n : Nat) : Int) ((m : Nat) : Int) = ((M : Nat) : Int) := by omega
  have hMn : M ≤ n := by omega
  have hMrc : M ≤ rc := by omega
  have E1 := fun V => hsl_h rA n rc M hMrc V
  have hL2 : (L.take 1000).length = n := by rw [List.length_take]; omega
  have hL3 : L.take 1000 = L := List.take_of_length_le (by omega)
  have q1 : ∀ V, Below w.heap.size w V → Calls Tryd.prog 32 #[.pointer (some ⟨h, 0, none⟩), .int .i64 a] V fun e w' => e = .returned (.tuple #[.string x, .bool bb]) ∧ V = w' := fun V hV => by rw [hx, hbb]; exact hline_any (q.below hV) a
  have q2 : ∀ V, Below w.heap.size w V → Calls Tryd.prog 33 #[.agg (rvC most rA n rc K).toArray, .int .i64 a] V fun e w' => e = .returned (.tuple #[.string x, .bool bb]) ∧ Below V.heap.size V w' := fun V hV => by rw [hx, hbb]; exact rhline_any most L rA n rc K a V hn (by omega) ((hS.below hV).more hV.size)
  have q3 : ∀ V, Below w.heap.size w V → Calls Tryd.prog 13 #[.pointer (some ⟨h, 0, none⟩), .int .i64 (1000 : Nat)] V fun e w' => ∃ A1 c1, e = .returned (.tuple #[.slice A1 n c1, .bool true]) ∧ OR w' V.heap.size 9 A1 n c1 (sv L) ∧ Below V.heap.size V w' := fun V hV => (told_yes (q.below hV) 1000).mono (by
    rintro e w' ⟨A1, c1, rfl, ho, hb⟩
    rw [hL2] at ho; rw [hL2]; rw [hL3] at ho
    exact ⟨A1, c1, rfl, ho, hb⟩)
  have q4 : ∀ V, Below w.heap.size w V → Calls Tryd.prog 13 #[.pointer (some ⟨h, 0, none⟩), .int .i64 m] V fun e w' => ∃ A1 c1, e = .returned (.tuple #[.slice A1 M c1, .bool true]) ∧ OR w' V.heap.size 9 A1 M c1 (sv (L.take M)) ∧ Below V.heap.size V w' := fun V hV => (told_yes (q.below hV) m).mono (by
    rintro e w' ⟨A1, c1, rfl, ho, hb⟩
    rw [hMl] at ho; rw [hMl]; rw [hLM] at ho
    exact ⟨A1, c1, rfl, ho, hb⟩)
  have q5 : ∀ V, Below w.heap.size w V → Calls Tryd.prog 12 #[.pointer (some ⟨h, 0, none⟩)] V fun e w' => e = .returned (.int .i64 n) ∧ V = w' := fun V hV => by rw [hn]; exact hlen_any (q.below hV)
  obtain ⟨u2, u3, u4, u5, hu⟩ := rvC_cells most rA n rc K
  rw [hu] at q2 ⊢
  obtain ⟨W, hW⟩ : ∃ W, W = w.alloc (.cells #[.int .i64 most, .slice rA n rc, u2, u3, u4, u5] 29) := ⟨_, rfl⟩
  have hb0 : Below w.heap.size w W := by rw [hW]; exact (Below.refl _ w).alloc (Nat.le_refl _) _
  have hbx : Blk W w.heap.size 29 [.int .i64 most, .slice rA n rc, u2, u3, u4, u5] := by rw [hW]; exact Blk.new w 29 _
  have hk : ∀ V, Below W.heap.size W V → Blk V w.heap.size 29 [.int .i64 most, .slice rA n rc, u2, u3, u4, u5] := fun V hV => hbx.below hV hbx.lt
  have HS := Lib.hid hS
  have HN := Lib.hid hn
  have HK := Lib.hid hk
  have HB0 := Lib.hid hb0
  have Q1 := Lib.hid q1
  have Q2 := Lib.hid q2
  have Q3 := Lib.hid q3
  have Q4 := Lib.hid q4
  have Q5 := Lib.hid q5
  have HMN := Lib.hid hMl
  have HLM := Lib.hid hLM
  have hkw := HK.out W (Below.refl _ _)
  have k0 := hkw.cell 0
  have k1 := hkw.cell 1
  have k2 := hkw.cell 2
  have k3 := hkw.cell 3
  have k4 := hkw.cell 4
  have k5 := hkw.cell 5
  simp only [List.getElem?_cons_succ, List.getElem?_cons_zero] at k0 k1 k2 k3 k4 k5
  clear q1 q2 q3 q4 q5 hk hb0 hbx hx hbb hM hMl hLM hL2 hL3 hkw hu hn hS q
  go_enter Tryd.func11, Tryd.ntmps11
  go_upto_region 1 with (fail)
  rw [← hW]
  clear hW
  go_wp2_with (fail)
  refine (Q1.out _ HB0.out).mono ?_
  rintro e w1 ⟨rfl, rfl⟩
  go_wp2_with (fail)
  refine (Q2.out _ HB0.out).mono ?_
  rintro e w2 ⟨rfl, hb⟩
  have HB2 := Lib.hid hb
  clear hb k0 k1 k2 k3 k4 k5
  go_wp2_with (fail)
  refine (Q3.out _ (HB0.out.trans (HB2.out.mono HB0.out.size))).mono ?_
  rintro e w3 ⟨A1, c1, rfl, ho, hb⟩
  have HO1 := Lib.hid ho
  have HB3 := Lib.hid (HB2.out.trans (hb.mono HB2.out.size))
  clear ho hb
  go_wp2_with (fail)
  refine (Q4.out _ (HB0.out.trans (HB3.out.mono HB0.out.size))).mono ?_
  rintro e w4 ⟨A2, c2, rfl, ho, hb⟩
  have HO2 := Lib.hid ho
  have HB4 := Lib.hid (HB3.out.trans (hb.mono HB3.out.size))
  have S1 := Lib.hid ((HO1.out.sl.below hb).more hb.size)
  have S2 := Lib.hid ho.sl
  clear ho hb HO1 HO2
  have HB9 : Hid (Below w.heap.size w w4) := Lib.hid (HB0.out.trans (HB4.out.mono HB0.out.size))
  have BB := fun (V : World) (hV : Below w4.heap.size w4 V) => HB9.out.trans (hV.mono HB9.out.size)
  have HLT : Hid ((L.take M).length = M) := Lib.hid (by rw [List.length_take, ← HN.out]; omega)
  have P1 := Lib.hid (fun dd os => Calls.regrown_of (show Calls Tryd.prog 34 #[.slice A1 n c1, .slice rA n rc] (grow (redrawn w4 dd) os) (fun e wx => e = .returned (.bool true) ∧ Below (grow (redrawn w4 dd) os).heap.size (grow (redrawn w4 dd) os) wx) from by
    have hV := below_regrown w4 dd os
    exact sameall_any L n n A1 rA c1 rc _ (by rw [← HN.out]; omega) HN.out HN.out ((S1.out.below hV).more hV.size) ((HS.out.below (BB _ hV)).more (BB _ hV).size)))
  have P2 := Lib.hid (fun dd os => Calls.regrown_of (show Calls Tryd.prog 34 #[.slice A2 M c2, .slice rA M rc] (grow (redrawn w4 dd) os) (fun e wx => e = .returned (.bool true) ∧ Below (grow (redrawn w4 dd) os).heap.size (grow (redrawn w4 dd) os) wx) from by
    have hV := below_regrown w4 dd os
    exact sameall_any (L.take M) M M A2 rA c2 rc _ (by rw [HLT.out]; omega) HLT.out.symm HLT.out.symm ((S2.out.below hV).more hV.size) (by have h8 := ((HS.out.below (BB _ hV)).more (BB _ hV).size).take M; rwa [hsv_take] at h8)))
  have P3 := Lib.hid (fun dd os => Calls.regrown_of (show Calls Tryd.prog 12 #[.pointer (some ⟨h, 0, none⟩)] (grow (redrawn w4 dd) os) (fun e wx => e = .returned (.int .i64 n) ∧ Below (grow (redrawn w4 dd) os).heap.size (grow (redrawn w4 dd) os) wx) from
    (Q5.out _ (BB _ (below_regrown w4 dd os))).mono (by rintro e wx ⟨rfl, rfl⟩; exact ⟨rfl, Below.refl _ _⟩)))
  have k1 : w4.cell? ⟨w.heap.size, 1, none⟩ = some (.slice rA n rc) := (HK.out w4 HB4.out).cell 1
  have r1 := cell_regrown k1
  clear BB
  go_wp2_with (fail)
  clear k1
  refine region_below0 (by kernel_rfl) (by kernel_rfl) ?_
  iterate 25 (first
    | go_big_quiet_step (exact P1.out _ _)
    | quiet_step (exact P1.out _ _))
  iterate 8 (first
    | go_big_quiet_step (exact P2.out _ _)
    | quiet_step (exact P2.out _ _))
  repeat (first
    | go_big_quiet_step (exact P3.out _ _)
    | quiet_step (exact P3.out _ _))
  refine wpQuiet_nil ?_
  intro _ hw'
  obtain ⟨⟨dq, osq⟩, hw''⟩ := hw'
  subst hw''
  have HBQ := Lib.hid (below_regrown w4 dq osq)
  clear r1
  generalize grow (redrawn w4 dq) osq = w5 at *
  go_wp2_with (fail)
  go_ret
  exact ⟨rfl, HB9.out.trans (HBQ.out.mono HB9.out.size)⟩
end Go.Proofs.YtfjiogockpmogaaDoor
