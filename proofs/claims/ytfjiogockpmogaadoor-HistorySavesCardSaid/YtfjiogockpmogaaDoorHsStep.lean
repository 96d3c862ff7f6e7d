/-
  Walk: the law's step.
-/
import Derived.Test.YtfjiogockpmogaaDoorHsShow
import Derived.Test.YtfjiogockpmogaaDoorHsForkd
import Derived.Test.YtfjiogockpmogaaDoorLawOpsH
namespace Go.Proofs.YtfjiogockpmogaaDoor
open Go.RowKit Go.Sort
set_option linter.unusedVariables false
set_option linter.unusedSimpArgs false
set_option maxRecDepth 100000

/-- the document's row beside a history -/
structure RowH (w : World) (h : Nat) (rA : Option Addr) (n rc : Nat) (L : List (List UInt8)) : Prop where
  len : n = L.length
  s : Sl w w.heap.size rA (sv L)
  nc : n ≤ rc
  ap : ∀ k, blk rA = some k → k ≠ h ∧ k < w.heap.size
  nd : L.Nodup
theorem RowH.chg {w w' : World} {h n rc : Nat} {rA : Option Addr} {L : List (List UInt8)} {S : Nat → Prop} (r : RowH w h rA n rc L) (hc : Chg S w w') (hn : ∀ k, blk rA = some k → ¬ S k) : RowH w' h rA n rc L :=
  ⟨r.len, (hc.sl r.s (Nat.le_refl _) (fun b off e => hn b (by rw [e]; rfl))).more hc.size, r.nc, fun k hk => ⟨(r.ap k hk).1, by have := (r.ap k hk).2; have := hc.size; omega⟩, r.nd⟩
/-- a walk's texts are short -/
def KB (K : Option HW) : Prop := ∀ k, K = some k → k.d.length ≤ 60 ∧ k.b.length ≤ 60
/-- both behind a call -/
def StepH (w : World) (lo h most : Nat) (A : Option Addr) (K : Option HW) (rA : Option Addr) (e : Ending) (w' : World) : Prop :=
  ∃ L' K' A' c' rA' n' rc', e = .returned (.tuple #[.agg (rvC most rA' n' rc' K').toArray, .bool true]) ∧ HsAt w' lo h A' c' most L' K' ∧ Chg (one h) w w' ∧ RowH w' h rA' n' rc' L' ∧ KB K' ∧ OwnN w h A K h A' K' ∧ (∀ k, blk rA' = some k → blk rA = some k ∨ w.heap.size ≤ k)
/-- the document's blank history -/
def blankH : List Value := [.int .i64 0, .slice none 0 0, .bool false, .string ⟨#[]⟩, .string ⟨#[]⟩, .int .i64 0]
theorem own_ne {w : World} {lo h c most r : Nat} {A : Option Addr} {L : List (List UInt8)} {K : Option HW} (q : HsAt w lo h A c most L K) (hB : Blk w r 29 blankH) (hr : h ≠ r) (k : Nat) (hk : HsAt.Own h A K k) : k ≠ r := by
  intro e
  subst e
  rcases hk with hk | hk | ⟨x, hx, hk⟩
  · exact hr hk.symm
  · cases L with
    | nil => rw [q.nn rfl] at hk; cases hk
    | cons l t =>
      obtain ⟨b, off, hA, hb, hc⟩ := hs_at q.row (k := 0) (l := l) rfl
      rw [hA] at hk
      injection hk with hk
      have hk2 : b = k := hk
      subst hk2
      rw [hB.cell] at hc
      have hne : l ≠ [] := (q.ok l (by simp)).1
      have hlt := (List.getElem?_eq_some_iff.1 hc).1
      simp only [blankH, List.length_cons, List.length_nil] at hlt
      have h6 : off + 0 = 0 ∨ off + 0 = 1 ∨ off + 0 = 2 ∨ off + 0 = 3 ∨ off + 0 = 4 ∨ off + 0 = 5 := by omega
      rcases h6 with h6 | h6 | h6 | h6 | h6 | h6 <;> rw [h6] at hc <;> simp [blankH] at hc <;> exact hne (by simpa using hc.symm)
  · have h1 := (q.wk x hx).1
    unfold Blk at hB
    rcases hk with rfl | rfl
    · have := h1.bd; unfold Boxed at this; rw [hB] at this; injection this with h2; injection h2 with _ h2 _; revert h2; decide
    · have := h1.bb; unfold Boxed at this; rw [hB] at this; injection this with h2; injection h2 with _ h2 _; revert h2; decide
theorem StepH.close {w w1 w2 F : World} {lo h c' most r n' rc' : Nat} {A' rA' : Option Addr} {L' : List (List UInt8)} {K' : Option HW} {cs : List Value} {A rA : Option Addr} {K : Option HW} (hc1 : Chg (one h) w w1) (q1 : HsAt w1 lo h A' c' most L' K') (hB : Blk w1 r 29 blankH) (hr : w.heap.size ≤ r) (hh : h < w.heap.size) (hb2 : Below w1.heap.size w1 w2) (hR2 : RowH w2 h rA' n' rc' L') (hrr : ∀ k, blk rA' = some k → k ≠ r) (hF : Chg (one r) w2 F) (hKB : KB K') (hcs : rvC most rA' n' rc' K' = cs) (hO : OwnN w h A K h A' K') (hN : ∀ k, blk rA' = some k → blk rA = some k ∨ w.heap.size ≤ k) :
    StepH w lo h most A K rA (.returned (.tuple #[.agg cs.toArray, .bool true])) F :=
  ⟨L', K', A', c', rA', n', rc', by rw [hcs], (q1.below hb2).keep hF (fun k hk e => own_ne q1 hB (by omega) k hk e), ((hc1.trans (Chg.of_below (S := noB) hb2) (fun _ h => h.elim)).trans hF (fun k e => .inr (by unfold one at e; omega))), hR2.chg hF (fun k hk e => hrr k hk e), hKB, hO, hN⟩
set_option maxHeartbeats 16000000 in
theorem step_leave {w : World} {lo h c most : Nat} {A : Option Addr} {L : List (List UInt8)} {K : Option HW} (q : HsAt w lo h A c most L K) (hlw : lo ≤ w.heap.size) (rA : Option Addr) (n rc : Nat) (hR : RowH w h rA n rc L) (hKB : KB K) (kd : Int) (s1 s2 : ByteArray) (hd0 : 0 ≤ kd) (hd1 : kd ≤ 255) (hk : kd % 8 = 6) :
    Calls Tryd.prog 10 #[.pointer (some ⟨h, 0, none⟩), .agg (rvC most rA n rc K).toArray, .agg #[.int .u8 kd, .string s1, .string s2]] w (StepH w lo h most A K rA) := by
  have hq3 : (kd % 8 == 3) = false := by simp; omega
  have hq4 : (kd % 8 == 4) = false := by simp; omega
  have hq5 : (kd % 8 == 5) = false := by simp; omega
  have hq6 : (kd % 8 == 6) = true := by simp; omega
  have hh : h < w.heap.size := q.head.lt
  obtain ⟨u2, u3, u4, u5, hu⟩ := rvC_cells most rA n rc K
  rw [hu]
  obtain ⟨W, hW⟩ : ∃ W, W = ((w.alloc (.cells #[.int .i64 most, .slice rA n rc, u2, u3, u4, u5] 29)).alloc (.cells #[.int .u8 kd, .string s1, .string s2] 34)).alloc (.cells #[.int .i64 0, .slice none 0 0, .bool false, .string ⟨#[]⟩, .string ⟨#[]⟩, .int .i64 0] 29) := ⟨_, rfl⟩
  have hb0 : Below w.heap.size w W := by rw [hW]; exact (((Below.refl _ w).alloc (Nat.le_refl _) _).alloc (by simp) _).alloc (by simp; omega) _
  have hB4 : Blk W w.heap.size 29 [.int .i64 most, .slice rA n rc, u2, u3, u4, u5] := by rw [hW]; exact ((Blk.new w 29 _).alloc _).alloc _
  have hB5 : Blk W (w.heap.size + 1) 34 [.int .u8 kd, .string s1, .string s2] := by
    have := (Blk.new (w.alloc (.cells #[.int .i64 most, .slice rA n rc, u2, u3, u4, u5] 29)) 34 [.int .u8 kd, .string s1, .string s2]).alloc (.cells #[.int .i64 0, .slice none 0 0, .bool false, .string ⟨#[]⟩, .string ⟨#[]⟩, .int .i64 0] 29)
    rw [hW]; simpa using this
  have hB6 : Blk W (w.heap.size + 1 + 1) 29 blankH := by
    have := Blk.new ((w.alloc (.cells #[.int .i64 most, .slice rA n rc, u2, u3, u4, u5] 29)).alloc (.cells #[.int .u8 kd, .string s1, .string s2] 34)) 29 blankH
    rw [hW]; simpa [blankH] using this
  have hk4 : ∀ V, Chg (one h) W V → Blk V w.heap.size 29 [.int .i64 most, .slice rA n rc, u2, u3, u4, u5] ∧ Blk V (w.heap.size + 1) 34 [.int .u8 kd, .string s1, .string s2] ∧ Blk V (w.heap.size + 1 + 1) 29 blankH := fun V hV =>
    ⟨hB4.chg hV (fun e => by unfold one at e; omega), hB5.chg hV (fun e => by unfold one at e; omega), hB6.chg hV (fun e => by unfold one at e; omega)⟩
  have HK := Lib.hid hk4
  have HB0 := Lib.hid hb0
  have HR0 := Lib.hid (hR.chg (Chg.of_below (S := noB) hb0) (fun _ _ h => h))
  have Q0 := Lib.hid (q.below hb0)
  have HCW := Lib.hid (Chg.of_below (S := one h) hb0)
  have HH := Lib.hid hh
  have HU := Lib.hid hu
  have HAP := Lib.hid hR.ap
  have HKB := Lib.hid hKB
  clear hR q hk4 hb0 hB4 hB5 hB6 hh hu hKB
  obtain ⟨B4, B5, B6⟩ := HK.out _ (Chg.refl _ W)
  have a0 : W.cell? ⟨w.heap.size, 0, none⟩ = some (.int .i64 most) := B4.cell 0
  have a1 : W.cell? ⟨w.heap.size, 1, none⟩ = some (.slice rA n rc) := B4.cell 1
  have a2 : W.cell? ⟨w.heap.size, 2, none⟩ = some (u2) := B4.cell 2
  have a3 : W.cell? ⟨w.heap.size, 3, none⟩ = some (u3) := B4.cell 3
  have a4 : W.cell? ⟨w.heap.size, 4, none⟩ = some (u4) := B4.cell 4
  have a5 : W.cell? ⟨w.heap.size, 5, none⟩ = some (u5) := B4.cell 5
  have o0 : W.cell? ⟨w.heap.size + 1, 0, none⟩ = some (.int .u8 kd) := B5.cell 0
  have o1 : W.cell? ⟨w.heap.size + 1, 1, none⟩ = some (.string s1) := B5.cell 1
  have o2 : W.cell? ⟨w.heap.size + 1, 2, none⟩ = some (.string s2) := B5.cell 2
  have z0 : W.cell? ⟨w.heap.size + 1 + 1, 0, none⟩ = some (.int .i64 0) := B6.cell 0
  have y0 : W.frozen? ⟨w.heap.size + 1 + 1, 0, none⟩ = false := B6.frozen 0
  have z1 : W.cell? ⟨w.heap.size + 1 + 1, 1, none⟩ = some (.slice none 0 0) := B6.cell 1
  have y1 : W.frozen? ⟨w.heap.size + 1 + 1, 1, none⟩ = false := B6.frozen 1
  have z2 : W.cell? ⟨w.heap.size + 1 + 1, 2, none⟩ = some (.bool false) := B6.cell 2
  have y2 : W.frozen? ⟨w.heap.size + 1 + 1, 2, none⟩ = false := B6.frozen 2
  have z3 : W.cell? ⟨w.heap.size + 1 + 1, 3, none⟩ = some (.string ⟨#[]⟩) := B6.cell 3
  have y3 : W.frozen? ⟨w.heap.size + 1 + 1, 3, none⟩ = false := B6.frozen 3
  have z4 : W.cell? ⟨w.heap.size + 1 + 1, 4, none⟩ = some (.string ⟨#[]⟩) := B6.cell 4
  have y4 : W.frozen? ⟨w.heap.size + 1 + 1, 4, none⟩ = false := B6.frozen 4
  have z5 : W.cell? ⟨w.heap.size + 1 + 1, 5, none⟩ = some (.int .i64 0) := B6.cell 5
  have y5 : W.frozen? ⟨w.heap.size + 1 + 1, 5, none⟩ = false := B6.frozen 5
  have hz : w.heap.size + 1 + 1 < W.heap.size := B6.lt
  clear B4 B5 B6
  go_enter Tryd.func10, Tryd.ntmps10
  go_upto_region 1 with (fail)
  rw [← hW]
  clear hW
  go_wp2_with (fail)
  refine (hleave_any Q0.out).mono ?_
  rintro e w1 ⟨rfl, hq1, hc1⟩
  have HC1 := Lib.hid hc1
  have Q1 := Lib.hid hq1
  have HR1 := Lib.hid (HR0.out.chg hc1 (fun k hk e => (HR0.out.ap k hk).1 e))
  clear hq1 hc1
  clear a0 a1 a2 a3 a4 a5 o0 o1 o2 z0 y0 z1 y1 z2 y2 z3 y3 z4 y4 z5 y5 hz
  obtain ⟨B4, B5, B6⟩ := HK.out _ HC1.out
  have a0 : w1.cell? ⟨w.heap.size, 0, none⟩ = some (.int .i64 most) := B4.cell 0
  have a1 : w1.cell? ⟨w.heap.size, 1, none⟩ = some (.slice rA n rc) := B4.cell 1
  have a2 : w1.cell? ⟨w.heap.size, 2, none⟩ = some (u2) := B4.cell 2
  have a3 : w1.cell? ⟨w.heap.size, 3, none⟩ = some (u3) := B4.cell 3
  have a4 : w1.cell? ⟨w.heap.size, 4, none⟩ = some (u4) := B4.cell 4
  have a5 : w1.cell? ⟨w.heap.size, 5, none⟩ = some (u5) := B4.cell 5
  have o0 : w1.cell? ⟨w.heap.size + 1, 0, none⟩ = some (.int .u8 kd) := B5.cell 0
  have o1 : w1.cell? ⟨w.heap.size + 1, 1, none⟩ = some (.string s1) := B5.cell 1
  have o2 : w1.cell? ⟨w.heap.size + 1, 2, none⟩ = some (.string s2) := B5.cell 2
  have z0 : w1.cell? ⟨w.heap.size + 1 + 1, 0, none⟩ = some (.int .i64 0) := B6.cell 0
  have y0 : w1.frozen? ⟨w.heap.size + 1 + 1, 0, none⟩ = false := B6.frozen 0
  have z1 : w1.cell? ⟨w.heap.size + 1 + 1, 1, none⟩ = some (.slice none 0 0) := B6.cell 1
  have y1 : w1.frozen? ⟨w.heap.size + 1 + 1, 1, none⟩ = false := B6.frozen 1
  have z2 : w1.cell? ⟨w.heap.size + 1 + 1, 2, none⟩ = some (.bool false) := B6.cell 2
  have y2 : w1.frozen? ⟨w.heap.size + 1 + 1, 2, none⟩ = false := B6.frozen 2
  have z3 : w1.cell? ⟨w.heap.size + 1 + 1, 3, none⟩ = some (.string ⟨#[]⟩) := B6.cell 3
  have y3 : w1.frozen? ⟨w.heap.size + 1 + 1, 3, none⟩ = false := B6.frozen 3
  have z4 : w1.cell? ⟨w.heap.size + 1 + 1, 4, none⟩ = some (.string ⟨#[]⟩) := B6.cell 4
  have y4 : w1.frozen? ⟨w.heap.size + 1 + 1, 4, none⟩ = false := B6.frozen 4
  have z5 : w1.cell? ⟨w.heap.size + 1 + 1, 5, none⟩ = some (.int .i64 0) := B6.cell 5
  have y5 : w1.frozen? ⟨w.heap.size + 1 + 1, 5, none⟩ = false := B6.frozen 5
  have hz : w.heap.size + 1 + 1 < w1.heap.size := B6.lt
  clear B4 B5 B6
  have hrl := rhleave_any most rA n rc K w1
  rw [HU.out] at hrl
  simp only [rvC, rwC] at hrl
  have HRL := Lib.hid hrl
  clear hrl
  generalize K.isSome = kb at *
  go_wp2_with (fail)
  refine HRL.out.mono ?_
  rintro e w2 ⟨rfl, hb2⟩
  have HC2 := Lib.hid (HC1.out.trans (Chg.of_below (S := noB) hb2) (fun _ h => h.elim))
  have HB2 := Lib.hid hb2
  clear hb2
  clear a0 a1 a2 a3 a4 a5 o0 o1 o2 z0 y0 z1 y1 z2 y2 z3 y3 z4 y4 z5 y5 hz
  obtain ⟨B4, B5, B6⟩ := HK.out _ HC2.out
  have a0 : w2.cell? ⟨w.heap.size, 0, none⟩ = some (.int .i64 most) := B4.cell 0
  have a1 : w2.cell? ⟨w.heap.size, 1, none⟩ = some (.slice rA n rc) := B4.cell 1
  have a2 : w2.cell? ⟨w.heap.size, 2, none⟩ = some (u2) := B4.cell 2
  have a3 : w2.cell? ⟨w.heap.size, 3, none⟩ = some (u3) := B4.cell 3
  have a4 : w2.cell? ⟨w.heap.size, 4, none⟩ = some (u4) := B4.cell 4
  have a5 : w2.cell? ⟨w.heap.size, 5, none⟩ = some (u5) := B4.cell 5
  have o0 : w2.cell? ⟨w.heap.size + 1, 0, none⟩ = some (.int .u8 kd) := B5.cell 0
  have o1 : w2.cell? ⟨w.heap.size + 1, 1, none⟩ = some (.string s1) := B5.cell 1
  have o2 : w2.cell? ⟨w.heap.size + 1, 2, none⟩ = some (.string s2) := B5.cell 2
  have z0 : w2.cell? ⟨w.heap.size + 1 + 1, 0, none⟩ = some (.int .i64 0) := B6.cell 0
  have y0 : w2.frozen? ⟨w.heap.size + 1 + 1, 0, none⟩ = false := B6.frozen 0
  have z1 : w2.cell? ⟨w.heap.size + 1 + 1, 1, none⟩ = some (.slice none 0 0) := B6.cell 1
  have y1 : w2.frozen? ⟨w.heap.size + 1 + 1, 1, none⟩ = false := B6.frozen 1
  have z2 : w2.cell? ⟨w.heap.size + 1 + 1, 2, none⟩ = some (.bool false) := B6.cell 2
  have y2 : w2.frozen? ⟨w.heap.size + 1 + 1, 2, none⟩ = false := B6.frozen 2
  have z3 : w2.cell? ⟨w.heap.size + 1 + 1, 3, none⟩ = some (.string ⟨#[]⟩) := B6.cell 3
  have y3 : w2.frozen? ⟨w.heap.size + 1 + 1, 3, none⟩ = false := B6.frozen 3
  have z4 : w2.cell? ⟨w.heap.size + 1 + 1, 4, none⟩ = some (.string ⟨#[]⟩) := B6.cell 4
  have y4 : w2.frozen? ⟨w.heap.size + 1 + 1, 4, none⟩ = false := B6.frozen 4
  have z5 : w2.cell? ⟨w.heap.size + 1 + 1, 5, none⟩ = some (.int .i64 0) := B6.cell 5
  have y5 : w2.frozen? ⟨w.heap.size + 1 + 1, 5, none⟩ = false := B6.frozen 5
  have hz : w.heap.size + 1 + 1 < w2.heap.size := B6.lt
  clear B4 B5 B6
  go_wp2_with (fail)
  refine bodyPost_ret (hsres_ct (ad := w.heap.size + 1 + 1) (cs := rvC most rA n rc none) rfl rfl rfl (Blk.range (t := 29) ?_ 0 _ (fun j v hv => by simpa [rvC, rwC] using hv)) Tryd.underlying29 rfl rh_size) rfl ?_
  · exact (((((((HK.out _ HC2.out).2.2.set_ 0 _).set_ 1 _).set_ 2 _).set_ 3 _).set_ 4 _).set_ 5 _).alloc _
  · refine StepH.close (K' := none) (HCW.out.trans HC1.out (fun j hj => .inl hj)) Q1.out (HK.out _ HC1.out).2.2 (by omega) HH.out HB2.out (HR1.out.chg (Chg.of_below (S := noB) HB2.out) (fun _ _ h => h)) (fun k hk => by have := (HAP.out k hk).2; omega) ((((((((Chg.refl (one (w.heap.size + 1 + 1)) w2).setCell (p := ⟨w.heap.size + 1 + 1, 0, none⟩) (.inl rfl) _).setCell (p := ⟨w.heap.size + 1 + 1, 1, none⟩) (.inl rfl) _).setCell (p := ⟨w.heap.size + 1 + 1, 2, none⟩) (.inl rfl) _).setCell (p := ⟨w.heap.size + 1 + 1, 3, none⟩) (.inl rfl) _).setCell (p := ⟨w.heap.size + 1 + 1, 4, none⟩) (.inl rfl) _).setCell (p := ⟨w.heap.size + 1 + 1, 5, none⟩) (.inl rfl) _).alloc _) (fun _ e => by cases e) rfl (OwnN.ended _ _ _ _) (fun k hk => .inl hk)
end Go.Proofs.YtfjiogockpmogaaDoor
