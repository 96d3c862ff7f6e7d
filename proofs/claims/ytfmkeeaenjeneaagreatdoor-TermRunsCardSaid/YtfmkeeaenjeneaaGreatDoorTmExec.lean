/-
  Walks: execute.
-/
import Derived.Test.YtfmkeeaenjeneaaGreatDoorGbT3
import Derived.Test.YtfmkeeaenjeneaaGreatDoorRegT
namespace Go.Proofs.YtfmkeeaenjeneaaGreatDoor
open Go.RowKit Go.Shelf Go.Sort
attribute [local go_sem] Oper.semAt_some
set_option linter.unusedVariables false
set_option linter.unusedSimpArgs false

theorem getD_rng {L : List UInt8} (hA : areN L = true) (q : Nat) : 0 ≤ (numsT L).getD q 0 ∧ (numsT L).getD q 0 ≤ 9999 := by
  rw [List.getD_eq_getElem?_getD]
  cases hv : (numsT L)[q]? with
  | none => exact ⟨by simp, by simp⟩
  | some v => exact numsF_rng L 0 (by omega) (by omega) hA v (List.mem_of_getElem? hv)
/-- the terminal's pointer is boxed first -/
theorem tbox {w : World} {lo t g rb : Nat} {bs : List Nat} {T : TS} {B : List UInt8} (h : TmAt w lo t g rb bs T B) (hbase : Base w lo) : ∃ W1, Hid (W1 = w.alloc (.cells #[.pointer (some ⟨t, 0, none⟩)] 23)) ∧ Hid (Below w.heap.size w W1) ∧ Hid (TmAt W1 lo t g rb bs T B) ∧ Hid (Base W1 lo) ∧
    (∀ W, Below W1.heap.size W1 W → W.cell? ⟨w.heap.size, 0, none⟩ = some (.pointer (some ⟨t, 0, none⟩))) ∧ W1.heap.size = w.heap.size + 1 := by
  have hb : Below w.heap.size w (w.alloc (.cells #[.pointer (some ⟨t, 0, none⟩)] 23)) := (Below.refl _ w).alloc (Nat.le_refl _) _
  refine ⟨_, Lib.hid rfl, Lib.hid hb, Lib.hid (h.below hb), Lib.hid (hbase.below hb), fun W hW => ?_, by simp⟩
  exact (hW.cell (p := ⟨w.heap.size, 0, none⟩) (by simp)).trans (Boxed.new w 23 (.pointer (some ⟨t, 0, none⟩))).cell

section
variable {w : World} {lo t g rb : Nat} {bs : List Nat} {T : TS} {B : List UInt8}

set_option maxRecDepth 100000 in
set_option maxHeartbeats 8000000 in
theorem exec_q_no (h : TmAt w lo t g rb bs T B) (hbase : Base w lo) (l : List UInt8) (hQ : l.length ≤ 29) (hP : Piece t (some ⟨t, 20, none⟩) l B) (hC : ∀ W, Below w.heap.size w W → W.cell? ⟨t, 19, none⟩ = some (.int .u8 63)) (f : UInt8) (hA : areN l = false) :
    Calls Tryz.prog 70 #[.pointer (some ⟨t, 0, none⟩), .slice (some ⟨t, 19, none⟩) (l.length + 1) 30, .int .u8 f.toNat] w fun e w' => e = .returned (.tuple #[]) ∧ TmStep w lo t g rb bs (T) B w' := by
  obtain ⟨W1, HW1, HB1, H1, HBS1, hkb, hs1⟩ := tbox h hbase
  have HS1 := Lib.hid hs1
  have HKB := Lib.hid hkb
  have htl := h.lt
  have H := Lib.hid h
  have HP := Lib.hid hP
  have HQ := Lib.hid hQ
  have HAR : Hid (∀ W, Below W1.heap.size W1 W → Calls Tryz.prog 97 #[.slice (some ⟨t, 20, none⟩) l.length 29] W fun e w' => e = .returned (.bool false) ∧ W = w') := Lib.hid (fun W hW => by
    have := areN_any l (by have := HQ.out; omega) (some ⟨t, 20, none⟩) l.length 29 rfl W _ ((H1.out.below hW).piece HP.out)
    rw [hA] at this
    exact this)
  have cc1 : W1.cell? ⟨t, 19, none⟩ = some (.int .u8 63) := hC W1 HB1.out
  have HCX := Lib.hid hC
  clear hC
  have hpos : (0 : Int) < (l.length : Int) + 1 := by omega
  clear hA
  clear h hbase hs1 hkb hP hQ
  go_enter Tryz.func70, Tryz.ntmps70
  go_upto_region 1 with fail
  rw [← HW1.out]
  clear HW1
  go_wp2_with (go_at_call 97; refine (HAR.out _ (Below.refl _ _)).mono ?_; rintro e w' ⟨rfl, rfl⟩)
  go_end0
  exact ⟨rfl, TmStep.bel H.out HB1.out⟩


set_option maxRecDepth 100000 in
set_option maxHeartbeats 8000000 in
theorem exec_q_yes (h : TmAt w lo t g rb bs T B) (hbase : Base w lo) (l : List UInt8) (hQ : l.length ≤ 29) (hP : Piece t (some ⟨t, 20, none⟩) l B) (hC : ∀ W, Below w.heap.size w W → W.cell? ⟨t, 19, none⟩ = some (.int .u8 63)) (f : UInt8) (hA : areN l = true) :
    Calls Tryz.prog 70 #[.pointer (some ⟨t, 0, none⟩), .slice (some ⟨t, 19, none⟩) (l.length + 1) 30, .int .u8 f.toNat] w fun e w' => e = .returned (.tuple #[]) ∧ TmStep w lo t g rb bs (modesT T (numsT l) f) B w' := by
  obtain ⟨W1, HW1, HB1, H1, HBS1, hkb, hs1⟩ := tbox h hbase
  have HS1 := Lib.hid hs1
  have HKB := Lib.hid hkb
  have htl := h.lt
  have H := Lib.hid h
  have HP := Lib.hid hP
  have HQ := Lib.hid hQ
  have HAR : Hid (∀ W, Below W1.heap.size W1 W → Calls Tryz.prog 97 #[.slice (some ⟨t, 20, none⟩) l.length 29] W fun e w' => e = .returned (.bool true) ∧ W = w') := Lib.hid (fun W hW => by
    have := areN_any l (by have := HQ.out; omega) (some ⟨t, 20, none⟩) l.length 29 rfl W _ ((H1.out.below hW).piece HP.out)
    rw [hA] at this
    exact this)
  have HMO : Hid (∀ W, Below W1.heap.size W1 W → Calls Tryz.prog 98 #[.pointer (some ⟨t, 0, none⟩), .slice (some ⟨t, 20, none⟩) l.length 29, .int .u8 f.toNat] W fun e w' => e = .returned (.tuple #[]) ∧ TmStep w lo t g rb bs (modesT T (numsT l) f) B w') := Lib.hid (fun W hW =>
    (modes_any (H1.out.below hW) l (by have := HQ.out; omega) hA (some ⟨t, 20, none⟩) 29 f HP.out).mono fun e w' ⟨he, hs⟩ => ⟨he, TmStep.bel_then (HB1.out.trans (hW.mono HB1.out.size)) hs⟩)
  have q0 := HKB.out W1 (Below.refl _ _)
  have cc1 : W1.cell? ⟨t, 19, none⟩ = some (.int .u8 63) := hC W1 HB1.out
  have HCX := Lib.hid hC
  clear hC
  have hpos : (0 : Int) < (l.length : Int) + 1 := by omega
  clear hA
  clear h hbase hs1 hkb hP hQ
  go_enter Tryz.func70, Tryz.ntmps70
  go_upto_region 1 with fail
  rw [← HW1.out]
  clear HW1
  go_wp2_with (first
    | (go_at_call 97; refine (HAR.out _ (Below.refl _ _)).mono ?_; rintro e w' ⟨rfl, rfl⟩)
    | (go_at_call 98; refine (HMO.out _ (Below.refl _ _)).mono ?_; rintro e w' ⟨rfl, hs5⟩))
  go_end0
  exact ⟨rfl, hs5⟩


set_option maxRecDepth 100000 in
set_option maxHeartbeats 8000000 in
theorem exec_c_no (h : TmAt w lo t g rb bs T B) (hbase : Base w lo) (c : UInt8) (l : List UInt8) (hc : c ≠ 63) (hQ : (c :: l).length ≤ 30) (hP : Piece t (some ⟨t, 19, none⟩) (c :: l) B) (hC : ∀ W, Below w.heap.size w W → W.cell? ⟨t, 19, none⟩ = some (.int .u8 c.toNat)) (f : UInt8) (hA : areN (c :: l) = false) :
    Calls Tryz.prog 70 #[.pointer (some ⟨t, 0, none⟩), .slice (some ⟨t, 19, none⟩) (l.length + 1) 30, .int .u8 f.toNat] w fun e w' => e = .returned (.tuple #[]) ∧ TmStep w lo t g rb bs (T) B w' := by
  obtain ⟨W1, HW1, HB1, H1, HBS1, hkb, hs1⟩ := tbox h hbase
  have HS1 := Lib.hid hs1
  have HKB := Lib.hid hkb
  have htl := h.lt
  have H := Lib.hid h
  have HP := Lib.hid hP
  have HQ := Lib.hid hQ
  have HAR : Hid (∀ W, Below W1.heap.size W1 W → Calls Tryz.prog 97 #[.slice (some ⟨t, 19, none⟩) (l.length + 1) 30] W fun e w' => e = .returned (.bool false) ∧ W = w') := Lib.hid (fun W hW => by
    have := areN_any (c :: l) (by have := HQ.out; omega) (some ⟨t, 19, none⟩) (l.length + 1) 30 rfl W _ ((H1.out.below hW).piece HP.out)
    rw [hA] at this
    exact this)
  have cc1 : W1.cell? ⟨t, 19, none⟩ = some (.int .u8 c.toNat) := hC W1 HB1.out
  have hci : ((c.toNat : Int) == 63) = false := by
    simp
    exact fun e => hc (UInt8.toNat_inj.1 (by show c.toNat = 63; omega))
  have hpos : (0 : Int) < (l.length : Int) + 1 := by omega
  clear hC hc
  clear hA
  clear h hbase hs1 hkb hP hQ
  go_enter Tryz.func70, Tryz.ntmps70
  go_upto_region 1 with fail
  rw [← HW1.out]
  clear HW1
  go_wp2_with (go_at_call 97; refine (HAR.out _ (Below.refl _ _)).mono ?_; rintro e w' ⟨rfl, rfl⟩)
  go_end0
  exact ⟨rfl, TmStep.bel H.out HB1.out⟩


set_option maxRecDepth 100000 in
set_option maxHeartbeats 8000000 in
theorem exec_c_plain (h : TmAt w lo t g rb bs T B) (hbase : Base w lo) (c : UInt8) (l : List UInt8) (hc : c ≠ 63) (hQ : (c :: l).length ≤ 30) (hP : Piece t (some ⟨t, 19, none⟩) (c :: l) B) (hC : ∀ W, Below w.heap.size w W → W.cell? ⟨t, 19, none⟩ = some (.int .u8 c.toNat)) (f : UInt8) (hf : f ≠ 109) (hA : areN (c :: l) = true) :
    Calls Tryz.prog 70 #[.pointer (some ⟨t, 0, none⟩), .slice (some ⟨t, 19, none⟩) (l.length + 1) 30, .int .u8 f.toNat] w fun e w' => e = .returned (.tuple #[]) ∧ TmStep w lo t g rb bs (plainT T ((numsT (c :: l)).getD 0 0) ((numsT (c :: l)).getD 1 0) f) B w' := by
  obtain ⟨W1, HW1, HB1, H1, HBS1, hkb, hs1⟩ := tbox h hbase
  have HS1 := Lib.hid hs1
  have HKB := Lib.hid hkb
  have htl := h.lt
  have H := Lib.hid h
  have HP := Lib.hid hP
  have HQ := Lib.hid hQ
  have HAR : Hid (∀ W, Below W1.heap.size W1 W → Calls Tryz.prog 97 #[.slice (some ⟨t, 19, none⟩) (l.length + 1) 30] W fun e w' => e = .returned (.bool true) ∧ W = w') := Lib.hid (fun W hW => by
    have := areN_any (c :: l) (by have := HQ.out; omega) (some ⟨t, 19, none⟩) (l.length + 1) 30 rfl W _ ((H1.out.below hW).piece HP.out)
    rw [hA] at this
    exact this)
  have HN0 : Hid (∀ d os, Calls Tryz.prog 102 #[.slice (some ⟨t, 19, none⟩) (l.length + 1) 30, .int .i64 0] (grow (redrawn W1 d) os) fun e w'' => e = .returned (.int .i64 ((numsT (c :: l)).getD 0 0)) ∧ ∃ p : Regrown, w'' = grow (redrawn W1 p.d) p.os) := Lib.hid (fun d os => Calls.regrown_of (number_any (c :: l) (by have := HQ.out; omega) hA (some ⟨t, 19, none⟩) 30 0 _ ((H1.out.below (below_regrown W1 d os)).piece HP.out)))
  have HN1 : Hid (∀ d os, Calls Tryz.prog 102 #[.slice (some ⟨t, 19, none⟩) (l.length + 1) 30, .int .i64 1] (grow (redrawn W1 d) os) fun e w'' => e = .returned (.int .i64 ((numsT (c :: l)).getD 1 0)) ∧ ∃ p : Regrown, w'' = grow (redrawn W1 p.d) p.os) := Lib.hid (fun d os => Calls.regrown_of (number_any (c :: l) (by have := HQ.out; omega) hA (some ⟨t, 19, none⟩) 30 1 _ ((H1.out.below (below_regrown W1 d os)).piece HP.out)))
  have HPL : Hid (∀ d os, Calls Tryz.prog 101 #[.pointer (some ⟨t, 0, none⟩), .int .i64 ((numsT (c :: l)).getD 0 0), .int .i64 ((numsT (c :: l)).getD 1 0), .int .u8 f.toNat] (grow (redrawn W1 d) os) fun e w' => e = .returned (.tuple #[]) ∧ TmStep w lo t g rb bs (plainT T ((numsT (c :: l)).getD 0 0) ((numsT (c :: l)).getD 1 0) f) B w') := Lib.hid (fun d os =>
    (plain_any (H1.out.below (below_regrown W1 d os)) (HBS1.out.below (below_regrown W1 d os)) _ _ (getD_rng hA 0).1 (getD_rng hA 0).2 (getD_rng hA 1).1 (getD_rng hA 1).2 f).mono fun e w' ⟨he, hs⟩ => ⟨he, TmStep.bel_then (HB1.out.trans ((below_regrown W1 d os).mono HB1.out.size)) hs⟩)
  generalize (numsT (c :: l)).getD 0 0 = v0 at HN0 HPL ⊢
  generalize (numsT (c :: l)).getD 1 0 = v1 at HN1 HPL ⊢
  have hfi : ((f.toNat : Int) == 109) = false := by
    simp
    exact fun e => hf (UInt8.toNat_inj.1 (by show f.toNat = 109; omega))
  have q0 := cell_regrown (HKB.out W1 (Below.refl _ _))
  have cc1 : W1.cell? ⟨t, 19, none⟩ = some (.int .u8 c.toNat) := hC W1 HB1.out
  have hci : ((c.toNat : Int) == 63) = false := by
    simp
    exact fun e => hc (UInt8.toNat_inj.1 (by show c.toNat = 63; omega))
  have hpos : (0 : Int) < (l.length : Int) + 1 := by omega
  clear hC hc
  clear hA hf
  clear h hbase hs1 hkb hP hQ
  go_enter Tryz.func70, Tryz.ntmps70
  go_upto_region 1 with fail
  rw [← HW1.out]
  clear HW1
  go_wp2_with (go_at_call 97; refine (HAR.out _ (Below.refl _ _)).mono ?_; rintro e w' ⟨rfl, rfl⟩)
  refine wp_region_below_tail 6 (by kernel_rfl) (by kernel_rfl) ?_
  simp only [List.take_succ_cons, List.take_zero, List.drop_succ_cons, List.drop_zero]
  repeat (first
    | go_big_quiet_step (first | with_reducible exact HN0.out _ _ | with_reducible exact HN1.out _ _)
    | quiet_step (first | with_reducible exact HN0.out _ _ | with_reducible exact HN1.out _ _))
  refine wpQuiet_nil ?_
  intro _ hw'
  obtain ⟨⟨dq, osq⟩, hw''⟩ := hw'
  subst hw''
  go_wp2_with (go_at_call 101; refine (HPL.out _ _).mono ?_; rintro e w5 ⟨rfl, hp5⟩)
  go_end0
  exact ⟨rfl, hp5⟩


set_option maxRecDepth 100000 in
set_option maxHeartbeats 8000000 in
theorem exec_n_plain (h : TmAt w lo t g rb bs T B) (hbase : Base w lo) (hQ : ([] : List UInt8).length ≤ 30) (hP : Piece t (some ⟨t, 19, none⟩) ([] : List UInt8) B) (f : UInt8) (hf : f ≠ 109) :
    Calls Tryz.prog 70 #[.pointer (some ⟨t, 0, none⟩), .slice (some ⟨t, 19, none⟩) 0 30, .int .u8 f.toNat] w fun e w' => e = .returned (.tuple #[]) ∧ TmStep w lo t g rb bs (plainT T ((numsT []).getD 0 0) ((numsT []).getD 1 0) f) B w' := by
  obtain ⟨W1, HW1, HB1, H1, HBS1, hkb, hs1⟩ := tbox h hbase
  have HS1 := Lib.hid hs1
  have HKB := Lib.hid hkb
  have htl := h.lt
  have H := Lib.hid h
  have HP := Lib.hid hP
  have HQ := Lib.hid hQ
  have hA : areN ([] : List UInt8) = true := rfl
  have HAR : Hid (∀ W, Below W1.heap.size W1 W → Calls Tryz.prog 97 #[.slice (some ⟨t, 19, none⟩) 0 30] W fun e w' => e = .returned (.bool true) ∧ W = w') := Lib.hid (fun W hW => by
    have := areN_any ([] : List UInt8) (by have := HQ.out; omega) (some ⟨t, 19, none⟩) 0 30 rfl W _ ((H1.out.below hW).piece HP.out)
    rw [hA] at this
    exact this)
  have HN0 : Hid (∀ d os, Calls Tryz.prog 102 #[.slice (some ⟨t, 19, none⟩) 0 30, .int .i64 0] (grow (redrawn W1 d) os) fun e w'' => e = .returned (.int .i64 ((numsT ([] : List UInt8)).getD 0 0)) ∧ ∃ p : Regrown, w'' = grow (redrawn W1 p.d) p.os) := Lib.hid (fun d os => Calls.regrown_of (number_any ([] : List UInt8) (by have := HQ.out; omega) hA (some ⟨t, 19, none⟩) 30 0 _ ((H1.out.below (below_regrown W1 d os)).piece HP.out)))
  have HN1 : Hid (∀ d os, Calls Tryz.prog 102 #[.slice (some ⟨t, 19, none⟩) 0 30, .int .i64 1] (grow (redrawn W1 d) os) fun e w'' => e = .returned (.int .i64 ((numsT ([] : List UInt8)).getD 1 0)) ∧ ∃ p : Regrown, w'' = grow (redrawn W1 p.d) p.os) := Lib.hid (fun d os => Calls.regrown_of (number_any ([] : List UInt8) (by have := HQ.out; omega) hA (some ⟨t, 19, none⟩) 30 1 _ ((H1.out.below (below_regrown W1 d os)).piece HP.out)))
  have HPL : Hid (∀ d os, Calls Tryz.prog 101 #[.pointer (some ⟨t, 0, none⟩), .int .i64 ((numsT ([] : List UInt8)).getD 0 0), .int .i64 ((numsT ([] : List UInt8)).getD 1 0), .int .u8 f.toNat] (grow (redrawn W1 d) os) fun e w' => e = .returned (.tuple #[]) ∧ TmStep w lo t g rb bs (plainT T ((numsT ([] : List UInt8)).getD 0 0) ((numsT ([] : List UInt8)).getD 1 0) f) B w') := Lib.hid (fun d os =>
    (plain_any (H1.out.below (below_regrown W1 d os)) (HBS1.out.below (below_regrown W1 d os)) _ _ (getD_rng hA 0).1 (getD_rng hA 0).2 (getD_rng hA 1).1 (getD_rng hA 1).2 f).mono fun e w' ⟨he, hs⟩ => ⟨he, TmStep.bel_then (HB1.out.trans ((below_regrown W1 d os).mono HB1.out.size)) hs⟩)
  generalize (numsT ([] : List UInt8)).getD 0 0 = v0 at HN0 HPL ⊢
  generalize (numsT ([] : List UInt8)).getD 1 0 = v1 at HN1 HPL ⊢
  have hfi : ((f.toNat : Int) == 109) = false := by
    simp
    exact fun e => hf (UInt8.toNat_inj.1 (by show f.toNat = 109; omega))
  have q0 := cell_regrown (HKB.out W1 (Below.refl _ _))
  clear hA hf
  clear h hbase hs1 hkb hP hQ
  go_enter Tryz.func70, Tryz.ntmps70
  go_upto_region 1 with fail
  rw [← HW1.out]
  clear HW1
  go_wp2_with (go_at_call 97; refine (HAR.out _ (Below.refl _ _)).mono ?_; rintro e w' ⟨rfl, rfl⟩)
  refine wp_region_below_tail 6 (by kernel_rfl) (by kernel_rfl) ?_
  simp only [List.take_succ_cons, List.take_zero, List.drop_succ_cons, List.drop_zero]
  repeat (first
    | go_big_quiet_step (first | with_reducible exact HN0.out _ _ | with_reducible exact HN1.out _ _)
    | quiet_step (first | with_reducible exact HN0.out _ _ | with_reducible exact HN1.out _ _))
  refine wpQuiet_nil ?_
  intro _ hw'
  obtain ⟨⟨dq, osq⟩, hw''⟩ := hw'
  subst hw''
  go_wp2_with (go_at_call 101; refine (HPL.out _ _).mono ?_; rintro e w5 ⟨rfl, hp5⟩)
  go_end0
  exact ⟨rfl, hp5⟩

end
end Go.Proofs.YtfmkeeaenjeneaaGreatDoor
