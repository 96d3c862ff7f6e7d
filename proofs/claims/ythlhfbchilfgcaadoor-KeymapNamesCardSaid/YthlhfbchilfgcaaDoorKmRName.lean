/-
  Walks of the reference: Name.
-/
import Derived.Test.YthlhfbchilfgcaaDoorKmRCheck
namespace Go.Proofs.YthlhfbchilfgcaaDoor
open Go.RowKit
set_option linter.unusedVariables false
set_option linter.unusedSimpArgs false

theorem wordR_len : ∀ i : Nat, i < 19 → (wordR.getD i []).length ≤ 10 := by decide
set_option maxRecDepth 100000 in
set_option maxHeartbeats 8000000 in
theorem rname_A (s : List UInt8) (n : Int) (h t : Bool) (hs : s.length ≤ 100) (w : World) (hc : chk ⟨1, s, n, true, h, t⟩ = true) :
    Calls Tryd.prog 14 #[.agg #[.int .i64 1, .string ⟨s.toArray⟩, .int .i64 n, .bool true, .bool h, .bool t]] w fun e w' => e = .returned (.string ⟨((if true = true then [97, 108, 116, 45] else []) ++ ((if t = true then [99, 116, 108, 45] else []) ++ ((if h = true then [115, 104, 105, 102, 116, 45] else []) ++ ([116, 101, 120, 116, 46] ++ s)))).toArray⟩) ∧ Below w.heap.size w w' := by
  have hck := rcheck_any ⟨1, s, n, true, h, t⟩ hs
  rw [if_pos hc] at hck
  simp only at hck
  have HB0 := Lib.hid (fun (q : ByteArray) => Blk.new w 24 [.int .i64 1, .string q, .int .i64 n, .bool true, .bool h, .bool t])
  obtain ⟨q, hq⟩ : ∃ q : ByteArray, q = ⟨s.toArray⟩ := ⟨_, rfl⟩
  have hsz : q.size ≤ 100 := by rw [hq]; simpa [ByteArray.size] using hs
  have HQ := Lib.hid hq
  rw [← hq] at hck ⊢
  have HCK := Lib.hid hck
  have HW : Hid (∀ W, Calls Tryd.prog 43 #[.int .i64 1] W fun e w' => e = .returned (.string ⟨#[116, 101, 120, 116]⟩) ∧ Below W.heap.size W w') := Lib.hid (fun W => rword_any 1 (by omega) W)
  clear hck hq hs hc
  cases h <;> cases t
  all_goals
    go_enter Tryd.func14, Tryd.ntmps14
    go_wp2_with (first
      | (go_at_call 12; refine (HCK.out _).mono ?_; rintro e w1 ⟨rfl, hb1⟩; have HB1 := Lib.hid (kstep (kbel w _) hb1); have hk1 := (HB0.out q).below hb1 (HB0.out q).lt; have HK1 := Lib.hid hk1; have c0 := hk1.cell 0; have c1 := hk1.cell 1; have c2 := hk1.cell 2; have c3 := hk1.cell 3; have c4 := hk1.cell 4; have c5 := hk1.cell 5; simp only [List.getElem?_cons_succ, List.getElem?_cons_zero] at c0 c1 c2 c3 c4 c5; clear hb1 hk1)
      | (go_at_call 43; refine (HW.out _).mono ?_; rintro e w2 ⟨rfl, hb2⟩; have HB2 := Lib.hid (kstep HB1.out hb2); have hk2 := HK1.out.below hb2 HK1.out.lt; have HK2 := Lib.hid hk2; clear c0 c1 c2 c3 c4 c5; have c0 := hk2.cell 0; have c1 := hk2.cell 1; have c2 := hk2.cell 2; have c3 := hk2.cell 3; have c4 := hk2.cell 4; have c5 := hk2.cell 5; simp only [List.getElem?_cons_succ, List.getElem?_cons_zero] at c0 c1 c2 c3 c4 c5; clear hb2 hk2))
    go_ret
    refine ⟨?_, HB2.out⟩
    rw [HQ.out]
    simp only [cat_arr]
    rfl
set_option maxRecDepth 100000 in
set_option maxHeartbeats 8000000 in
theorem rname_B (s : List UInt8) (n : Int) (h t : Bool) (hs : s.length ≤ 100) (w : World) (hc : chk ⟨1, s, n, false, h, t⟩ = true) :
    Calls Tryd.prog 14 #[.agg #[.int .i64 1, .string ⟨s.toArray⟩, .int .i64 n, .bool false, .bool h, .bool t]] w fun e w' => e = .returned (.string ⟨((if false = true then [97, 108, 116, 45] else []) ++ ((if t = true then [99, 116, 108, 45] else []) ++ ((if h = true then [115, 104, 105, 102, 116, 45] else []) ++ ([116, 101, 120, 116] : List UInt8)))).toArray⟩) ∧ Below w.heap.size w w' := by
  have hck := rcheck_any ⟨1, s, n, false, h, t⟩ hs
  rw [if_pos hc] at hck
  simp only at hck
  have HB0 := Lib.hid (fun (q : ByteArray) => Blk.new w 24 [.int .i64 1, .string q, .int .i64 n, .bool false, .bool h, .bool t])
  obtain ⟨q, hq⟩ : ∃ q : ByteArray, q = ⟨s.toArray⟩ := ⟨_, rfl⟩
  have hsz : q.size ≤ 100 := by rw [hq]; simpa [ByteArray.size] using hs
  have HQ := Lib.hid hq
  rw [← hq] at hck ⊢
  have HCK := Lib.hid hck
  have HW : Hid (∀ W, Calls Tryd.prog 43 #[.int .i64 1] W fun e w' => e = .returned (.string ⟨#[116, 101, 120, 116]⟩) ∧ Below W.heap.size W w') := Lib.hid (fun W => rword_any 1 (by omega) W)
  clear hck hq hs hc
  cases h <;> cases t
  all_goals
    go_enter Tryd.func14, Tryd.ntmps14
    go_wp2_with (first
      | (go_at_call 12; refine (HCK.out _).mono ?_; rintro e w1 ⟨rfl, hb1⟩; have HB1 := Lib.hid (kstep (kbel w _) hb1); have hk1 := (HB0.out q).below hb1 (HB0.out q).lt; have HK1 := Lib.hid hk1; have c0 := hk1.cell 0; have c1 := hk1.cell 1; have c2 := hk1.cell 2; have c3 := hk1.cell 3; have c4 := hk1.cell 4; have c5 := hk1.cell 5; simp only [List.getElem?_cons_succ, List.getElem?_cons_zero] at c0 c1 c2 c3 c4 c5; clear hb1 hk1)
      | (go_at_call 43; refine (HW.out _).mono ?_; rintro e w2 ⟨rfl, hb2⟩; have HB2 := Lib.hid (kstep HB1.out hb2); have hk2 := HK1.out.below hb2 HK1.out.lt; have HK2 := Lib.hid hk2; clear c0 c1 c2 c3 c4 c5; have c0 := hk2.cell 0; have c1 := hk2.cell 1; have c2 := hk2.cell 2; have c3 := hk2.cell 3; have c4 := hk2.cell 4; have c5 := hk2.cell 5; simp only [List.getElem?_cons_succ, List.getElem?_cons_zero] at c0 c1 c2 c3 c4 c5; clear hb2 hk2))
    go_ret
    refine ⟨?_, HB2.out⟩
    skip
    simp only [cat_arr]
    rfl
set_option maxRecDepth 100000 in
set_option maxHeartbeats 8000000 in
theorem rname_C (s : List UInt8) (n : Int) (a h t : Bool) (hs : s.length ≤ 100) (w : World) (hc : chk ⟨17, s, n, a, h, t⟩ = true) :
    Calls Tryd.prog 14 #[.agg #[.int .i64 17, .string ⟨s.toArray⟩, .int .i64 n, .bool a, .bool h, .bool t]] w fun e w' => e = .returned (.string ⟨((if a = true then [97, 108, 116, 45] else []) ++ ((if t = true then [99, 116, 108, 45] else []) ++ ((if h = true then [115, 104, 105, 102, 116, 45] else []) ++ ([99, 116, 114, 108, 45] ++ s)))).toArray⟩) ∧ Below w.heap.size w w' := by
  have hck := rcheck_any ⟨17, s, n, a, h, t⟩ hs
  rw [if_pos hc] at hck
  simp only at hck
  have HB0 := Lib.hid (fun (q : ByteArray) => Blk.new w 24 [.int .i64 17, .string q, .int .i64 n, .bool a, .bool h, .bool t])
  obtain ⟨q, hq⟩ : ∃ q : ByteArray, q = ⟨s.toArray⟩ := ⟨_, rfl⟩
  have hsz : q.size ≤ 100 := by rw [hq]; simpa [ByteArray.size] using hs
  have HQ := Lib.hid hq
  rw [← hq] at hck ⊢
  have HCK := Lib.hid hck
  have HW : Hid (∀ W, Calls Tryd.prog 43 #[.int .i64 17] W fun e w' => e = .returned (.string ⟨#[99, 116, 114, 108, 45]⟩) ∧ Below W.heap.size W w') := Lib.hid (fun W => rword_any 17 (by omega) W)
  clear hck hq hs hc
  cases a <;> cases h <;> cases t
  all_goals
    go_enter Tryd.func14, Tryd.ntmps14
    go_wp2_with (first
      | (go_at_call 12; refine (HCK.out _).mono ?_; rintro e w1 ⟨rfl, hb1⟩; have HB1 := Lib.hid (kstep (kbel w _) hb1); have hk1 := (HB0.out q).below hb1 (HB0.out q).lt; have HK1 := Lib.hid hk1; have c0 := hk1.cell 0; have c1 := hk1.cell 1; have c2 := hk1.cell 2; have c3 := hk1.cell 3; have c4 := hk1.cell 4; have c5 := hk1.cell 5; simp only [List.getElem?_cons_succ, List.getElem?_cons_zero] at c0 c1 c2 c3 c4 c5; clear hb1 hk1)
      | (go_at_call 43; refine (HW.out _).mono ?_; rintro e w2 ⟨rfl, hb2⟩; have HB2 := Lib.hid (kstep HB1.out hb2); have hk2 := HK1.out.below hb2 HK1.out.lt; have HK2 := Lib.hid hk2; clear c0 c1 c2 c3 c4 c5; have c0 := hk2.cell 0; have c1 := hk2.cell 1; have c2 := hk2.cell 2; have c3 := hk2.cell 3; have c4 := hk2.cell 4; have c5 := hk2.cell 5; simp only [List.getElem?_cons_succ, List.getElem?_cons_zero] at c0 c1 c2 c3 c4 c5; clear hb2 hk2))
    go_ret
    refine ⟨?_, HB2.out⟩
    rw [HQ.out]
    simp only [cat_arr]
    rfl
set_option maxRecDepth 100000 in
set_option maxHeartbeats 8000000 in
theorem rname_D (i : Nat) (s : List UInt8) (n : Int) (a h t : Bool) (hs : s.length ≤ 100) (h1 : 2 ≤ i) (h2 : i ≤ 16) (w : World) (hc : chk ⟨i, s, n, a, h, t⟩ = true) :
    Calls Tryd.prog 14 #[.agg #[.int .i64 i, .string ⟨s.toArray⟩, .int .i64 n, .bool a, .bool h, .bool t]] w fun e w' => e = .returned (.string ⟨((if a = true then [97, 108, 116, 45] else []) ++ ((if t = true then [99, 116, 108, 45] else []) ++ ((if h = true then [115, 104, 105, 102, 116, 45] else []) ++ (wordR.getD i [])))).toArray⟩) ∧ Below w.heap.size w w' := by
  have hck := rcheck_any ⟨i, s, n, a, h, t⟩ hs
  rw [if_pos hc] at hck
  simp only at hck
  have HB0 := Lib.hid (fun (q : ByteArray) => Blk.new w 24 [.int .i64 i, .string q, .int .i64 n, .bool a, .bool h, .bool t])
  obtain ⟨q, hq⟩ : ∃ q : ByteArray, q = ⟨s.toArray⟩ := ⟨_, rfl⟩
  have hsz : q.size ≤ 100 := by rw [hq]; simpa [ByteArray.size] using hs
  have HQ := Lib.hid hq
  rw [← hq] at hck ⊢
  have HCK := Lib.hid hck
  obtain ⟨R, hR⟩ : ∃ R : ByteArray, R = ⟨(wordR.getD i []).toArray⟩ := ⟨_, rfl⟩
  have hRz : R.size ≤ 10 := by rw [hR]; simpa [ByteArray.size] using wordR_len i (by omega)
  have HW := Lib.hid (fun W => rword_any i (by omega) W)
  rw [← hR] at HW
  have HR := Lib.hid hR
  have e1 : ((i : Int) == 1) = false := by simp; omega
  have e17 : ((i : Int) == 17) = false := by simp; omega
  have e18 : ((i : Int) == 18) = false := by simp; omega
  clear hR
  clear hck hq hs hc
  cases a <;> cases h <;> cases t
  all_goals
    go_enter Tryd.func14, Tryd.ntmps14
    go_wp2_with (first
      | (go_at_call 12; refine (HCK.out _).mono ?_; rintro e w1 ⟨rfl, hb1⟩; have HB1 := Lib.hid (kstep (kbel w _) hb1); have hk1 := (HB0.out q).below hb1 (HB0.out q).lt; have HK1 := Lib.hid hk1; have c0 := hk1.cell 0; have c1 := hk1.cell 1; have c2 := hk1.cell 2; have c3 := hk1.cell 3; have c4 := hk1.cell 4; have c5 := hk1.cell 5; simp only [List.getElem?_cons_succ, List.getElem?_cons_zero] at c0 c1 c2 c3 c4 c5; clear hb1 hk1)
      | (go_at_call 43; refine (HW.out _).mono ?_; rintro e w2 ⟨rfl, hb2⟩; have HB2 := Lib.hid (kstep HB1.out hb2); have hk2 := HK1.out.below hb2 HK1.out.lt; have HK2 := Lib.hid hk2; clear c0 c1 c2 c3 c4 c5; have c0 := hk2.cell 0; have c1 := hk2.cell 1; have c2 := hk2.cell 2; have c3 := hk2.cell 3; have c4 := hk2.cell 4; have c5 := hk2.cell 5; simp only [List.getElem?_cons_succ, List.getElem?_cons_zero] at c0 c1 c2 c3 c4 c5; clear hb2 hk2))
    go_ret
    refine ⟨?_, HB2.out⟩
    rw [HR.out]
    simp only [cat_arr]
    rfl
set_option maxRecDepth 100000 in
set_option maxHeartbeats 8000000 in
theorem rname_E (m : Nat) (s : List UInt8) (a h t : Bool) (hs : s.length ≤ 100) (h1 : 1 ≤ m) (h2 : m ≤ 12) (w : World) (hc : chk ⟨18, s, m, a, h, t⟩ = true) :
    Calls Tryd.prog 14 #[.agg #[.int .i64 18, .string ⟨s.toArray⟩, .int .i64 m, .bool a, .bool h, .bool t]] w fun e w' => e = .returned (.string ⟨((if a = true then [97, 108, 116, 45] else []) ++ ((if t = true then [99, 116, 108, 45] else []) ++ ((if h = true then [115, 104, 105, 102, 116, 45] else []) ++ ([102] ++ Lib.decDigits m)))).toArray⟩) ∧ Below w.heap.size w w' := by
  have hck := rcheck_any ⟨18, s, m, a, h, t⟩ hs
  rw [if_pos hc] at hck
  simp only at hck
  have HB0 := Lib.hid (fun (q : ByteArray) => Blk.new w 24 [.int .i64 18, .string q, .int .i64 m, .bool a, .bool h, .bool t])
  obtain ⟨q, hq⟩ : ∃ q : ByteArray, q = ⟨s.toArray⟩ := ⟨_, rfl⟩
  have hsz : q.size ≤ 100 := by rw [hq]; simpa [ByteArray.size] using hs
  have HQ := Lib.hid hq
  rw [← hq] at hck ⊢
  have HCK := Lib.hid hck
  have HW : Hid (∀ W, Calls Tryd.prog 43 #[.int .i64 18] W fun e w' => e = .returned (.string ⟨#[102]⟩) ∧ Below W.heap.size W w') := Lib.hid (fun W => rword_any 18 (by omega) W)
  obtain ⟨R, hR⟩ : ∃ R : ByteArray, R = ⟨(Lib.decDigits m).toArray⟩ := ⟨_, rfl⟩
  have hRz : R.size ≤ 10 := by rw [hR]; have := digK_len m (by omega); simp [ByteArray.size]; omega
  have HD := Lib.hid (fun W => rdigits_any m h1 h2 W)
  rw [← hR] at HD
  have HR := Lib.hid hR
  clear hR
  clear hck hq hs hc
  cases a <;> cases h <;> cases t
  all_goals
    go_enter Tryd.func14, Tryd.ntmps14
    go_wp2_with (first
      | (go_at_call 12; refine (HCK.out _).mono ?_; rintro e w1 ⟨rfl, hb1⟩; have HB1 := Lib.hid (kstep (kbel w _) hb1); have hk1 := (HB0.out q).below hb1 (HB0.out q).lt; have HK1 := Lib.hid hk1; have c0 := hk1.cell 0; have c1 := hk1.cell 1; have c2 := hk1.cell 2; have c3 := hk1.cell 3; have c4 := hk1.cell 4; have c5 := hk1.cell 5; simp only [List.getElem?_cons_succ, List.getElem?_cons_zero] at c0 c1 c2 c3 c4 c5; clear hb1 hk1)
      | (go_at_call 43; refine (HW.out _).mono ?_; rintro e w2 ⟨rfl, hb2⟩; have HB2 := Lib.hid (kstep HB1.out hb2); have hk2 := HK1.out.below hb2 HK1.out.lt; have HK2 := Lib.hid hk2; clear c0 c1 c2 c3 c4 c5; have c0 := hk2.cell 0; have c1 := hk2.cell 1; have c2 := hk2.cell 2; have c3 := hk2.cell 3; have c4 := hk2.cell 4; have c5 := hk2.cell 5; simp only [List.getElem?_cons_succ, List.getElem?_cons_zero] at c0 c1 c2 c3 c4 c5; clear hb2 hk2)
      | (go_at_call 44; refine (HD.out _).mono ?_; rintro e w3 ⟨rfl, hb3⟩; have HB3 := Lib.hid (kstep HB2.out hb3); clear hb3 c0 c1 c2 c3 c4 c5))
    go_ret
    refine ⟨?_, HB3.out⟩
    rw [HR.out]
    simp only [cat_arr]
    rfl
end Go.Proofs.YthlhfbchilfgcaaDoor
