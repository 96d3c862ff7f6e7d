/-
  Walks: unmodified and Name of any key whose text is short.
-/
import Derived.Test.YthlhfbchilfgcaaDoorKmAny
namespace Go.Proofs.YthlhfbchilfgcaaDoor
open Go.RowKit
set_option linter.unusedVariables false
set_option linter.unusedSimpArgs false

theorem chk_cases (k : Kv) (hk : k.s.length ≤ 100) (hc : chk k = true) : okN k ∨ (k.c = 16 ∧ k.n = 0) ∨ (k.c = 18 ∧ k.s = [] ∧ 1 ≤ k.n ∧ k.n ≤ 12) := by
  unfold chk vText vNum at hc
  simp only [Bool.and_eq_true] at hc
  obtain ⟨h1, h2⟩ := hc
  by_cases a1 : k.c = 1 ∨ k.c = 16
  · rw [if_neg (by omega : ¬ k.c = 18)] at h2
    have h3 : k.n = 0 := by simpa using h2
    rcases a1 with a1 | a1
    · exact .inl ⟨h3, .inl ⟨a1, by omega⟩⟩
    · exact .inr (.inl ⟨a1, h3⟩)
  · rw [if_neg a1] at h1
    by_cases a2 : k.c = 17
    · rw [if_neg (by omega : ¬ k.c = 18)] at h2
      have h3 : k.n = 0 := by simpa using h2
      rw [if_pos a2] at h1
      refine .inl ⟨h3, .inr (.inl ⟨a2, ?_⟩)⟩
      revert h1
      split
      · rename_i b hb
        intro h
        exact ⟨b, hb, h⟩
      · intro h; cases h
    · rw [if_neg a2] at h1
      have h4 : 1 ≤ k.c ∧ k.c ≤ 18 ∧ k.s = [] := by simpa using h1
      by_cases a3 : k.c = 18
      · rw [if_pos a3] at h2
        have h5 : 1 ≤ k.n ∧ k.n ≤ 12 := by simpa using h2
        exact .inr (.inr ⟨a3, h4.2.2, h5⟩)
      · rw [if_neg a3] at h2
        have h3 : k.n = 0 := by simpa using h2
        exact .inl ⟨h3, .inr (.inr ⟨by omega, by omega, h4.2.2⟩)⟩
theorem digK_len : ∀ m : Nat, m < 13 → (Lib.decDigits m).length ≤ 2 := by decide +kernel
theorem baseF_len (k : Kv) (hk : k.s.length ≤ 100) (hc : chk k = true) : (baseF k).length ≤ 65600 := by
  rcases chk_cases k hk hc with h | ⟨h1, h2⟩ | ⟨h1, h2, h3, h4⟩
  · unfold baseF
    rw [if_neg (by obtain ⟨_, h⟩ := h; rcases h with ⟨e, _⟩ | ⟨e, _⟩ | ⟨_, e, _⟩ <;> omega)]
    exact baseN_len k h
  · unfold baseF
    rw [if_neg (by omega)]
    unfold baseN
    rw [if_neg (by omega), if_neg (by omega), h1]
    decide
  · unfold baseF
    rw [if_pos h1]
    have := digK_len k.n.toNat (by omega)
    simp [digK]
    omega
set_option maxRecDepth 100000 in
set_option maxHeartbeats 4000000 in
theorem unmodified_any (k : Kv) (hk : k.s.length ≤ 100) (hc : chk k = true) (w : World) (hT : StrT w 2 nameT) :
    Calls Tryd.prog 42 #[.agg #[.int .i64 k.c, .string ⟨k.s.toArray⟩, .int .i64 k.n, .bool k.a, .bool k.h, .bool k.t]] w fun e w' => e = .returned (.string ⟨(baseF k).toArray⟩) ∧ Below w.heap.size w w' := by
  rcases chk_cases k hk hc with h | ⟨h1, h2⟩ | ⟨h1, h2, h3, h4⟩
  · have e : baseF k = baseN k := by
      unfold baseF
      rw [if_neg (by obtain ⟨_, h⟩ := h; rcases h with ⟨e, _⟩ | ⟨e, _⟩ | ⟨_, e, _⟩ <;> omega)]
    rw [e]
    exact unmodified_yes k h w hT
  · have e : baseF k = [112, 97, 115, 116, 101] := by
      unfold baseF
      rw [if_neg (by omega)]
      unfold baseN
      rw [if_neg (by omega), if_neg (by omega), h1]
      rfl
    rw [e]
    obtain ⟨c, s, n, a, h, t⟩ := k
    simp only at h1 h2 ⊢
    subst h1 h2
    generalize (⟨s.toArray⟩ : ByteArray) = q
    have hx := hT 16 (by decide)
    have hx2 : (w.alloc (.cells #[.int .i64 16, .string q, .int .i64 0, .bool a, .bool h, .bool t] 24)).cell? ⟨2, 16, none⟩ = some (.string ⟨#[112, 97, 115, 116, 101]⟩) := (World.cell?_alloc_old _ _ _ (Nat.ne_of_lt (cell_lt' hx))).trans hx
    clear hx hT e hc hk
    go_enter Tryd.func42, Tryd.ntmps42
    go_wp2_with (fail)
    go_ret
    exact ⟨rfl, kbel _ _⟩
  · have e : baseF k = 102 :: digK k.n := by
      unfold baseF
      rw [if_pos h1]
    rw [e]
    obtain ⟨c, s, n, a, h, t⟩ := k
    simp only at h1 h2 h3 h4 ⊢
    subst h1 h2
    obtain ⟨m, rfl⟩ : ∃ m : Nat, n = m := ⟨n.toNat, by omega⟩
    have hdl := digK_len m (by omega)
    obtain ⟨q, hq⟩ : ∃ q : ByteArray, q = ⟨(Lib.decDigits m).toArray⟩ := ⟨_, rfl⟩
    have hsz : q.size ≤ 2 := by rw [hq]; simpa [ByteArray.size] using hdl
    have hno : ¬ 9223372036854775807 < 1 + q.size := by omega
    have HE : Hid ((⟨(102 :: digK m).toArray⟩ : ByteArray) = ⟨#[102]⟩ ++ q) := Lib.hid (by rw [hq, show (⟨#[102]⟩ : ByteArray) = ⟨[102].toArray⟩ from rfl, cat_arr]; simp [digK])
    have HI := Lib.hid (fun w => sh_Itoa_small m (by omega) w)
    rw [← hq] at HI
    clear hT e hc hk hq hdl h3 h4
    go_enter Tryd.func42, Tryd.ntmps42
    go_wp2_with (go_at_call 58; refine (HI.out _).mono ?_; rintro e w' ⟨rfl, rfl⟩)
    go_ret
    exact ⟨by rw [HE.out]; rfl, kbel _ _⟩
set_option maxRecDepth 100000 in
set_option maxHeartbeats 8000000 in
theorem name_chk (k : Kv) (hk : k.s.length ≤ 100) (hc : chk k = true) (w : World) (hT : StrT w 2 nameT) :
    Calls Tryd.prog 13 #[.agg #[.int .i64 k.c, .string ⟨k.s.toArray⟩, .int .i64 k.n, .bool k.a, .bool k.h, .bool k.t]] w fun e w' => e = .returned (.string ⟨(nameF k).toArray⟩) ∧ Below w.heap.size w w' := by
  have hlen := baseF_len k hk hc
  have hck := check_any k hk
  rw [if_pos hc] at hck
  have HCK := Lib.hid hck
  have HQ := Lib.hid (fun W (hW : Below w.heap.size w W) => unmodified_any k hk hc W (hT.below (by decide) hW (Nat.le_refl _)))
  obtain ⟨N, hN⟩ : ∃ N : ByteArray, N = ⟨(baseF k).toArray⟩ := ⟨_, rfl⟩
  rw [← hN] at HQ
  have hNs : N.size ≤ 65600 := by rw [hN]; simpa [ByteArray.size] using hlen
  have HW : Hid (Below w.heap.size w (w.alloc (.cells #[.int .i64 k.c, .string ⟨k.s.toArray⟩, .int .i64 k.n, .bool k.a, .bool k.h, .bool k.t] 24))) := Lib.hid (kbel _ _)
  have HBK : Hid (Blk (w.alloc (.cells #[.int .i64 k.c, .string ⟨k.s.toArray⟩, .int .i64 k.n, .bool k.a, .bool k.h, .bool k.t] 24)) w.heap.size 24 k.cells) := Lib.hid (Blk.new w 24 k.cells)
  obtain ⟨R, hR⟩ : ∃ R : ByteArray, R = ⟨(nameF k).toArray⟩ := ⟨_, rfl⟩
  rw [← hR]
  rw [show nameF k = _ from if_pos hc] at hR
  have HE : Hid (R = ⟨((if k.a = true then [97, 108, 116, 45] else []) ++ ((if k.t = true then [99, 116, 108, 45] else []) ++ ((if k.h = true then [115, 104, 105, 102, 116, 45] else []) ++ baseF k))).toArray⟩) := Lib.hid hR
  have HN := Lib.hid hN
  clear hR hN hlen hT hk hck hc
  cases ha : k.a <;> cases hh : k.h <;> cases ht : k.t
  all_goals
    rw [ha, hh, ht] at HE
    have HF := Lib.hid ha
    have HG := Lib.hid hh
    have HJ := Lib.hid ht
    rw [ha, hh, ht] at HQ HW HBK HCK
    clear ha hh ht
    go_enter Tryd.func13, Tryd.ntmps13
    go_wp2_with (first
      | (go_at_call 11; refine (HCK.out _).mono ?_; rintro e w1 ⟨rfl, hb1⟩; have HB1 := Lib.hid (kstep HW.out hb1); have hk1 := HBK.out.below hb1 HBK.out.lt; have HK1 := Lib.hid hk1; have c0 : w1.cell? ⟨w.heap.size, 0, none⟩ = some (.int .i64 k.c) := hk1.cell 0; have c1 : w1.cell? ⟨w.heap.size, 1, none⟩ = some (.string ⟨k.s.toArray⟩) := hk1.cell 1; have c2 : w1.cell? ⟨w.heap.size, 2, none⟩ = some (.int .i64 k.n) := hk1.cell 2; have c3 := hk1.cell 3; have c4 := hk1.cell 4; have c5 := hk1.cell 5; simp only [Kv.cells, List.getElem?_cons_succ, List.getElem?_cons_zero, HF.out, HG.out, HJ.out] at c3 c4 c5; clear hb1 hk1)
      | (go_at_call 42; refine (HQ.out _ HB1.out).mono ?_; rintro e w2 ⟨rfl, hb2⟩; have HB2 := Lib.hid (kstep HB1.out hb2); have hk2 := HK1.out.below hb2 HK1.out.lt; clear c0 c1 c2 c3 c4 c5; have c3 := hk2.cell 3; have c4 := hk2.cell 4; have c5 := hk2.cell 5; simp only [Kv.cells, List.getElem?_cons_succ, List.getElem?_cons_zero, HF.out, HG.out, HJ.out] at c3 c4 c5; clear hb2 hk2))
    go_ret
    refine ⟨?_, HB2.out⟩
    rw [HE.out, HN.out]
    simp only [cat_arr]
    rfl
set_option maxRecDepth 100000 in
set_option maxHeartbeats 2000000 in
theorem name_any (k : Kv) (hk : k.s.length ≤ 100) (w : World) (hT : StrT w 2 nameT) :
    Calls Tryd.prog 13 #[.agg #[.int .i64 k.c, .string ⟨k.s.toArray⟩, .int .i64 k.n, .bool k.a, .bool k.h, .bool k.t]] w fun e w' => e = .returned (.string ⟨(nameF k).toArray⟩) ∧ Below w.heap.size w w' := by
  by_cases hc : chk k = true
  · exact name_chk k hk hc w hT
  · rw [show nameF k = [] from if_neg hc]
    have hck := check_any k hk
    rw [if_neg hc] at hck
    have HCK := Lib.hid hck
    have HB := Lib.hid (kbel w (.cells #[.int .i64 k.c, .string ⟨k.s.toArray⟩, .int .i64 k.n, .bool k.a, .bool k.h, .bool k.t] 24))
    clear hck hc hk hT
    go_enter Tryd.func13, Tryd.ntmps13
    go_wp2_with (go_at_call 11; refine (HCK.out _).mono ?_; rintro e w1 ⟨rfl, hb1⟩; have HB1 := Lib.hid (kstep HB.out hb1); clear hb1)
    go_ret
    exact ⟨rfl, HB1.out⟩
end Go.Proofs.YthlhfbchilfgcaaDoor
