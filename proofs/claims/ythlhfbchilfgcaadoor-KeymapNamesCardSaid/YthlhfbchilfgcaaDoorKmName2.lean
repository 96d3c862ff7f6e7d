/-
  Walks: unmodified, Name of valid keys (functions and pastes aside).
-/
import Derived.Test.YthlhfbchilfgcaaDoorKmName
namespace Go.Proofs.YthlhfbchilfgcaaDoor
open Go.RowKit
set_option linter.unusedVariables false
set_option linter.unusedSimpArgs false

theorem baseN_len (k : Kv) (hk : okN k) : (baseN k).length ≤ 65600 := by
  obtain ⟨_, hk⟩ := hk
  unfold baseN
  rcases hk with ⟨hc, hs⟩ | ⟨hc, b, hs, _⟩ | ⟨h1, h2, hs⟩
  · split
    · simp; omega
    · split
      · simp; omega
      · rw [hc]; decide
  · rw [if_neg (by rw [hc]; omega), if_pos hc, hs]; simp
  · rw [if_neg (by omega), if_neg (by omega)]
    have : ∀ m, m < 17 → (nameT.getD m []).length ≤ 65600 := by decide
    exact this _ (by omega)
set_option maxRecDepth 100000 in
set_option maxHeartbeats 4000000 in
theorem unmodified_yes (k : Kv) (hk : okN k) (w : World) (hT : StrT w 2 nameT) :
    Calls Tryd.prog 42 #[.agg #[.int .i64 k.c, .string ⟨k.s.toArray⟩, .int .i64 k.n, .bool k.a, .bool k.h, .bool k.t]] w fun e w' => e = .returned (.string ⟨(baseN k).toArray⟩) ∧ Below w.heap.size w w' := by
  have hk0 := hk
  obtain ⟨c, s, n, a, h, t⟩ := k
  obtain ⟨hn, hk⟩ := hk
  simp only at hn hk ⊢
  subst hn
  obtain ⟨R, hR⟩ : ∃ R : ByteArray, R = ⟨(baseN ⟨c, s, 0, a, h, t⟩).toArray⟩ := ⟨_, rfl⟩
  rw [← hR]
  have HR := Lib.hid hR
  clear hR hk0
  have hcat : c = 1 ∨ c = 17 ∨ (2 ≤ c ∧ c ≤ 15) := by
    rcases hk with ⟨rfl, _⟩ | ⟨rfl, _⟩ | ⟨h1, h2, _⟩
    · exact .inl rfl
    · exact .inr (.inl rfl)
    · exact .inr (.inr ⟨h1, h2⟩)
  have hs6 : s.length ≤ 65536 := by
    rcases hk with ⟨_, hs⟩ | ⟨_, b, rfl, _⟩ | ⟨_, _, rfl⟩
    · exact hs
    · simp
    · simp
  clear hk
  obtain ⟨q, hq⟩ : ∃ q : ByteArray, q = ⟨s.toArray⟩ := ⟨_, rfl⟩
  have hsz : q.size ≤ 65536 := by rw [hq]; simpa [ByteArray.size] using hs6
  have hno : ¬ 9223372036854775807 < 5 + q.size := by omega
  rw [← hq]
  have HQ := Lib.hid hq
  clear hq hs6
  have hx : ∀ i, i < 17 → w.cell? ⟨2, i, none⟩ = some (.string ⟨(nameT.getD i []).toArray⟩) := fun i hi => hT i hi
  rcases hcat with rfl | rfl | ⟨h1, h2⟩
  · cases a with
    | true =>
      have HE : Hid (R = ⟨#[116, 101, 120, 116, 46]⟩ ++ q) := Lib.hid (by rw [HR.out, HQ.out, show (⟨#[116, 101, 120, 116, 46]⟩ : ByteArray) = ⟨[116, 101, 120, 116, 46].toArray⟩ from rfl, cat_arr]; rfl)
      clear hx hT
      go_enter Tryd.func42, Tryd.ntmps42
      go_wp2_with (fail)
      go_ret
      exact ⟨by rw [HE.out]; rfl, kbel _ _⟩
    | false =>
      have HE : Hid (R = ⟨#[116, 101, 120, 116]⟩) := Lib.hid (by rw [HR.out]; rfl)
      have hx2 : (w.alloc (.cells #[.int .i64 1, .string q, .int .i64 0, .bool false, .bool h, .bool t] 24)).cell? ⟨2, 1, none⟩ = some (.string ⟨#[116, 101, 120, 116]⟩) := (World.cell?_alloc_old _ _ _ (Nat.ne_of_lt (cell_lt' (hx 1 (by omega))))).trans (hx 1 (by omega))
      clear hx hT
      go_enter Tryd.func42, Tryd.ntmps42
      go_wp2_with (fail)
      go_ret
      exact ⟨by rw [HE.out]; rfl, kbel _ _⟩
  · have HE : Hid (R = ⟨#[99, 116, 114, 108, 45]⟩ ++ q) := Lib.hid (by rw [HR.out, HQ.out, show (⟨#[99, 116, 114, 108, 45]⟩ : ByteArray) = ⟨[99, 116, 114, 108, 45].toArray⟩ from rfl, cat_arr]; rfl)
    clear hx hT
    go_enter Tryd.func42, Tryd.ntmps42
    go_wp2_with (fail)
    go_ret
    exact ⟨by rw [HE.out]; rfl, kbel _ _⟩
  · obtain ⟨i, rfl⟩ : ∃ i : Nat, c = i := ⟨c.toNat, by omega⟩
    obtain ⟨d, hd⟩ : ∃ d : ByteArray, d = ⟨(nameT.getD i []).toArray⟩ := ⟨_, rfl⟩
    have HE : Hid (R = d) := Lib.hid (by rw [HR.out, hd]; unfold baseN; rw [if_neg (by intro e; have := e.1; simp only at this; omega), if_neg (by simp only; omega)]; rfl)
    have hxi := hx i (by omega)
    rw [← hd] at hxi
    have hx2 : (w.alloc (.cells #[.int .i64 i, .string q, .int .i64 0, .bool a, .bool h, .bool t] 24)).cell? ⟨2, i, none⟩ = some (.string d) := (World.cell?_alloc_old _ _ _ (Nat.ne_of_lt (cell_lt' hxi))).trans hxi
    have e1 : ((i : Int) == 1) = false := by simp; omega
    have e2 : ((i : Int) == 17) = false := by simp; omega
    have e3 : ((i : Int) == 18) = false := by simp; omega
    have hi2 : (i : Int) < 17 := by omega
    clear hx hT hd hxi
    go_enter Tryd.func42, Tryd.ntmps42
    go_wp2_with (fail)
    go_ret
    exact ⟨by rw [HE.out]; rfl, kbel _ _⟩
set_option maxRecDepth 100000 in
set_option maxHeartbeats 8000000 in
theorem name_yes (k : Kv) (hk : okN k) (w : World) (hT : StrT w 2 nameT) :
    Calls Tryd.prog 13 #[.agg #[.int .i64 k.c, .string ⟨k.s.toArray⟩, .int .i64 k.n, .bool k.a, .bool k.h, .bool k.t]] w fun e w' => e = .returned (.string ⟨(nameK k).toArray⟩) ∧ Below w.heap.size w w' := by
  have hlen := baseN_len k hk
  have HCK := Lib.hid (check_yes k hk)
  have HQ := Lib.hid (fun W (hW : Below w.heap.size w W) => unmodified_yes k hk W (hT.below (by decide) hW (Nat.le_refl _)))
  obtain ⟨N, hN⟩ : ∃ N : ByteArray, N = ⟨(baseN k).toArray⟩ := ⟨_, rfl⟩
  rw [← hN] at HQ
  have hNs : N.size ≤ 65600 := by rw [hN]; simpa [ByteArray.size] using hlen
  have HW : Hid (Below w.heap.size w (w.alloc (.cells #[.int .i64 k.c, .string ⟨k.s.toArray⟩, .int .i64 k.n, .bool k.a, .bool k.h, .bool k.t] 24))) := Lib.hid (kbel _ _)
  have HBK : Hid (Blk (w.alloc (.cells #[.int .i64 k.c, .string ⟨k.s.toArray⟩, .int .i64 k.n, .bool k.a, .bool k.h, .bool k.t] 24)) w.heap.size 24 k.cells) := Lib.hid (Blk.new w 24 k.cells)
  obtain ⟨R, hR⟩ : ∃ R : ByteArray, R = ⟨(nameK k).toArray⟩ := ⟨_, rfl⟩
  rw [← hR]
  have HE : Hid (R = ⟨((if k.a = true then [97, 108, 116, 45] else []) ++ ((if k.t = true then [99, 116, 108, 45] else []) ++ ((if k.h = true then [115, 104, 105, 102, 116, 45] else []) ++ baseN k))).toArray⟩) := Lib.hid hR
  have HN := Lib.hid hN
  clear hR hN hlen hT hk
  cases ha : k.a <;> cases hh : k.h <;> cases ht : k.t
  all_goals
    rw [ha, hh, ht] at HE
    have HF := Lib.hid ha
    have HG := Lib.hid hh
    have HJ := Lib.hid ht
    rw [ha, hh, ht] at HQ HW HBK HCK
    clear ha hh ht
    go_enter Tryd.func13, Tryd.ntmps13
    go_wp2_with (first
      | (go_at_call 11; refine (HCK.out _).mono ?_; rintro e w1 ⟨rfl, hb1⟩; have HB1 := Lib.hid (kstep HW.out hb1); have hk1 := HBK.out.below hb1 HBK.out.lt; have HK1 := Lib.hid hk1; have c0 : w1.cell? ⟨w.heap.size, 0, none⟩ = some (.int .i64 k.c) := hk1.cell 0; have c1 : w1.cell? ⟨w.heap.size, 1, none⟩ = some (.string ⟨k.s.toArray⟩) := hk1.cell 1; have c2 : w1.cell? ⟨w.heap.size, 2, none⟩ = some (.int .i64 k.n) := hk1.cell 2; have c3 := hk1.cell 3; have c4 := hk1.cell 4; have c5 := hk1.cell 5; simp only [Kv.cells, List.getElem?_cons_succ, List.getElem?_cons_zero, HF.out, HG.out, HJ.out] at c3 c4 c5; clear hb1 hk1)
      | (go_at_call 42; refine (HQ.out _ HB1.out).mono ?_; rintro e w2 ⟨rfl, hb2⟩; have HB2 := Lib.hid (kstep HB1.out hb2); have hk2 := HK1.out.below hb2 HK1.out.lt; clear c0 c1 c2 c3 c4 c5; have c3 := hk2.cell 3; have c4 := hk2.cell 4; have c5 := hk2.cell 5; simp only [Kv.cells, List.getElem?_cons_succ, List.getElem?_cons_zero, HF.out, HG.out, HJ.out] at c3 c4 c5; clear hb2 hk2))
    go_ret
    refine ⟨?_, HB2.out⟩
    rw [HE.out, HN.out]
    simp only [cat_arr]
    rfl
end Go.Proofs.YthlhfbchilfgcaaDoor
