/-
  The key of a key's name, as plain mathematics.
-/
import Derived.Test.YthlhfbchilfgcaaDoorKmRKey
namespace Go.Proofs.YthlhfbchilfgcaaDoor
open Go.RowKit
set_option linter.unusedVariables false
set_option linter.unusedSimpArgs false

theorem base_cases (k : Kv) (hk : k.s.length ≤ 100) (hc : chk k = true) : (k.c = 1 ∧ k.a = true ∧ k.n = 0 ∧ baseF k = [116, 101, 120, 116, 46] ++ k.s) ∨ (∃ b, k.c = 17 ∧ k.n = 0 ∧ k.s = [b] ∧ isC8 b = true ∧ baseF k = [99, 116, 114, 108, 45] ++ [b]) ∨ (∃ m : Nat, k.c = 18 ∧ k.n = m ∧ 1 ≤ m ∧ m ≤ 12 ∧ baseF k = 102 :: Lib.decDigits m) ∨ (∃ i : Nat, 1 ≤ i ∧ i ≤ 16 ∧ (i = 1 → k.a = false) ∧ k.c = i ∧ k.n = 0 ∧ baseF k = wordR.getD i []) := by
  have hw : ∀ j, j < 17 → wordR.getD j [] = nameT.getD j [] := by decide
  rcases (chk_spec k hk).1 hc with ⟨h1, h2⟩ | ⟨h1, h2, h3⟩ | ⟨h1, h2, h3, h4⟩ | ⟨h1, h2, h3, h4⟩
  · rcases h1 with h1 | h1
    · by_cases ha : k.a = true
      · refine .inl ⟨h1, ha, h2, ?_⟩
        unfold baseF baseN
        rw [if_neg (by omega), if_pos ⟨h1, ha⟩]
      · refine .inr (.inr (.inr ⟨1, by omega, by omega, fun _ => by simpa using ha, h1, h2, ?_⟩))
        unfold baseF baseN
        rw [if_neg (by omega), if_neg (fun h => ha h.2), if_neg (by omega), h1]
        rfl
    · refine .inr (.inr (.inr ⟨16, by omega, by omega, fun h => by omega, h1, h2, ?_⟩))
      unfold baseF baseN
      rw [if_neg (by omega), if_neg (by omega), if_neg (by omega), h1]
      rfl
  · unfold ctrlV at h2
    split at h2
    · rename_i b hs
      refine .inr (.inl ⟨b, h1, h3, hs, h2, ?_⟩)
      unfold baseF baseN
      rw [if_neg (by omega), if_neg (by omega), if_pos h1, hs]
    · cases h2
  · refine .inr (.inr (.inl ⟨k.n.toNat, h1, by omega, by omega, by omega, ?_⟩))
    unfold baseF
    rw [if_pos h1]
    rfl
  · refine .inr (.inr (.inr ⟨k.c.toNat, by omega, by omega, fun h => by omega, by omega, h4, ?_⟩))
    unfold baseF baseN
    rw [if_neg (by omega), if_neg (by omega), if_neg (by omega), hw _ (by omega)]
/-- no name behind its modifiers begins as a modifier does -/
theorem base_no (k : Kv) (hk : k.s.length ≤ 100) (hc : chk k = true) : (begV (baseF k) [99, 116, 108, 45]).2 = false ∧ (begV (baseF k) [115, 104, 105, 102, 116, 45]).2 = false ∧ (begV (baseF k) [97, 108, 116, 45]).2 = false := by
  have hw : ∀ i : Nat, i < 17 → (begV (wordR.getD i []) [99, 116, 108, 45]).2 = false ∧ (begV (wordR.getD i []) [115, 104, 105, 102, 116, 45]).2 = false ∧ (begV (wordR.getD i []) [97, 108, 116, 45]).2 = false := by decide
  rcases base_cases k hk hc with ⟨_, _, _, e⟩ | ⟨b, _, _, _, _, e⟩ | ⟨m, _, _, _, _, e⟩ | ⟨i, h1, h2, _, _, _, e⟩
  · rw [e]; simp [begV]
  · rw [e]; simp [begV]
  · rw [e]; simp [begV]
  · rw [e]; exact hw i (by omega)
theorem begV_no (s p : List UInt8) (h : (begV s p).2 = false) : begV s p = (s, false) := Prod.ext (begV_false h) h
/-- a name's modifiers are read off -/
theorem begV_mod (f : Bool) (p r : List UInt8) (h : (begV r p).2 = false) : begV ((if f = true then p else []) ++ r) p = (r, f) := by
  cases f with
  | true => rw [if_pos rfl]; exact begV_pre p r
  | false => rw [if_neg (by simp), List.nil_append]; exact begV_no r p h
theorem key_back (k : Kv) (hk : k.s.length ≤ 40) (hc : chk k = true) :
    (keyP (nameF k)).2 = 0 ∧ nameF (keyP (nameF k)).1 = nameF k ∧ (keyP (nameF k)).1.c = k.c ∧ (keyP (nameF k)).1.a = k.a ∧ (keyP (nameF k)).1.h = k.h ∧ (keyP (nameF k)).1.t = k.t ∧ (keyP (nameF k)).1.n = k.n := by
  obtain ⟨n1, n2, n3⟩ := base_no k (by omega) hc
  have hnm : nameF k = (if k.a = true then [97, 108, 116, 45] else []) ++ ((if k.t = true then [99, 116, 108, 45] else []) ++ ((if k.h = true then [115, 104, 105, 102, 116, 45] else []) ++ baseF k)) := if_pos hc
  have m3 : begV ((if k.h = true then [115, 104, 105, 102, 116, 45] else []) ++ baseF k) [115, 104, 105, 102, 116, 45] = (baseF k, k.h) := begV_mod _ _ _ n2
  have m2 : begV ((if k.t = true then [99, 116, 108, 45] else []) ++ ((if k.h = true then [115, 104, 105, 102, 116, 45] else []) ++ baseF k)) [99, 116, 108, 45] = ((if k.h = true then [115, 104, 105, 102, 116, 45] else []) ++ baseF k, k.t) := begV_mod _ _ _ (by
    cases k.h with
    | true => simp [begV]
    | false => simpa using n1)
  have m1 : begV (nameF k) [97, 108, 116, 45] = ((if k.t = true then [99, 116, 108, 45] else []) ++ ((if k.h = true then [115, 104, 105, 102, 116, 45] else []) ++ baseF k), k.a) := by
    rw [hnm]
    exact begV_mod _ _ _ (by
      cases k.t with
      | true => simp [begV]
      | false =>
        cases k.h with
        | true => simp [begV]
        | false => simpa using n3)
  have hrd : readK (nameF k) = readC k.a k.h k.t (baseF k) := by
    show readC (begV (nameF k) [97, 108, 116, 45]).2 (begV (begV (begV (nameF k) [97, 108, 116, 45]).1 [99, 116, 108, 45]).1 [115, 104, 105, 102, 116, 45]).2 (begV (begV (nameF k) [97, 108, 116, 45]).1 [99, 116, 108, 45]).2 (begV (begV (begV (nameF k) [97, 108, 116, 45]).1 [99, 116, 108, 45]).1 [115, 104, 105, 102, 116, 45]).1 = _
    rw [m1]
    simp only
    rw [m2]
    simp only
    rw [m3]
  have hX : (readC k.a k.h k.t (baseF k)).c = k.c ∧ (readC k.a k.h k.t (baseF k)).n = k.n ∧ chk (readC k.a k.h k.t (baseF k)) = true ∧ baseF (readC k.a k.h k.t (baseF k)) = baseF k := by
    rcases base_cases k (by omega) hc with ⟨h1, h2, h3, e⟩ | ⟨b, h1, h2, h3, h4, e⟩ | ⟨m, h1, h2, h3, h4, e⟩ | ⟨i, h1, h2, h3, h4, h5, e⟩
    · have : readC k.a k.h k.t (baseF k) = ⟨1, k.s, 0, k.a, k.h, k.t⟩ := by
        unfold readC
        rw [e, begV_pre, if_pos rfl]
      rw [this]
      refine ⟨h1.symm, h3.symm, (chk_spec _ (by show k.s.length ≤ 100; omega)).2 (.inl ⟨.inl rfl, rfl⟩), ?_⟩
      rw [e, h2]
      rfl
    · have : readC k.a k.h k.t (baseF k) = ⟨17, [b], 0, k.a, k.h, k.t⟩ := by
        unfold readC
        rw [e, begV_pre, if_neg (by simp [begV]), if_pos rfl]
      rw [this]
      refine ⟨h1.symm, h2.symm, (chk_spec _ (by simp)).2 (.inr (.inl ⟨rfl, h4, rfl⟩)), ?_⟩
      rw [e]
      rfl
    · have e0 : baseF k = [102] ++ Lib.decDigits m := e
      have : readC k.a k.h k.t (baseF k) = ⟨18, [], m, k.a, k.h, k.t⟩ := by
        unfold readC
        rw [e0, begV_pre, if_neg (by simp [begV]), if_neg (by simp [begV]), if_neg (by simp [named_f]), if_pos rfl]
        rw [atoi_dig m (by omega) h3]
      rw [this]
      refine ⟨h1.symm, h2.symm, (chk_spec _ (by simp)).2 (.inr (.inr (.inl ⟨rfl, rfl, by simp only; omega, by simp only; omega⟩))), ?_⟩
      rw [e]
      show 102 :: Lib.decDigits ((m : Nat) : Int).toNat = _
      rw [Int.toNat_natCast]
    · have := tryC_words i (by omega) h1 k.a k.h k.t h3
      rw [← e] at this
      rw [this.1]
      refine ⟨h4.symm, h5.symm, (chk_spec _ (by simp)).2 ?_, this.2⟩
      simp only
      by_cases hi : i = 1 ∨ i = 16
      · exact .inl ⟨by omega, trivial⟩
      · exact .inr (.inr (.inr ⟨by omega, by omega, trivial, trivial⟩))
  obtain ⟨f1, f2, f3⟩ := readC_flags k.a k.h k.t (baseF k)
  have hnf : nameF (readK (nameF k)) = nameF k := by
    rw [hrd]
    conv => lhs; unfold nameF
    rw [if_pos hX.2.2.1, f1, f2, f3, hX.2.2.2, hnm]
  have hkp : keyP (nameF k) = (readK (nameF k), 0) := by
    unfold keyP
    rw [if_pos ⟨by rw [hrd]; exact hX.2.2.1, hnf⟩]
  rw [hkp]
  refine ⟨rfl, hnf, ?_, ?_, ?_, ?_, ?_⟩
  · show (readK (nameF k)).c = k.c; rw [hrd]; exact hX.1
  · show (readK (nameF k)).a = k.a; rw [hrd]; exact f1
  · show (readK (nameF k)).h = k.h; rw [hrd]; exact f2
  · show (readK (nameF k)).t = k.t; rw [hrd]; exact f3
  · show (readK (nameF k)).n = k.n; rw [hrd]; exact hX.2.1
theorem nameF_len (k : Kv) (hk : k.s.length ≤ 40) : (nameF k).length ≤ 60 := by
  by_cases hc : chk k = true
  · rw [show nameF k = _ from if_pos hc]
    have hb : (baseF k).length ≤ 45 := by
      have hw : ∀ j, j < 17 → (wordR.getD j []).length ≤ 45 := by decide
      rcases base_cases k (by omega) hc with ⟨_, _, _, e⟩ | ⟨b, _, _, _, _, e⟩ | ⟨m, _, _, _, h4, e⟩ | ⟨i, h1, h2, _, _, _, e⟩
      · rw [e]; simp; omega
      · rw [e]; simp
      · rw [e]; have := digK_len m (by omega); simp; omega
      · rw [e]; exact hw i (by omega)
    cases k.a <;> cases k.t <;> cases k.h <;> simp <;> omega
  · rw [show nameF k = [] from if_neg hc]; simp
set_option maxRecDepth 100000 in
set_option maxHeartbeats 4000000 in
theorem rname_any (k : Kv) (hk : k.s.length ≤ 100) (w : World) :
    Calls Tryd.prog 14 #[.agg #[.int .i64 k.c, .string ⟨k.s.toArray⟩, .int .i64 k.n, .bool k.a, .bool k.h, .bool k.t]] w fun e w' => e = .returned (.string ⟨(nameF k).toArray⟩) ∧ Below w.heap.size w w' := by
  by_cases hc : chk k = true
  · have hnm : nameF k = (if k.a = true then [97, 108, 116, 45] else []) ++ ((if k.t = true then [99, 116, 108, 45] else []) ++ ((if k.h = true then [115, 104, 105, 102, 116, 45] else []) ++ baseF k)) := if_pos hc
    rw [hnm]
    rcases base_cases k hk hc with ⟨h1, h2, h3, e⟩ | ⟨b, h1, h2, h3, h4, e⟩ | ⟨m, h1, h2, h3, h4, e⟩ | ⟨i, h1, h2, h3, h4, h5, e⟩
    · rw [e]
      obtain ⟨c, s, n, a, h, t⟩ := k
      simp only at h1 h2 hk ⊢
      subst h1 h2
      exact rname_A s n h t hk w hc
    · rw [e, ← h3]
      obtain ⟨c, s, n, a, h, t⟩ := k
      simp only at h1 hk ⊢
      subst h1
      exact rname_C s n a h t hk w hc
    · rw [e]
      obtain ⟨c, s, n, a, h, t⟩ := k
      simp only at h1 h2 hk ⊢
      subst h1 h2
      exact rname_E m s a h t hk h3 h4 w hc
    · rw [e]
      obtain ⟨c, s, n, a, h, t⟩ := k
      simp only at h3 h4 hk ⊢
      subst h4
      by_cases hi : i = 1
      · subst hi
        obtain rfl := h3 rfl
        exact rname_B s n h t hk w hc
      · exact rname_D i s n a h t hk (by omega) h2 w hc
  · rw [show nameF k = [] from if_neg hc]
    have hck := rcheck_any k hk
    rw [if_neg hc] at hck
    have HCK := Lib.hid hck
    have HB := Lib.hid (kbel w (.cells #[.int .i64 k.c, .string ⟨k.s.toArray⟩, .int .i64 k.n, .bool k.a, .bool k.h, .bool k.t] 24))
    clear hck hc hk
    go_enter Tryd.func14, Tryd.ntmps14
    go_wp2_with (go_at_call 12; refine (HCK.out _).mono ?_; rintro e w1 ⟨rfl, hb1⟩; have HB1 := Lib.hid (kstep HB.out hb1); clear hb1)
    go_ret
    exact ⟨rfl, HB1.out⟩
end Go.Proofs.YthlhfbchilfgcaaDoor
