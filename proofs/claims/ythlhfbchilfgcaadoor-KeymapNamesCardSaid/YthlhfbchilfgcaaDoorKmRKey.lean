/-
  Walks of the reference: Key; that it is the program's.
-/
import Derived.Test.YthlhfbchilfgcaaDoorKmRest
import Derived.Test.YthlhfbchilfgcaaDoorKmKey
namespace Go.Proofs.YthlhfbchilfgcaaDoor
open Go.RowKit Go.Sort
set_option linter.unusedVariables false
set_option linter.unusedSimpArgs false

theorem begV_pre (p u : List UInt8) : begV (p ++ u) p = (u, true) := by unfold begV; simp
theorem begV_true {s p : List UInt8} (h : (begV s p).2 = true) : s = p ++ (begV s p).1 := by
  unfold begV at h ⊢
  split at h
  · rename_i he
    rw [if_pos he]
    simp only
    conv => lhs; rw [← List.take_append_drop p.length s, he]
  · cases h
theorem begV_false {s p : List UInt8} (h : (begV s p).2 = false) : (begV s p).1 = s := by
  unfold begV at h ⊢
  split at h
  · cases h
  · rename_i he
    rw [if_neg he]
theorem begV_eq (s p : List UInt8) : s = (if (begV s p).2 = true then p else []) ++ (begV s p).1 := by
  cases h : (begV s p).2 with
  | true => rw [if_pos rfl]; exact begV_true h
  | false => rw [if_neg (by simp), begV_false h]; rfl
theorem named_spec {s : List UInt8} (h : namedK s ≠ 0) : namedK s < 17 ∧ nameT.getD (namedK s) [] = s := by
  unfold namedK at h ⊢
  cases hf : (List.range 17).find? (fun i => nameT.getD i [] == s) with
  | none => rw [hf] at h; exact absurd rfl h
  | some i =>
    obtain ⟨h1, h2, _⟩ := List.find?_range_eq_some.1 hf
    exact ⟨by simpa using h2, by simpa using h1⟩
theorem named_f (v : List UInt8) : namedK (102 :: v) = 0 := named_no (fun j hj e => by
  have h : ∀ j, j < 17 → (nameT.getD j []).head? ≠ some 102 := by decide
  exact h j hj (by rw [e]; rfl))
theorem digN_spec {m : Nat} {u : List UInt8} (h : digN m u ≠ 0) : Lib.decDigits (digN m u) = u ∧ digN m u < m := by
  induction m with
  | zero => exact absurd rfl h
  | succ m ih =>
    by_cases hd : 1 ≤ m ∧ Lib.decDigits m = u
    · rw [show digN (m + 1) u = m from if_pos hd]
      exact ⟨hd.2, by omega⟩
    · rw [show digN (m + 1) u = digN m u from if_neg hd] at h ⊢
      have := ih h
      exact ⟨this.1, by omega⟩
theorem atoi_dig : ∀ n : Nat, n < 13 → 1 ≤ n → atoiV (Lib.decDigits n) = n := by decide +kernel
theorem dig_dig : ∀ n : Nat, n < 13 → 1 ≤ n → digN 13 (Lib.decDigits n) = n := by decide +kernel

/-- what a name behind its modifiers is read as -/
def readC (a h t : Bool) (r : List UInt8) : Kv :=
  if (begV r [116, 101, 120, 116, 46]).2 = true then ⟨1, (begV r [116, 101, 120, 116, 46]).1, 0, a, h, t⟩
  else if (begV r [99, 116, 114, 108, 45]).2 = true then ⟨17, (begV r [99, 116, 114, 108, 45]).1, 0, a, h, t⟩
  else if namedK r ≠ 0 then ⟨namedK r, [], 0, a, h, t⟩
  else if (begV r [102]).2 = true then ⟨18, [], atoiV (begV r [102]).1, a, h, t⟩
  else ⟨0, [], 0, a, h, t⟩
theorem readC_flags (a h t : Bool) (r : List UInt8) : (readC a h t r).a = a ∧ (readC a h t r).h = h ∧ (readC a h t r).t = t := by
  unfold readC
  split
  · exact ⟨rfl, rfl, rfl⟩
  · split
    · exact ⟨rfl, rfl, rfl⟩
    · split
      · exact ⟨rfl, rfl, rfl⟩
      · split <;> exact ⟨rfl, rfl, rfl⟩
theorem tryC_words : ∀ i : Nat, i < 17 → 1 ≤ i → ∀ a h t : Bool, (i = 1 → a = false) → readC a h t (wordR.getD i []) = ⟨i, [], 0, a, h, t⟩ ∧ baseF ⟨i, [], 0, a, h, t⟩ = wordR.getD i [] := by decide +kernel
theorem tryC_sound {a h t : Bool} {r : List UInt8} {i : Nat} {K : Kv} (hi1 : 1 ≤ i) (hi : i ≤ 18) (hr : r.length ≤ 60) (hT : tryC a h t r i = some K) : K = readC a h t r ∧ chk K = true ∧ baseF K = r := by
  unfold tryC at hT
  simp only at hT
  split at hT
  · rename_i hv
    have hr0 := begV_true hv
    generalize (begV r (wordR.getD i [])).1 = v1 at hT hr0
    split at hT
    · rename_i hA
      obtain ⟨rfl, rfl⟩ := hA
      split at hT
      · rename_i hu
        have hv0 := begV_true hu
        generalize (begV v1 [46]).1 = u at hT hv0
        split at hT
        · rename_i hc
          obtain rfl := Option.some.inj hT
          subst hv0
          have e : r = [116, 101, 120, 116, 46] ++ u := hr0
          refine ⟨?_, hc, ?_⟩
          · unfold readC
            rw [e, begV_pre, if_pos rfl]
          · rw [e]; rfl
        · cases hT
      · cases hT
    · rename_i hA
      split at hT
      · rename_i hB
        subst hB
        split at hT
        · rename_i hc
          obtain rfl := Option.some.inj hT
          have e : r = [99, 116, 114, 108, 45] ++ v1 := hr0
          refine ⟨?_, hc, ?_⟩
          · unfold readC
            rw [e, begV_pre, if_neg (by simp [begV]), if_pos rfl]
          · rw [e]; rfl
        · cases hT
      · rename_i hB
        split at hT
        · rename_i hC
          subst hC
          split at hT
          · rename_i hc
            obtain rfl := Option.some.inj hT
            have e : r = [102] ++ v1 := hr0
            have hn : 1 ≤ digN 13 v1 := by
              rcases (chk_spec _ (by simp)).1 hc with h | h | h | h
              · simp only at h; omega
              · simp only at h; omega
              · simp only at h; omega
              · simp only at h; omega
            obtain ⟨h1, h2⟩ := digN_spec (m := 13) (u := v1) (by omega)
            refine ⟨?_, hc, ?_⟩
            · unfold readC
              rw [e, begV_pre, if_neg (by simp [begV]), if_neg (by simp [begV]), if_neg (by simp [named_f]), if_pos rfl]
              have := atoi_dig _ h2 hn
              rw [h1] at this
              simp only [this]
            · rw [e]
              show 102 :: Lib.decDigits ((digN 13 v1 : Nat) : Int).toNat = _
              rw [Int.toNat_natCast, h1]
              rfl
          · cases hT
        · rename_i hC
          split at hT
          · rename_i hv1
            split at hT
            · rename_i hc
              obtain rfl := Option.some.inj hT
              subst hv1
              have e : r = wordR.getD i [] := by simpa using hr0
              have := tryC_words i (by omega) hi1 a h t (fun h1 => by
                cases a
                · rfl
                · exact absurd ⟨h1, rfl⟩ hA)
              rw [← e] at this
              exact ⟨this.1.symm, hc, this.2⟩
            · cases hT
          · cases hT
  · cases hT
theorem tryC_full {a h t : Bool} {r : List UInt8} (hr : r.length ≤ 60) (hc : chk (readC a h t r) = true) (hb : baseF (readC a h t r) = r) : ∃ i, 1 ≤ i ∧ i ≤ 18 ∧ tryC a h t r i = some (readC a h t r) := by
  unfold readC at hc hb ⊢
  split at hc
  · rename_i h1
    rw [if_pos h1] at hb ⊢
    have e := begV_true h1
    generalize (begV r [116, 101, 120, 116, 46]).1 = u at hc hb e ⊢
    subst e
    cases a with
    | false =>
      have := congrArg List.length hb
      simp [baseF, baseN, nameT] at this
    | true =>
      refine ⟨1, by omega, by omega, ?_⟩
      have e1 : begV ([116, 101, 120, 116, 46] ++ u) (wordR.getD 1 []) = (46 :: u, true) := begV_pre [116, 101, 120, 116] (46 :: u)
      have e2 : begV (46 :: u) [46] = (u, true) := begV_pre [46] u
      unfold tryC
      simp only [e1, e2, hc]
      simp
  · rename_i h1
    rw [if_neg h1] at hb ⊢
    split at hc
    · rename_i h2
      rw [if_pos h2] at hb ⊢
      have e := begV_true h2
      generalize (begV r [99, 116, 114, 108, 45]).1 = u at hc hb e ⊢
      subst e
      refine ⟨17, by omega, by omega, ?_⟩
      have e1 : begV ([99, 116, 114, 108, 45] ++ u) (wordR.getD 17 []) = (u, true) := begV_pre [99, 116, 114, 108, 45] u
      unfold tryC
      simp only [e1, hc]
      simp
    · rename_i h2
      rw [if_neg h2] at hb ⊢
      split at hc
      · rename_i h3
        rw [if_pos h3] at hb ⊢
        obtain ⟨h4, h5⟩ := named_spec h3
        generalize namedK r = k at hc hb h3 h4 h5 ⊢
        have hw : wordR.getD k [] = r := by
          rw [← h5]
          have : ∀ k, k < 17 → wordR.getD k [] = nameT.getD k [] := by decide
          exact this k h4
        have e1 : begV r (wordR.getD k []) = ([], true) := by rw [hw]; have := begV_pre r []; rwa [List.append_nil] at this
        refine ⟨k, by omega, by omega, ?_⟩
        have hA : ¬ (k = 1 ∧ a = true) := by
          rintro ⟨rfl, rfl⟩
          rw [← h5] at hb
          have : ∀ h t : Bool, baseF ⟨((1 : Nat) : Int), [], 0, true, h, t⟩ ≠ nameT.getD 1 [] := by decide
          exact this h t hb
        unfold tryC
        simp only [e1, hc]
        rw [if_pos trivial, if_neg hA, if_neg (by omega), if_neg (by omega), if_pos trivial, if_pos trivial]
      · rename_i h3
        rw [if_neg h3] at hb ⊢
        split at hc
        · rename_i h4
          rw [if_pos h4] at hb ⊢
          have e := begV_true h4
          generalize (begV r [102]).1 = u at hc hb e ⊢
          subst e
          have hn : 1 ≤ atoiV u ∧ atoiV u ≤ 12 := by
            rcases (chk_spec _ (by simp)).1 hc with h | h | h | h
            · simp only at h; omega
            · simp only at h; omega
            · simp only at h; omega
            · simp only at h; omega
          obtain ⟨m, hm⟩ : ∃ m : Nat, atoiV u = m := ⟨(atoiV u).toNat, by omega⟩
          rw [hm] at hc hb ⊢
          have hb2 : Lib.decDigits m = u := by
            have : 102 :: Lib.decDigits ((m : Nat) : Int).toNat = 102 :: u := hb
            rw [Int.toNat_natCast] at this
            exact List.tail_eq_of_cons_eq this
          refine ⟨18, by omega, by omega, ?_⟩
          have e1 : begV ([102] ++ u) (wordR.getD 18 []) = (u, true) := begV_pre [102] u
          have e2 : digN 13 u = m := by rw [← hb2]; exact dig_dig m (by omega) (by omega)
          unfold tryC
          simp only [e1, e2, hc]
          simp
        · exfalso
          have : ∀ a h t : Bool, chk ⟨0, [], 0, a, h, t⟩ = false := by decide
          rw [this] at hc
          cases hc
theorem rest_same (s : List UInt8) (hs : s.length ≤ 60) (R : Kv × Int)
    (h : RestS (begV s [97, 108, 116, 45]).2 (begV (begV (begV s [97, 108, 116, 45]).1 [99, 116, 108, 45]).1 [115, 104, 105, 102, 116, 45]).2 (begV (begV s [97, 108, 116, 45]).1 [99, 116, 108, 45]).2 (begV (begV (begV s [97, 108, 116, 45]).1 [99, 116, 108, 45]).1 [115, 104, 105, 102, 116, 45]).1 R) : R = keyP s := by
  have hrd : readK s = readC (begV s [97, 108, 116, 45]).2 (begV (begV (begV s [97, 108, 116, 45]).1 [99, 116, 108, 45]).1 [115, 104, 105, 102, 116, 45]).2 (begV (begV s [97, 108, 116, 45]).1 [99, 116, 108, 45]).2 (begV (begV (begV s [97, 108, 116, 45]).1 [99, 116, 108, 45]).1 [115, 104, 105, 102, 116, 45]).1 := rfl
  have e1 := begV_eq s [97, 108, 116, 45]
  have l1 := begV_len s [97, 108, 116, 45]
  generalize begV s [97, 108, 116, 45] = v1 at h hrd e1 l1
  have e2 := begV_eq v1.1 [99, 116, 108, 45]
  have l2 := begV_len v1.1 [99, 116, 108, 45]
  generalize begV v1.1 [99, 116, 108, 45] = v2 at h hrd e2 l2
  have e3 := begV_eq v2.1 [115, 104, 105, 102, 116, 45]
  have l3 := begV_len v2.1 [115, 104, 105, 102, 116, 45]
  generalize begV v2.1 [115, 104, 105, 102, 116, 45] = v3 at h hrd e3 l3
  obtain ⟨s1, a⟩ := v1
  obtain ⟨s2, t⟩ := v2
  obtain ⟨r, g⟩ := v3
  simp only at h hrd e1 e2 e3 l1 l2 l3
  have hs3 : s = (if a = true then [97, 108, 116, 45] else []) ++ ((if t = true then [99, 116, 108, 45] else []) ++ ((if g = true then [115, 104, 105, 102, 116, 45] else []) ++ r)) := by rw [← e3, ← e2, ← e1]
  have hname : chk (readK s) = true → (nameF (readK s) = s ↔ baseF (readK s) = r) := fun hc => by
    obtain ⟨f1, f2, f3⟩ := readC_flags a g t r
    unfold nameF
    rw [if_pos hc]
    rw [hrd, f1, f2, f3]
    conv => lhs; rhs; rw [hs3]
    simp only [List.append_cancel_left_eq]
  unfold keyP
  rcases h with ⟨i, K, h1, h2, hT, rfl⟩ | ⟨hno, rfl⟩
  · obtain ⟨hK, hc, hb⟩ := tryC_sound h1 h2 (by omega) hT
    rw [← hrd] at hK
    subst hK
    rw [if_pos ⟨hc, (hname hc).2 hb⟩]
  · rw [if_neg]
    rintro ⟨hc, hn⟩
    have hb := (hname hc).1 hn
    rw [hrd] at hc hb
    obtain ⟨i, h1, h2, hT⟩ := tryC_full (by omega) hc hb
    rw [hno i h1 h2] at hT
    cases hT
set_option maxRecDepth 100000 in
set_option maxHeartbeats 8000000 in
theorem rkey_any (s : List UInt8) (hs : s.length ≤ 60) (w : World) :
    Calls Tryd.prog 10 #[.string ⟨s.toArray⟩] w fun e w' => e = .returned (.tuple #[(keyP s).1.agg, .int .i64 (keyP s).2]) ∧ Below w.heap.size w w' := by
  have HSAME := Lib.hid (rest_same s hs)
  obtain ⟨KP, hKP⟩ : ∃ KP, KP = keyP s := ⟨_, rfl⟩
  rw [← hKP] at HSAME ⊢
  have C1 := rbegins_any s [97, 108, 116, 45] (by omega) (by decide)
  have l1 := begV_len s [97, 108, 116, 45]
  generalize begV s [97, 108, 116, 45] = v1 at C1 l1 HSAME
  obtain ⟨s1, a⟩ := v1
  simp only at C1 l1 HSAME
  have C2 := rbegins_any s1 [99, 116, 108, 45] (by omega) (by decide)
  have l2 := begV_len s1 [99, 116, 108, 45]
  generalize begV s1 [99, 116, 108, 45] = v2 at C2 l2 HSAME
  obtain ⟨s2, t⟩ := v2
  simp only at C2 l2 HSAME
  have C3 := rbegins_any s2 [115, 104, 105, 102, 116, 45] (by omega) (by decide)
  have l3 := begV_len s2 [115, 104, 105, 102, 116, 45]
  generalize begV s2 [115, 104, 105, 102, 116, 45] = v3 at C3 l3 HSAME
  obtain ⟨s3, h⟩ := v3
  simp only at C3 l3 HSAME
  have HC1 := Lib.hid C1
  have HC2 := Lib.hid C2
  have HC3 := Lib.hid C3
  have HRS := Lib.hid (rest_any ⟨0, [], 0, a, h, t⟩ s3 (by omega))
  have t1 : True := trivial
  have t2 : True := trivial
  have HB2 := Lib.hid (fun o o' => ((kbel w o).alloc (by simp) o' : Below w.heap.size w ((w.alloc o).alloc o')))
  have HZ := Lib.hid (fun o => (Blk.new w 24 Kv.no.cells).alloc o)
  clear C1 C2 C3 l1 l2 l3 hs hKP
  go_enter Tryd.func10, Tryd.ntmps10
  go_upto_region 8 with (first
    | (go_at_call 37; have _t := t1; refine (HC1.out _).mono ?_; rintro e w' ⟨rfl, rfl⟩; clear _t t1)
    | (go_at_call 37; have _t := t2; refine (HC2.out _).mono ?_; rintro e w' ⟨rfl, rfl⟩; clear _t t2)
    | (go_at_call 37; refine (HC3.out _).mono ?_; rintro e w' ⟨rfl, rfl⟩))
  go_wp2_with (first
    | (go_at_call 38; refine (HRS.out _).mono ?_; rintro e w5 ⟨R, hR, rfl, hb5⟩; have HR := Lib.hid (HSAME.out R hR); have HB5 := Lib.hid (kstep (HB2.out _ _) hb5); have HZ5 := Lib.hid ((HZ.out _).below hb5 (HZ.out _).lt); clear hb5 hR)
    | ((with_reducible refine at_store 2 ?_); refine wpList_store_blk rfl _ _ _ rfl rfl w.heap.size 0 _ Kv.no.cells R.1.cells rfl rfl HZ5.out (by simp [Kv.len]) kv_size (Kv.one _) ?_; intro w9 hn9 hg9))
  exact bodyPost_ret (kresults_ct rfl rfl rfl (kwhole hn9) Tryd.underlying24 rfl kv_size) rfl ⟨by rw [← HR.out]; rfl, kfin (Nat.le_refl _) HB5.out hg9⟩
end Go.Proofs.YthlhfbchilfgcaaDoor
