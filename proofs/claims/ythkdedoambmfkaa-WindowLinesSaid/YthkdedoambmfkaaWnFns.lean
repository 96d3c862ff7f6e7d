/-
  Walks: the small functions of window and of the document's window.
-/
import Derived.Test.YthkdedoambmfkaaWnMath
import Derived.Test.YthkdedoambmfkaaGwA
import Derived.Test.YthkdedoambmfkaaQuietB
import Derived.Deep.QuietTactic
import Derived.BigQuiet
import Derived.IntWalk
namespace Go.Proofs.Ythkdedoambmfkaa
open Go.RowKit
set_option linter.unusedVariables false
set_option linter.unusedSimpArgs false
set_option maxRecDepth 100000

/-- ints as cells -/
def zi (l : List Int) : List Value := l.map (Value.int .i64)
theorem zi_length (l : List Int) : (zi l).length = l.length := by simp [zi]
theorem zi_at {w : World} {B : Nat} {A : Option Addr} {L : List Int} (h : Sl w B A (zi L)) {k : Nat} {x : Int} (hk : L[k]? = some x) : ∃ b off, A = some ⟨b, off, none⟩ ∧ b < B ∧ w.cell? ⟨b, off + k, none⟩ = some (.int .i64 x) := by
  have hlt := (List.getElem?_eq_some_iff.1 hk).1
  obtain ⟨b, off, hA, hb, hc⟩ := h.open_ (by rw [zi_length]; omega)
  exact ⟨b, off, hA, hb, hc k _ (by simp [zi, hk])⟩

theorem columns_any (x : Int) (w : World) : Calls Try.prog 22 #[.int .i64 x] w fun e w' => e = .returned (.int .i64 (wd x)) ∧ w = w' := by
  by_cases h : x = 2
  · subst h
    go_enter Try.func22, Try.ntmps22
    go_wp2
    go_ret
    exact ⟨rfl, rfl⟩
  · have e : wd x = 1 := by unfold wd; rw [if_neg h]
    rw [e]
    clear e
    have h1 : (x == 2) = false := by simpa using h
    clear h
    go_enter Try.func22, Try.ntmps22
    go_wp2
    go_ret
    exact ⟨rfl, rfl⟩
theorem rwide_any (x : Int) (w : World) : Calls Try.prog 25 #[.int .i64 x] w fun e w' => e = .returned (.int .i64 (wd x)) ∧ w = w' := by
  by_cases h : x = 2
  · subst h
    go_enter Try.func25, Try.ntmps25
    go_wp2
    go_ret
    exact ⟨rfl, rfl⟩
  · have e : wd x = 1 := by unfold wd; rw [if_neg h]
    rw [e]
    clear e
    have h1 : (x == 2) = false := by simpa using h
    clear h
    go_enter Try.func25, Try.ntmps25
    go_wp2
    go_ret
    exact ⟨rfl, rfl⟩
theorem wclamp_any (n lo hi : Int) (w : World) : Calls Try.prog 10 #[.int .i64 n, .int .i64 lo, .int .i64 hi] w fun e w' => e = .returned (.int .i64 (min (max n lo) hi)) ∧ w = w' := by
  go_enter Try.func10, Try.ntmps10
  go_wp2
  all_goals
    go_ret
    exact ⟨ret_int (by omega), rfl⟩
theorem wclamp_len (n : Int) (m : Nat) (w : World) : Calls Try.prog 10 #[.int .i64 n, .int .i64 0, .int .i64 m] w fun e w' => e = .returned (.int .i64 (clampN n m)) ∧ w = w' :=
  (wclamp_any n 0 m w).mono (by rintro e w' ⟨rfl, rfl⟩; exact ⟨ret_int (by unfold clampN; omega), rfl⟩)
theorem rat_any (n : Int) (A : Option Addr) (m c : Nat) (w : World) : Calls Try.prog 15 #[.int .i64 n, .slice A m c] w fun e w' => e = .returned (.int .i64 (clampN n m)) ∧ w = w' := by
  have e : (clampN n m : Int) = max 0 (min n m) := by unfold clampN; omega
  rw [e]
  clear e
  go_enter Try.func15, Try.ntmps15
  go_wp2
  all_goals
    go_ret
    exact ⟨ret_int (by omega), rfl⟩
theorem tkW_some {L : List Int} {c : Nat} {x : Int} (h : L[c]? = some x) : tkW L c = wd x := by unfold tkW; rw [h]
theorem tkW_end {L : List Int} : tkW L L.length = 1 := by unfold tkW; rw [List.getElem?_eq_none (Nat.le_refl _)]
set_option maxHeartbeats 1000000 in
theorem wat_any (k : Nat) (L : List Int) (A : Option Addr) (n c : Nat) (w : World) (hn : n = L.length) (hk : k ≤ n) (hS : Sl w w.heap.size A (zi L)) :
    Calls Try.prog 12 #[.int .i64 k, .slice A n c] w fun e w' => e = .returned (.int .i64 (tkW L k)) ∧ w = w' := by
  by_cases h : k = n
  · subst h
    subst hn
    rw [tkW_end]
    clear hS
    go_enter Try.func12, Try.ntmps12
    go_wp2
    go_ret
    exact ⟨rfl, rfl⟩
  · have hlt : k < L.length := by omega
    obtain ⟨x, hx⟩ : ∃ x, L[k]? = some x := ⟨_, List.getElem?_eq_getElem hlt⟩
    obtain ⟨b, off, rfl, hb, hc⟩ := zi_at hS hx
    rw [tkW_some hx]
    have h1 : ((k : Int) == (n : Int)) = false := by simp; omega
    have h2 : (k : Int) < n := by omega
    clear hx hS hn h hlt
    go_enter Try.func12, Try.ntmps12
    go_wp2_with (refine (columns_any _ _).mono ?_; rintro e w' ⟨rfl, rfl⟩)
    go_ret
    exact ⟨rfl, rfl⟩
set_option maxHeartbeats 1000000 in
theorem rtakes_any (k : Nat) (L : List Int) (A : Option Addr) (n c : Nat) (w : World) (hn : n = L.length) (hk : k ≤ n) (hS : Sl w w.heap.size A (zi L)) :
    Calls Try.prog 17 #[.int .i64 k, .slice A n c] w fun e w' => e = .returned (.int .i64 (tkW L k)) ∧ w = w' := by
  by_cases h : k = n
  · subst h
    subst hn
    rw [tkW_end]
    clear hS
    go_enter Try.func17, Try.ntmps17
    go_wp2
    go_ret
    exact ⟨rfl, rfl⟩
  · have hlt : k < L.length := by omega
    obtain ⟨x, hx⟩ : ∃ x, L[k]? = some x := ⟨_, List.getElem?_eq_getElem hlt⟩
    obtain ⟨b, off, rfl, hb, hc⟩ := zi_at hS hx
    rw [tkW_some hx]
    have h2 : (k : Int) < n := by omega
    clear hx hS hn h hlt
    go_enter Try.func17, Try.ntmps17
    go_wp2_with (refine (rwide_any _ _).mono ?_; rintro e w' ⟨rfl, rfl⟩)
    go_ret
    exact ⟨rfl, rfl⟩
/-- the first loop of sum -/
theorem smR_step {L : List Int} {i j : Nat} {x : Int} (h : i ≤ j) (hx : L[j]? = some x) : smR L i (j + 1) = smR L i j + wd x := by
  have hj := (List.getElem?_eq_some_iff.1 hx).1
  rw [smR_succ L i j h hj]
  rw [List.getElem?_eq_getElem hj] at hx
  injection hx with hx
  rw [hx]
set_option maxHeartbeats 1000000 in
theorem rsum_any (i j : Nat) (L : List Int) (A : Option Addr) (n c : Nat) (w : World) (hn : n = L.length) (h4 : n ≤ 1000) (hi : i ≤ j) (hj : j ≤ n) (hS : Sl w w.heap.size A (zi L)) :
    Calls Try.prog 16 #[.slice A n c, .int .i64 i, .int .i64 j] w fun e w' => e = .returned (.int .i64 (smR L i j)) ∧ w = w' := by
  have HS := Lib.hid hS
  have HN := Lib.hid hn
  clear hS hn
  go_enter Try.func16, Try.ntmps16
  go_wp2_with (fail)
  go_loop [7, 8] (fun a b => ∃ k : Nat, i ≤ k ∧ k ≤ j ∧ b = .int .i64 k ∧ a = .int .i64 (smR L i k)) (fun _ b => j - (intOf b).toNat)
  case atStart => exact ⟨i, Nat.le_refl _, hi, rfl, by rw [smR_self]⟩
  case round =>
    obtain ⟨k, hk1, hk2, rfl, rfl⟩ := hrel
    have hbd := smR_bd L i k
    rw [← HN.out] at hbd
    by_cases hlt : k < j
    · obtain ⟨x, hx⟩ : ∃ x, L[k]? = some x := ⟨_, List.getElem?_eq_getElem (by have := HN.out; omega)⟩
      obtain ⟨b, off, rfl, hb, hc⟩ := zi_at HS.out hx
      have hkj : (k : Int) < j := by omega
      have hkn : (k : Int) < n := by omega
      have hwd := wd_ge x
      have HST := Lib.hid (smR_step hk1 hx)
      clear hx
      go_wp2_with (refine (rwide_any _ _).mono ?_; rintro e w' ⟨rfl, rfl⟩)
      go_round
      case rel => exact ⟨k + 1, by omega, by omega, by go_num, by rw [HST.out]⟩
      case measure => simp [intOf]; omega
    · have e : k = j := by omega
      subst e
      go_wp2_with (fail)
      go_ret
      exact ⟨rfl, rfl⟩
theorem sm_snoc {L : List Int} {k : Nat} {x : Int} (hx : L[k]? = some x) : sm (L.take (k + 1)) = sm (L.take k) + wd x := by
  have hj := (List.getElem?_eq_some_iff.1 hx).1
  rw [List.getElem?_eq_getElem hj] at hx
  injection hx with hx
  rw [List.take_succ_eq_append_getElem hj, sm_append, hx]
  simp [sm]
set_option maxHeartbeats 1000000 in
theorem wsum_any (L : List Int) (A : Option Addr) (n c : Nat) (w : World) (hn : n = L.length) (h4 : n ≤ 1000) (hS : Sl w w.heap.size A (zi L)) :
    Calls Try.prog 18 #[.slice A n c] w fun e w' => e = .returned (.int .i64 (sm L)) ∧ w = w' := by
  have HS := Lib.hid hS
  have HN := Lib.hid hn
  clear hS hn
  go_enter Try.func18, Try.ntmps18
  go_wp2_with (fail)
  go_loop [3, 8] (fun a b => ∃ k : Nat, k ≤ n ∧ b = .int .i64 k ∧ a = .int .i64 (sm (L.take k))) (fun _ b => n - (intOf b).toNat)
  case atStart => exact ⟨0, by omega, rfl, rfl⟩
  case round =>
    obtain ⟨k, hk2, rfl, rfl⟩ := hrel
    have hbd := sm_bd (L.take k)
    have hbl : (L.take k).length ≤ 1000 := by have := List.length_take_le k L; omega
    by_cases hlt : k < n
    · obtain ⟨x, hx⟩ : ∃ x, L[k]? = some x := ⟨_, List.getElem?_eq_getElem (by have := HN.out; omega)⟩
      obtain ⟨b, off, rfl, hb, hc⟩ := zi_at HS.out hx
      have hkn : (k : Int) < n := by omega
      have hwd := wd_ge x
      have HST := Lib.hid (sm_snoc hx)
      clear hx
      go_wp2_with (refine (columns_any _ _).mono ?_; rintro e w' ⟨rfl, rfl⟩)
      go_round
      case rel => exact ⟨k + 1, by omega, by go_num, by rw [HST.out]⟩
      case measure => simp [intOf]; omega
    · have e : k = n := by omega
      subst e
      have hkn : ¬ (k : Int) < k := by omega
      go_wp2_with (fail)
      go_ret
      exact ⟨ret_int (by rw [List.take_of_length_le (by rw [← HN.out]; omega)]), rfl⟩
/-- the widths from one place to another, as they are added up by sum -/
theorem few_any (A : Option Addr) (n c : Nat) (w : World) (hnc : n ≤ c) (hcm : c ≤ maxLen) (h0 : A = none → c = 0) :
    Calls Try.prog 4 #[.slice A n c] w fun e w' => e = .returned (.slice A (min n 200) c) ∧ w = w' := by
  unfold maxLen at hcm
  obtain ⟨m, hm⟩ : ∃ m : Nat, m = min n 200 := ⟨_, rfl⟩
  have e : (min (n : Int) 200) = (m : Int) := by omega
  have hmc : (m : Int) ≤ c := by omega
  rw [← hm]
  clear hm
  cases A with
  | none =>
    have hc0 := h0 rfl
    subst hc0
    have hn0 : n = 0 := by omega
    subst hn0
    clear h0
    go_enter Try.func4, Try.ntmps4
    go_wp2
    obtain rfl : m = 0 := by omega
    go_ret
    exact ⟨rfl, rfl⟩
  | some a =>
    clear h0
    by_cases h2 : n ≤ 200
    · have hx : m = n := by omega
      subst hx
      have h3 : (m : Int) ≤ 200 := by omega
      go_enter Try.func4, Try.ntmps4
      go_wp2
      go_ret
      exact ⟨rfl, rfl⟩
    · have hx : m = 200 := by omega
      subst hx
      have h3 : ¬ (n : Int) ≤ 200 := by omega
      go_enter Try.func4, Try.ntmps4
      go_wp2
      go_ret
      exact ⟨rfl, rfl⟩
end Go.Proofs.Ythkdedoambmfkaa
