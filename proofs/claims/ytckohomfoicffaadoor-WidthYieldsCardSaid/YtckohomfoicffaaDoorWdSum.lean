/-
  Walks: Sum and Fit, the program's and the reference's.
-/
import Derived.Test.YtckohomfoicffaaDoorWdRef
import Derived.Test.YtckohomfoicffaaDoorWdSumM
namespace Go.Proofs.YtckohomfoicffaaDoor
open Go.RowKit Go.Shelf
set_option linter.unusedVariables false

theorem ret_ii {a b c d : Int} (h : a = c) (g : b = d) : Ending.returned (.tuple #[.int .i64 a, .int .i64 b]) = .returned (.tuple #[.int .i64 c, .int .i64 d]) := by rw [h, g]
def iv (l : List Int) : List Value := l.map (Value.int .i32)
theorem iv_get {l : List Int} {k : Nat} (h : k < l.length) : (iv l)[k]? = some (.int .i32 l[k]) := by simp [iv, h]
theorem iv_length (l : List Int) : (iv l).length = l.length := by simp [iv]
theorem iv_take (l : List Int) (k : Nat) : (iv l).take k = iv (l.take k) := by simp [iv, List.map_take]

set_option maxRecDepth 100000 in
set_option maxHeartbeats 1000000 in
theorem sum_any (A : Option Addr) (cap : Nat) (xs : List Int) (B : Nat) (w : World) (hm : xs.length ≤ 1000) (hS : Sl w B A (iv xs)) (hB : B ≤ w.heap.size) (hT : Tabs w) :
    Calls Tryd.prog 21 #[.slice A xs.length cap] w fun e w' => e = .returned (.int .i64 (sumW xs)) ∧ Below w.heap.size w w' := by
  rcases hS with h | ⟨b, off, rfl, hb, hc⟩
  · obtain rfl : xs = [] := List.length_eq_zero_iff.1 (by rw [← iv_length, h]; rfl)
    go_enter Tryd.func21, Tryd.ntmps21
    go_wp2
    go_loop [3, 8] (fun s i => s = .int .i64 0 ∧ i = .int .i64 0) (fun _ _ => 0)
    case atStart => exact ⟨rfl, rfl⟩
    case round =>
      obtain ⟨rfl, rfl⟩ := hrel
      go_wp2
      go_ret
      exact ⟨rfl, Below.refl _ _⟩
  · generalize hn : xs.length = n at hm ⊢
    have HN := Lib.hid hn
    have HC := Lib.hid hc
    clear hn hc
    go_enter Tryd.func21, Tryd.ntmps21
    go_wp2
    go_loopw [3, 8] (fun s i wr => ∃ k : Nat, k ≤ n ∧ i = .int .i64 k ∧ s = .int .i64 (sumW (xs.take k)) ∧ Below w.heap.size w wr) (fun _ i _ => n - (intOf i).toNat)
    case atStart => exact ⟨0, by omega, rfl, rfl, Below.refl _ _⟩
    case round =>
      obtain ⟨k, hk, rfl, rfl, hbw⟩ := hrel
      have hbd := sumW_bd (xs.take k)
      have hlk : (xs.take k).length ≤ k := List.length_take_le _ _
      by_cases hlt : k < n
      · have hst := sumW_take xs k (by have := HN.out; omega)
        have hcell : wr.cell? ⟨b, off + k, none⟩ = some (.int .i32 (xs[k]'(by have := HN.out; omega))) := (hbw.cell (p := ⟨b, off + k, none⟩) (by show b < _; omega)).trans (HC.out k _ (iv_get (by have := HN.out; omega)))
        have hTr := hT.below hbw
        generalize xs[k]'(by have := HN.out; omega) = x at hst hcell
        generalize sumW (xs.take k) = s at hst hbd ⊢
        have HST := Lib.hid hst
        clear hst
        have hox := ofI_01 x
        have hkn : (k : Int) < n := by omega
        go_wp2_with (go_at_call 7; refine (of_any x wr hTr).mono ?_; rintro e w2 ⟨rfl, hb2⟩)
        go_roundw
        case rel => exact ⟨k + 1, by omega, by go_num, by rw [HST.out], hbw.trans (hb2.mono hbw.size)⟩
        case measure => simp [intOf]; omega
      · have hkn : ¬ (k : Int) < n := by omega
        rw [show xs.take k = xs from List.take_of_length_le (by have := HN.out; omega)]
        go_wp2
        go_ret
        exact ⟨rfl, hbw⟩
set_option maxRecDepth 100000 in
set_option maxHeartbeats 1000000 in
theorem rsum_any (A : Option Addr) (cap : Nat) (xs : List Int) (B : Nat) (w : World) (hm : xs.length ≤ 1000) (hS : Sl w B A (iv xs)) (hB : B ≤ w.heap.size) :
    Calls Tryd.prog 22 #[.slice A xs.length cap] w fun e w' => e = .returned (.int .i64 (sumW xs)) ∧ Below w.heap.size w w' := by
  rcases hS with h | ⟨b, off, rfl, hb, hc⟩
  · obtain rfl : xs = [] := List.length_eq_zero_iff.1 (by rw [← iv_length, h]; rfl)
    go_enter Tryd.func22, Tryd.ntmps22
    go_wp2
    go_loop [3, 4] (fun s i => s = .int .i64 0 ∧ i = .int .i64 0) (fun _ _ => 0)
    case atStart => exact ⟨rfl, rfl⟩
    case round =>
      obtain ⟨rfl, rfl⟩ := hrel
      go_wp2
      go_ret
      exact ⟨rfl, Below.refl _ _⟩
  · generalize hn : xs.length = n at hm ⊢
    have HN := Lib.hid hn
    have HC := Lib.hid hc
    clear hn hc
    go_enter Tryd.func22, Tryd.ntmps22
    go_wp2
    go_loopw [3, 4] (fun s i wr => ∃ k : Nat, k ≤ n ∧ i = .int .i64 k ∧ s = .int .i64 (sumW (xs.take k)) ∧ Below w.heap.size w wr) (fun _ i _ => n - (intOf i).toNat)
    case atStart => exact ⟨0, by omega, rfl, rfl, Below.refl _ _⟩
    case round =>
      obtain ⟨k, hk, rfl, rfl, hbw⟩ := hrel
      have hbd := sumW_bd (xs.take k)
      have hlk : (xs.take k).length ≤ k := List.length_take_le _ _
      by_cases hlt : k < n
      · have hst := sumW_take xs k (by have := HN.out; omega)
        have hcell : wr.cell? ⟨b, off + k, none⟩ = some (.int .i32 (xs[k]'(by have := HN.out; omega))) := (hbw.cell (p := ⟨b, off + k, none⟩) (by show b < _; omega)).trans (HC.out k _ (iv_get (by have := HN.out; omega)))
        generalize xs[k]'(by have := HN.out; omega) = x at hst hcell
        generalize sumW (xs.take k) = s at hst hbd ⊢
        have HST := Lib.hid hst
        clear hst
        have hox := ofI_01 x
        have hkn : (k : Int) < n := by omega
        go_wp2_with (go_at_call 8; refine (rof_any x wr).mono ?_; rintro e w2 ⟨rfl, hb2⟩)
        go_roundw
        case rel => exact ⟨k + 1, by omega, by go_num, by rw [HST.out], hbw.trans (hb2.mono hbw.size)⟩
        case measure => simp [intOf]; omega
      · have hkn : ¬ (k : Int) < n := by omega
        rw [show xs.take k = xs from List.take_of_length_le (by have := HN.out; omega)]
        go_wp2
        go_ret
        exact ⟨rfl, hbw⟩

set_option maxRecDepth 100000 in
set_option maxHeartbeats 1000000 in
theorem fit_any (most : Int) (h0 : -9223372036854775808 ≤ most) (h1 : most ≤ 9223372036854775807) (A : Option Addr) (cap : Nat) (xs : List Int) (B : Nat) (w : World) (hm : xs.length ≤ 1000) (hS : Sl w B A (iv xs)) (hB : B ≤ w.heap.size) (hT : Tabs w) :
    Calls Tryd.prog 19 #[.int .i64 most, .slice A xs.length cap] w fun e w' => e = .returned (.tuple #[.int .i64 (fitN most xs 0), .int .i64 (sumW (xs.take (fitN most xs 0)))]) ∧ Below w.heap.size w w' := by
  rcases hS with h | ⟨b, off, rfl, hb, hc⟩
  · obtain rfl : xs = [] := List.length_eq_zero_iff.1 (by rw [← iv_length, h]; rfl)
    go_enter Tryd.func19, Tryd.ntmps19
    go_wp2
    go_loop [4, 5, 11] (fun s c i => s = .int .i64 0 ∧ c = .int .i64 0 ∧ i = .int .i64 0) (fun _ _ _ => 0)
    case atStart => exact ⟨rfl, rfl, rfl⟩
    case round =>
      obtain ⟨rfl, rfl, rfl⟩ := hrel
      go_wp2
      go_ret2
      exact ⟨rfl, Below.refl _ _⟩
  · generalize hn : xs.length = n at hm ⊢
    have HN := Lib.hid hn
    have HC := Lib.hid hc
    clear hn hc
    generalize hN : fitN most xs 0 = N
    have HF := Lib.hid hN
    clear hN
    go_enter Tryd.func19, Tryd.ntmps19
    go_wp2
    go_loopw [4, 5, 11] (fun s c i wr => ∃ k : Nat, k ≤ n ∧ i = .int .i64 k ∧ s = .int .i64 k ∧ c = .int .i64 (sumW (xs.take k)) ∧ fitAt most xs k = N ∧ Below w.heap.size w wr) (fun _ _ i _ => n - (intOf i).toNat)
    case atStart => exact ⟨0, by omega, rfl, rfl, rfl, by rw [fitAt_zero]; exact HF.out, Below.refl _ _⟩
    case round =>
      obtain ⟨k, hk, rfl, rfl, rfl, hfa, hbw⟩ := hrel
      have HA := Lib.hid hfa
      clear hfa
      have hbd := sumW_bd (xs.take k)
      have hlk : (xs.take k).length ≤ k := List.length_take_le _ _
      by_cases hlt : k < n
      · have hkl : k < xs.length := by have := HN.out; omega
        have hst := sumW_take xs k hkl
        have hcell : wr.cell? ⟨b, off + k, none⟩ = some (.int .i32 xs[k]) := (hbw.cell (p := ⟨b, off + k, none⟩) (by show b < _; omega)).trans (HC.out k _ (iv_get hkl))
        have hTr := hT.below hbw
        have hgo := fitAt_step most xs k hkl
        have hstop := fitAt_stop most xs k hkl
        generalize xs[k] = x at hst hcell hgo hstop
        generalize hs : sumW (xs.take k) = s at hst hbd hgo hstop ⊢
        have HST := Lib.hid hst
        have HGO := Lib.hid hgo
        have HSTOP := Lib.hid hstop
        have HS := Lib.hid hs
        clear hst hgo hstop hs
        have hox := ofI_01 x
        have hkn : (k : Int) < n := by omega
        by_cases hlast : most < s + ofI x
        · obtain rfl : k = N := (HSTOP.out hlast).symm.trans HA.out
          go_wp2_with (go_at_call 7; refine (of_any x wr hTr).mono ?_; rintro e w2 ⟨rfl, hb2⟩)
          go_ret2
          exact ⟨ret_ii rfl HS.out.symm, hbw.trans (hb2.mono hbw.size)⟩
        · have hle : s + ofI x ≤ most := by omega
          go_wp2_with (go_at_call 7; refine (of_any x wr hTr).mono ?_; rintro e w2 ⟨rfl, hb2⟩)
          go_roundw
          case rel => exact ⟨k + 1, by omega, by go_num, by go_num, by rw [HST.out], by rw [HGO.out hlast]; exact HA.out, hbw.trans (hb2.mono hbw.size)⟩
          case measure => simp [intOf]; omega
      · have hkn : ¬ (k : Int) < n := by omega
        obtain rfl : k = N := (fitAt_end most xs k (by have := HN.out; omega)).symm.trans HA.out
        go_wp2
        go_ret2
        exact ⟨rfl, hbw⟩

set_option maxRecDepth 100000 in
set_option maxHeartbeats 1000000 in
theorem rfit_any (most : Int) (h0 : -9223372036854775808 ≤ most) (h1 : most ≤ 9223372036854775807) (A : Option Addr) (cap : Nat) (xs : List Int) (B : Nat) (w : World) (hm : xs.length ≤ 1000) (hS : Sl w B A (iv xs)) (hB : B ≤ w.heap.size) :
    Calls Tryd.prog 20 #[.int .i64 most, .slice A xs.length cap] w fun e w' => e = .returned (.tuple #[.int .i64 (fitN most xs 0), .int .i64 (sumW (xs.take (fitN most xs 0)))]) ∧ Below w.heap.size w w' := by
  by_cases hneg : most < 0
  · rw [fitN_neg most xs hneg]
    have e0 : sumW (xs.take 0) = 0 := rfl
    rw [e0]
    clear e0
    go_enter Tryd.func20, Tryd.ntmps20
    go_wp2
    go_ret2
    exact ⟨rfl, Below.refl _ _⟩
  rcases hS with h | ⟨b, off, rfl, hb, hc⟩
  · obtain rfl : xs = [] := List.length_eq_zero_iff.1 (by rw [← iv_length, h]; rfl)
    go_enter Tryd.func20, Tryd.ntmps20
    go_wp2
    go_loop [6, 7] (fun s i => s = .int .i64 0 ∧ i = .int .i64 0) (fun _ _ => 0)
    case atStart => exact ⟨rfl, rfl⟩
    case round =>
      obtain ⟨rfl, rfl⟩ := hrel
      go_wp2
      go_ret2
      exact ⟨rfl, Below.refl _ _⟩
  · generalize hn : xs.length = n at hm ⊢
    have HN := Lib.hid hn
    have HC := Lib.hid hc
    clear hn hc
    generalize hN : fitN most xs 0 = N
    have HF := Lib.hid hN
    clear hN
    go_enter Tryd.func20, Tryd.ntmps20
    go_wp2
    go_loopw [6, 7] (fun c i wr => ∃ k : Nat, k ≤ n ∧ i = .int .i64 k ∧ c = .int .i64 (sumW (xs.take k)) ∧ sumW (xs.take k) ≤ most ∧ fitAt most xs k = N ∧ Below w.heap.size w wr) (fun _ i _ => n - (intOf i).toNat)
    case atStart => exact ⟨0, by omega, rfl, rfl, by simp [sumW]; omega, by rw [fitAt_zero]; exact HF.out, Below.refl _ _⟩
    case round =>
      obtain ⟨k, hk, rfl, rfl, hsm, hfa, hbw⟩ := hrel
      have HA := Lib.hid hfa
      clear hfa
      have hbd := sumW_bd (xs.take k)
      have hlk : (xs.take k).length ≤ k := List.length_take_le _ _
      by_cases hlt : k < n
      · have hkl : k < xs.length := by have := HN.out; omega
        have hst := sumW_take xs k hkl
        have hcell : wr.cell? ⟨b, off + k, none⟩ = some (.int .i32 xs[k]) := (hbw.cell (p := ⟨b, off + k, none⟩) (by show b < _; omega)).trans (HC.out k _ (iv_get hkl))
        have hgo := fitAt_step most xs k hkl
        have hstop := fitAt_stop most xs k hkl
        generalize xs[k] = x at hst hcell hgo hstop
        generalize hs : sumW (xs.take k) = s at hst hbd hgo hstop hsm ⊢
        have HST := Lib.hid hst
        have HGO := Lib.hid hgo
        have HSTOP := Lib.hid hstop
        have HS := Lib.hid hs
        clear hst hgo hstop hs
        have hox := ofI_01 x
        have hkn : (k : Int) < n := by omega
        by_cases hlast : most < s + ofI x
        · obtain rfl : k = N := (HSTOP.out hlast).symm.trans HA.out
          have hlast' : most - s < ofI x := by omega
          go_wp2_with (go_at_call 8; refine (rof_any x wr).mono ?_; rintro e w2 ⟨rfl, hb2⟩)
          go_ret2
          exact ⟨ret_ii rfl HS.out.symm, hbw.trans (hb2.mono hbw.size)⟩
        · have hle : ofI x ≤ most - s := by omega
          go_wp2_with (go_at_call 8; refine (rof_any x wr).mono ?_; rintro e w2 ⟨rfl, hb2⟩)
          go_roundw
          case rel => exact ⟨k + 1, by omega, by go_num, by rw [HST.out], by rw [HST.out]; omega, by rw [HGO.out hlast]; exact HA.out, hbw.trans (hb2.mono hbw.size)⟩
          case measure => simp [intOf]; omega
      · have hkn : ¬ (k : Int) < n := by omega
        obtain rfl : k = N := (fitAt_end most xs k (by have := HN.out; omega)).symm.trans HA.out
        have hkn2 : k = n := by omega
        obtain rfl : k = n := hkn2
        go_wp2
        go_ret2
        exact ⟨rfl, hbw⟩
end Go.Proofs.YtckohomfoicffaaDoor
