/-
  Walk: the law's once.
-/
import Derived.Test.YtfjiogockpmogaaDoorHsRNew
namespace Go.Proofs.YtfjiogockpmogaaDoor
open Go.RowKit Go.Sort
set_option linter.unusedVariables false
set_option linter.unusedSimpArgs false

theorem bel_drewH {b : Nat} (w : World) (n : Nat) : Below b w (w.drewN n) := ⟨rfl, rfl, rfl, Nat.le_refl _, fun _ _ => rfl⟩
theorem nodup_ne {L : List (List UInt8)} (h : L.Nodup) {i k : Nat} (hi : i < L.length) (hk : k < L.length) (hne : k < i) : (L[k] == L[i]) = false := by
  have h2 := List.pairwise_iff_getElem.1 h k i hk hi hne
  simpa using h2
set_option maxRecDepth 100000 in
set_option maxHeartbeats 4000000 in
theorem once_any (L : List (List UInt8)) (hnd : L.Nodup) (A : Option Addr) (n c : Nat) (hn : n = L.length) (h1 : n ≤ 100000) (w : World) (hX : Sl w w.heap.size A (sv L)) :
    Calls Tryd.prog 14 #[.slice A n c] w fun e w' => e = .returned (.bool true) ∧ Below w.heap.size w w' := by
  have HX := Lib.hid hX
  have HN := Lib.hid hn
  have HND := Lib.hid hnd
  clear hX hn hnd
  go_enter Tryd.func14, Tryd.ntmps14
  go_wp2_with (fail)
  go_loopw [3] (fun v wr => ∃ k : Nat, v = .int .i64 k ∧ k ≤ n ∧ Below w.heap.size w wr) (fun v _ => n - (intOf v).toNat)
  case atStart => exact ⟨0, rfl, by omega, Below.refl _ _⟩
  case round =>
    obtain ⟨i, rfl, hi, hb⟩ := hrel
    have HB := Lib.hid hb
    clear hb
    by_cases hlt : i < n
    · have hii : (i : Int) < n := by omega
      have hil : i < L.length := by have := HN.out; omega
      obtain ⟨b1, o1, hA, hb1, hc1⟩ := hs_at HX.out (List.getElem?_eq_getElem hil)
      subst hA
      have HC1 := Lib.hid hc1
      have HB1 := Lib.hid hb1
      clear hc1 hb1
      go_wp2_with (fail)
      go_loopw [4] (fun v ws => ∃ k : Nat, v = .int .i64 k ∧ k ≤ i ∧ Below w.heap.size w ws) (fun v _ => i - (intOf v).toNat)
      case atStart => exact ⟨0, rfl, by omega, HB.out⟩
      case round =>
        obtain ⟨k, rfl, hk, hb⟩ := hrel
        have HBk := Lib.hid hb
        clear hb
        by_cases hlk : k < i
        · have hkk : (k : Int) < i := by omega
          have hkn : (k : Int) < n := by omega
          have hkl : k < L.length := by omega
          have hgk := List.getElem?_eq_getElem hkl
          obtain ⟨b2, o2, hA2, hb2, hc2⟩ := hs_at HX.out hgk
          injection hA2 with hA2
          injection hA2 with h1 h2 _
          subst h1
          subst h2
          have r1 := (HBk.out.cell (p := ⟨b1, o1 + i, none⟩) HB1.out).trans HC1.out
          have r2 := (HBk.out.cell (p := ⟨b1, o1 + k, none⟩) HB1.out).trans hc2
          have hq := nodup_ne HND.out hil hkl hlk
          generalize L[k] = x at r2 hq
          generalize L[i] = y at r1 hq
          clear hc2 hgk
          go_wp2_with (fail)
          go_quiet (fail)
          go_wp2
          go_roundw
          case rel => exact ⟨k + 1, by go_num, by omega, HBk.out.trans (bel_drewH _ _)⟩
          case measure => simp [intOf]; omega
        · have hkk : ¬ (k : Int) < i := by omega
          go_wp2_with (fail)
          go_roundw
          case rel => exact ⟨i + 1, by go_num, by omega, HBk.out⟩
          case measure => simp [intOf]; omega
    · have hii : ¬ (i : Int) < n := by omega
      go_wp2_with (fail)
      go_ret
      exact ⟨rfl, HB.out⟩
end Go.Proofs.YtfjiogockpmogaaDoor
