/-
  Walks: the law's rising and same.
  Walk: the law's same, of two rows of numbers.
-/
import Derived.Test.YtjdfajgjejpfeaaGreatDoorGfF
import Derived.Test.YtjdfajgjejpfeaaGreatDoorGfS
import Derived.Test.YtjdfajgjejpfeaaGreatDoorGfA
import Derived.Deep.QuietTactic
import Derived.BigQuiet
import Derived.IntWalk
namespace Go.Proofs.YtjdfajgjejpfeaaGreatDoor
open Go.RowKit
set_option linter.unusedVariables false
set_option linter.unusedSimpArgs false

/-- the places from 0 on -/
def riseV (n : Nat) : List Value := (List.range n).map fun k => .int .i64 ((k : Nat) : Int)
theorem riseV_length (n : Nat) : (riseV n).length = n := by simp [riseV]
theorem riseV_succ (n : Nat) : riseV (n + 1) = riseV n ++ [.int .i64 ((n : Nat) : Int)] := by simp [riseV, List.range_succ]
set_option maxRecDepth 100000 in
set_option maxHeartbeats 4000000 in
theorem rising_any (n : Nat) (hn : n ≤ 5000) (w : World) :
    Calls Tryz.prog 34 #[.int .i64 n] w fun e w' => ∃ A c, e = .returned (.slice A n c) ∧ OR w' w.heap.size 3 A n c (riseV n) ∧ Below w.heap.size w w' := by
  go_enter Tryz.func34, Tryz.ntmps34
  go_wp2_with (fail)
  go_loopw [3, 4] (fun v3 v4 wr => ∃ (k : Nat) (A : Option Addr) (c : Nat), v4 = .int .i64 k ∧ k ≤ n ∧ v3 = .slice A k c ∧ OR wr w.heap.size 3 A k c (riseV k) ∧ Below w.heap.size w wr) (fun _ v _ => n - (intOf v).toNat)
  case atStart => exact ⟨0, none, 0, rfl, by omega, rfl, OR.none_ _ _ _, Below.refl _ _⟩
  case round =>
    obtain ⟨k, A, c, rfl, hkm, rfl, hor, hb⟩ := hrel
    have HOR := Lib.hid hor
    have HB := Lib.hid hb
    clear hor hb
    by_cases hlt : k < n
    · have hki : (k : Int) < n := by omega
      have hap : ∃ A' c' w', (Builtin.append_ #[64, 64] 64 #[.slice A k c, .slice (some ⟨wr.heap.size, 0, none⟩) 1 1]).run Tryz.prog (wr.alloc (.cells #[.int .i64 k] 3)) = .ok (.slice A' (k + 1) c') w' ∧ OR w' w.heap.size 3 A' (k + 1) c' (riseV (k + 1)) ∧ Below w.heap.size w w' := by
        obtain ⟨A', c', w', hr, ho, hg, hat⟩ := run_app Tryz.underlying64 i64_info rfl (by omega) (wr.alloc (.cells #[.int .i64 k] 3)) 64 w.heap.size A k c _ (HOR.out.alloc _) (some ⟨wr.heap.size, 0, none⟩) 1 1 [.int .i64 k] (wr.heap.size + 1) (Sl.new wr #[.int .i64 k] 3) rfl (fun e => by cases e) (by intro u hu; simp at hu; subst hu; rfl) (k + 1) rfl (by omega) (by have := HB.out.size; simp; omega)
        refine ⟨A', c', w', hr, by rw [riseV_succ]; exact ho, ?_⟩
        have h1 : Below w.heap.size w (wr.alloc (.cells #[.int .i64 k] 3)) := HB.out.alloc HB.out.size _
        exact h1.grown hg h1.size (fun j hj => ((HOR.out.alloc (.cells #[.int .i64 k] 3)).blk_lt j hj).1)
      obtain ⟨A', c', w5, hr, ho, hb5⟩ := hap
      have HR := Lib.hid hr
      have HO := Lib.hid ho
      have HB5 := Lib.hid hb5
      clear hr ho hb5
      go_wp2_with (at_builtin; refine wpList_run 64 64 rfl (.tmp 10) (.tmp 12) rfl _ _ _ _ rfl rfl HR.out ?_)
      go_roundw
      case rel => exact ⟨k + 1, A', c', by go_num, by omega, rfl, HO.out, HB5.out⟩
      case measure => simp [intOf]; omega
    · have hki : ¬ (k : Int) < n := by omega
      have hkn : k = n := by omega
      subst hkn
      go_wp2_with (fail)
      go_ret
      exact ⟨A, c, rfl, HOR.out, HB.out⟩
end Go.Proofs.YtjdfajgjejpfeaaGreatDoor

namespace Go.Proofs.YtjdfajgjejpfeaaGreatDoor
open Go.RowKit
set_option linter.unusedVariables false
set_option linter.unusedSimpArgs false

theorem bel_drewN {b : Nat} (w : World) (n : Nat) : Below b w (w.drewN n) := ⟨rfl, rfl, rfl, Nat.le_refl _, fun _ _ => rfl⟩
/-- a row of numbers as values -/
def zv (l : List Int) : List Value := l.map fun x => .int .i64 x
theorem zv_get (l : List Int) (k : Nat) (h : k < l.length) : (zv l)[k]? = some (.int .i64 l[k]) := by simp [zv, List.getElem?_eq_getElem h]
theorem zv_at {w : World} {B : Nat} {A : Option Addr} {l : List Int} (h : Sl w B A (zv l)) {k : Nat} (hk : k < l.length) : ∃ b off, A = some ⟨b, off, none⟩ ∧ b < B ∧ w.cell? ⟨b, off + k, none⟩ = some (.int .i64 l[k]) := by
  rcases h with h | ⟨b, off, hA, hb, hc⟩
  · have : l = [] := by simpa [zv] using h
    subst this; cases hk
  · exact ⟨b, off, hA, hb, hc k _ (zv_get l k hk)⟩
set_option maxRecDepth 100000 in
set_option maxHeartbeats 4000000 in
theorem gsame_any (xs ys : List Int) (A B : Option Addr) (n m c d : Nat) (hn : n = xs.length) (hm : m = ys.length) (h1 : n ≤ 100000) (h2 : m ≤ 100000) (w : World) (hX : Sl w w.heap.size A (zv xs)) (hY : Sl w w.heap.size B (zv ys)) :
    Calls Tryz.prog 33 #[.slice A n c, .slice B m d] w fun e w' => e = .returned (.bool (decide (xs = ys))) ∧ Below w.heap.size w w' := by
  by_cases hnm : n = m
  · have hlen : xs.length = ys.length := by omega
    subst hnm
    have hb0 : ((n : Int) != n) = false := by simp
    have HX := Lib.hid hX
    have HY := Lib.hid hY
    have HN := Lib.hid hn
    have HM := Lib.hid hm
    have HL := Lib.hid hlen
    clear hX hY hn hm hlen
    go_enter Tryz.func33, Tryz.ntmps33
    go_wp2_with (fail)
    go_loopw [5] (fun v wr => ∃ k : Nat, v = .int .i64 k ∧ k ≤ n ∧ xs.take k = ys.take k ∧ Below w.heap.size w wr) (fun v _ => n - (intOf v).toNat)
    case atStart => exact ⟨0, rfl, by omega, rfl, Below.refl _ _⟩
    case round =>
      obtain ⟨k, rfl, hk, htk, hb⟩ := hrel
      have HTK := Lib.hid htk
      have HB := Lib.hid hb
      clear htk hb
      by_cases hlt : k < n
      · have hki : (k : Int) < n := by omega
        have hkx : k < xs.length := by have := HN.out; omega
        have hky : k < ys.length := by have := HM.out; omega
        obtain ⟨b1, o1, rfl, hb1, hc1⟩ := zv_at HX.out hkx
        obtain ⟨b2, o2, rfl, hb2, hc2⟩ := zv_at HY.out hky
        have r1 := (HB.out.cell (p := ⟨b1, o1 + k, none⟩) hb1).trans hc1
        have r2 := (HB.out.cell (p := ⟨b2, o2 + k, none⟩) hb2).trans hc2
        have HT2 : Hid (xs[k] = ys[k] → xs.take (k + 1) = ys.take (k + 1)) := Lib.hid (fun e => by rw [List.take_succ_eq_append_getElem hkx, List.take_succ_eq_append_getElem hky, HTK.out, e])
        have HNE : Hid (xs[k] ≠ ys[k] → xs ≠ ys) := Lib.hid (fun e h => by subst h; exact e rfl)
        generalize xs[k] = x at r1 HT2 HNE
        generalize ys[k] = y at r2 HT2 HNE
        clear hc1 hc2
        by_cases hxy : x = y
        · subst hxy
          have hq : (x != x) = false := by simp
          have hth := HT2.out rfl
          have HTH := Lib.hid hth
          clear hth
          go_wp2_with (fail)
          go_quiet (fail)
          go_wp2
          go_roundw
          case rel => exact ⟨k + 1, by go_num, by omega, HTH.out, HB.out.trans (bel_drewN _ _)⟩
          case measure => simp [intOf]; omega
        · have hq : (x != y) = true := by simpa using hxy
          have HNQ := Lib.hid (HNE.out hxy)
          clear hxy
          go_wp2_with (fail)
          go_quiet (fail)
          go_wp2
          go_ret
          exact ⟨by rw [decide_eq_false HNQ.out]; rfl, HB.out.trans (bel_drewN _ _)⟩
      · have hki : ¬ (k : Int) < n := by omega
        have HEQ : Hid (xs = ys) := Lib.hid (by
          have h := HTK.out
          rw [List.take_of_length_le (by have := HN.out; omega), List.take_of_length_le (by have := HM.out; omega)] at h
          exact h)
        go_wp2_with (fail)
        go_ret
        exact ⟨by rw [decide_eq_true HEQ.out]; rfl, HB.out⟩
  · have hne : xs ≠ ys := fun e => hnm (by rw [hn, hm, e])
    have hq : ((n : Int) != m) = true := by simp; omega
    have HNE := Lib.hid hne
    clear hn hm hX hY hnm hne
    go_enter Tryz.func33, Tryz.ntmps33
    go_wp2_with (fail)
    go_ret
    exact ⟨by rw [decide_eq_false HNE.out]; rfl, Below.refl _ _⟩
end Go.Proofs.YtjdfajgjejpfeaaGreatDoor

