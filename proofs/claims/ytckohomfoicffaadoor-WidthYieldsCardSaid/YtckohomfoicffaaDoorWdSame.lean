/-
  Walks: placardlaw02.same.
-/
import Derived.Test.YtckohomfoicffaaDoorWdTold
import Derived.Deep.QuietTactic
import Derived.BigQuiet
import Derived.IntWalk
namespace Go.Proofs.YtckohomfoicffaaDoor
open Go.RowKit Go.Shelf
set_option linter.unusedVariables false

set_option maxRecDepth 100000 in
set_option maxHeartbeats 2000000 in
theorem same_any (A : Option Addr) (n c : Nat) (b most : Nat) (T : List (Int × Int)) (w : World) (hTl : T.length ≤ 100) (hm : most ≤ 1000) (hn : n = 2 * min T.length most) (hS : Sl w w.heap.size A (flatT (T.take most))) (hT : Tab w b T) (hbl : b < w.heap.size) :
    Calls Tryd.prog 24 #[.slice A n c, .slice (some ⟨b, 0, none⟩) T.length T.length, .int .i64 most] w fun e w' => e = .returned (.bool true) ∧ Below w.heap.size w w' := by
  generalize ht : T.length = t at hTl hn ⊢
  have HT := Lib.hid ht
  clear ht
  obtain ⟨q, hq⟩ : ∃ q : Nat, q = min t most := ⟨_, rfl⟩
  have hn2 : n = 2 * q := by omega
  have hqc : most < t → q = most := by omega
  have hqd : t ≤ most → q = t := by omega
  have HQC := Lib.hid hqc
  have HQD := Lib.hid hqd
  clear hqc hqd
  have HN := Lib.hid hn2
  have hq1 : q ≤ t := by omega
  have hq2 : q ≤ most := by omega
  have hcells : ∀ k, k < q → ∃ x : Int × Int, w.cell? ⟨b, k * 2, none⟩ = some (.int .i32 x.1) ∧ w.cell? ⟨b, k * 2 + 1, none⟩ = some (.int .i32 x.2) ∧ ∃ g off, A = some ⟨g, off, none⟩ ∧ g < w.heap.size ∧ w.cell? ⟨g, off + 2 * k, none⟩ = some (.int .i32 x.1) ∧ w.cell? ⟨g, off + (2 * k + 1), none⟩ = some (.int .i32 x.2) := by
    intro k hk
    have hx : T[k]? = some (T[k]'(by have := HT.out; omega)) := List.getElem?_eq_getElem (by have := HT.out; omega)
    have hx2 : (T.take most)[k]? = some (T[k]'(by have := HT.out; omega)) := by rw [List.getElem?_take, if_pos (by omega)]; exact hx
    obtain ⟨h1, h2⟩ := hT k _ hx
    obtain ⟨f1, f2⟩ := flatT_get _ k _ hx2
    rw [Nat.mul_comm] at h1 h2
    obtain ⟨g, off, hA, hg, hc⟩ := hS.open_ (by rw [flatT_length]; simp; have := HT.out; omega)
    exact ⟨_, h1, h2, g, off, hA, hg, hc _ _ f1, hc _ _ f2⟩
  have HC := Lib.hid hcells
  have hn3 : (n : Int) = 2 * (q : Int) := by omega
  clear hcells hn2 hn hS hT hq
  have HN3 := Lib.hid hn3
  clear hn3
  have hnle : n ≤ 200 := by have := HN.out; omega
  rcases Nat.lt_or_ge most t with hmt | hmt
  · obtain rfl : q = most := HQC.out hmt
    have hnq : ((n : Int) == 2 * (q : Int)) = true := by rw [HN3.out]; exact beq_self_eq_true _
    have hmt' : (q : Int) < (t : Int) := by omega
    go_enter Tryd.func24, Tryd.ntmps24
    go_wp2
    go_loopw [7] (fun i wr => ∃ k : Nat, k ≤ q ∧ i = .int .i64 k ∧ Below w.heap.size w wr) (fun i _ => q - (intOf i).toNat)
    case atStart => exact ⟨0, by omega, rfl, Below.refl _ _⟩
    case round =>
      obtain ⟨k, hk, rfl, hbw⟩ := hrel
      by_cases hlt : k < q
      · obtain ⟨x, h1, h2, g, off, hA, hg, h3, h4⟩ := HC.out k hlt
        subst hA
        have c1 := (hbw.cell (p := ⟨b, k * 2, none⟩) hbl).trans h1
        have c2 := (hbw.cell (p := ⟨b, k * 2 + 1, none⟩) hbl).trans h2
        have c3 := (hbw.cell (p := ⟨g, off + 2 * k, none⟩) hg).trans h3
        have c4 := (hbw.cell (p := ⟨g, off + (2 * k + 1), none⟩) hg).trans h4
        clear h1 h2 h3 h4
        have hkn : 2 * (k : Int) < (n : Int) := by have := HN3.out; omega
        have hkn1 : 2 * (k : Int) + 1 < (n : Int) := by have := HN3.out; omega
        have hk0 : 0 ≤ 2 * (k : Int) := by omega
        have hk1 : 0 ≤ 2 * (k : Int) + 1 := by omega
        have hkt : (k : Int) < (t : Int) := by omega
        have e1 : IntKind.i64.wrap (2 * (k : Int)) = 2 * (k : Int) := IntWalk.i64_in _ (by omega)
        have e2 : IntKind.i64.wrap (2 * (k : Int) + 1) = 2 * (k : Int) + 1 := IntWalk.i64_in _ (by omega)
        have e3 : (2 * (k : Int)).toNat = 2 * k := by omega
        have e4 : (2 * (k : Int) + 1).toNat = 2 * k + 1 := by omega
        go_wp2
        go_quiet (fail)
        go_wp2
        go_roundw
        case rel => exact ⟨k + 1, by omega, by go_num, hbw.trans (below_drewN (Below.refl _ _) _)⟩
        case measure => simp [intOf]; omega
      · have hkn : ¬ 2 * (k : Int) < (n : Int) := by have := HN3.out; omega
        go_wp2
        go_ret
        exact ⟨rfl, hbw⟩
  · obtain rfl : q = t := HQD.out hmt
    have hnq : ((n : Int) == 2 * (q : Int)) = true := by rw [HN3.out]; exact beq_self_eq_true _
    have hmt' : ¬ (most : Int) < (q : Int) := by omega
    go_enter Tryd.func24, Tryd.ntmps24
    go_wp2
    go_loopw [7] (fun i wr => ∃ k : Nat, k ≤ q ∧ i = .int .i64 k ∧ Below w.heap.size w wr) (fun i _ => q - (intOf i).toNat)
    case atStart => exact ⟨0, by omega, rfl, Below.refl _ _⟩
    case round =>
      obtain ⟨k, hk, rfl, hbw⟩ := hrel
      by_cases hlt : k < q
      · obtain ⟨x, h1, h2, g, off, hA, hg, h3, h4⟩ := HC.out k hlt
        subst hA
        have c1 := (hbw.cell (p := ⟨b, k * 2, none⟩) hbl).trans h1
        have c2 := (hbw.cell (p := ⟨b, k * 2 + 1, none⟩) hbl).trans h2
        have c3 := (hbw.cell (p := ⟨g, off + 2 * k, none⟩) hg).trans h3
        have c4 := (hbw.cell (p := ⟨g, off + (2 * k + 1), none⟩) hg).trans h4
        clear h1 h2 h3 h4
        have hkn : 2 * (k : Int) < (n : Int) := by have := HN3.out; omega
        have hkn1 : 2 * (k : Int) + 1 < (n : Int) := by have := HN3.out; omega
        have hk0 : 0 ≤ 2 * (k : Int) := by omega
        have hk1 : 0 ≤ 2 * (k : Int) + 1 := by omega
        have hkt : (k : Int) < (q : Int) := by omega
        have e1 : IntKind.i64.wrap (2 * (k : Int)) = 2 * (k : Int) := IntWalk.i64_in _ (by omega)
        have e2 : IntKind.i64.wrap (2 * (k : Int) + 1) = 2 * (k : Int) + 1 := IntWalk.i64_in _ (by omega)
        have e3 : (2 * (k : Int)).toNat = 2 * k := by omega
        have e4 : (2 * (k : Int) + 1).toNat = 2 * k + 1 := by omega
        go_wp2
        go_quiet (fail)
        go_wp2
        go_roundw
        case rel => exact ⟨k + 1, by omega, by go_num, hbw.trans (below_drewN (Below.refl _ _) _)⟩
        case measure => simp [intOf]; omega
      · have hkn : ¬ 2 * (k : Int) < (n : Int) := by have := HN3.out; omega
        go_wp2
        go_ret
        exact ⟨rfl, hbw⟩
end Go.Proofs.YtckohomfoicffaaDoor
