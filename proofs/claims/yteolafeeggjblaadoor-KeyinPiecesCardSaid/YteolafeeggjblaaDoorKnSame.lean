/-
  Keys compared: '==' at a key; the reference's Same.
-/
import Derived.Test.YteolafeeggjblaaDoorKnFeed2
import Derived.Laws.StructEq
import Derived.Deep.QuietTactic
import Derived.BigQuiet
namespace Go.Proofs.YteolafeeggjblaaDoor
open Go.RowKit
set_option linter.unusedVariables false
set_option linter.unusedSimpArgs false

theorem kv_fields : Tryd.prog.underlying 40 = some (.struct (Tryd.prog.fieldsOf 40)) := by kernel_rfl
theorem kv_stood : Tryd.prog.stoodInHeld 40 = false := by kernel_rfl
theorem kv_guard : Tryd.prog.eqGuardType Tryd.prog.depth 40 = false := by kernel_rfl
theorem below_dN {B : Nat} {a b : World} (h : Below B a b) (n : Nat) : Below B a (b.drewN n) := ⟨h.os, h.tape, h.output, h.size, h.block⟩
theorem kv_ext {c d : Kv} : c = d ↔ (c.c = d.c ∧ c.s = d.s ∧ c.n = d.n ∧ c.a = d.a ∧ c.h = d.h ∧ c.t = d.t) := by
  obtain ⟨c1, s1, n1, a1, h1, t1⟩ := c
  obtain ⟨c2, s2, n2, a2, h2, t2⟩ := d
  simp
theorem run_eq_kv (c d : Kv) (w : World) :
    (Op.equalIn 10000 40 (.agg #[.int .i64 c.c, .string ⟨c.s.toArray⟩, .int .i64 c.n, .bool c.a, .bool c.h, .bool c.t]) (.agg #[.int .i64 d.c, .string ⟨d.s.toArray⟩, .int .i64 d.n, .bool d.a, .bool d.h, .bool d.t])).run Tryd.prog w =
      .ok (decide (c = d)) w := by
  have e : decide (c = d) = decide (c.c = d.c ∧ c.s = d.s ∧ c.n = d.n ∧ c.a = d.a ∧ c.h = d.h ∧ c.t = d.t) := by
    rw [Bool.eq_iff_iff]; simp only [decide_eq_true_eq]; exact kv_ext
  rw [e]
  rw [show (10000 : Nat) = 9999 + 1 from rfl, run_equalIn_agg w 9999 40 _ _ kv_fields kv_stood]
  simp only [Program.fieldsOf, Tryd.underlying40]
  go_simp
  by_cases h1 : c.c = d.c <;> by_cases h2 : c.s = d.s <;> by_cases h3 : c.n = d.n <;> by_cases h4 : c.a = d.a <;> by_cases h5 : c.h = d.h <;> by_cases h6 : c.t = d.t <;> simp [h1, h2, h3, h4, h5, h6]
theorem kc_get {X : List Kv} {k : Nat} {x : Kv} (hx : X[k]? = some x) {j : Nat} {v : Value} (hv : x.cells[j]? = some v) : (X.flatMap Kv.cells)[k * 6 + j]? = some v := by
  induction X generalizing k with
  | nil => cases hx
  | cons y t ih =>
    have hj : j < 6 := by have := (List.getElem?_eq_some_iff.1 hv).1; rwa [Kv.len] at this
    rw [List.flatMap_cons]
    cases k with
    | zero =>
      simp at hx
      subst hx
      rw [Nat.zero_mul, Nat.zero_add, List.getElem?_append_left (by rw [Kv.len]; exact hj)]
      exact hv
    | succ k =>
      rw [List.getElem?_append_right (by rw [Kv.len]; omega), Kv.len, show (k + 1) * 6 + j - 6 = k * 6 + j by omega]
      exact ih (by simpa using hx)

set_option maxRecDepth 100000 in
set_option maxHeartbeats 4000000 in
theorem rsame_any (X Y : List Kv) (n m : Nat) (A B : Option Addr) (ca cb : Nat) (w : World) (hn : n = X.length) (hm : m = Y.length) (h5 : n ≤ 100000) (h6 : m ≤ 100000) (Ba Bb : Nat) (hA : Sl w Ba A (X.flatMap Kv.cells)) (hB : Sl w Bb B (Y.flatMap Kv.cells)) (hBa : Ba ≤ w.heap.size) (hBb : Bb ≤ w.heap.size) :
    Calls Tryd.prog 9 #[.slice A n ca, .slice B m cb] w fun e w' => e = .returned (.bool (decide (X = Y))) ∧ Below w.heap.size w w' := by
  by_cases hlen : n = m
  · subst hlen
    have HN := Lib.hid hn
    have HM := Lib.hid hm
    have HA := Lib.hid (hA.more hBa)
    have HB := Lib.hid (hB.more hBb)
    have HQ := Lib.hid run_eq_kv
    have hg := kv_guard
    clear hA hB hn hm
    go_enter Tryd.func9, Tryd.ntmps9
    go_wp2
    go_loopw [5] (fun i wr => ∃ k : Nat, i = .int .i64 k ∧ k ≤ n ∧ X.take k = Y.take k ∧ Below w.heap.size w wr) (fun i _ => n - (intOf i).toNat)
    case atStart => exact ⟨0, rfl, by omega, by simp, Below.refl _ _⟩
    case round =>
      obtain ⟨k, rfl, hk, ht, hbel⟩ := hrel
      have HT := Lib.hid ht
      have HBE := Lib.hid hbel
      clear ht hbel
      by_cases hlt : k < n
      · have hki : (k : Int) < n := by omega
        have hx : X[k]? = some (X[k]'(by have := HN.out; omega)) := List.getElem?_eq_getElem _
        have hy : Y[k]? = some (Y[k]'(by have := HM.out; omega)) := List.getElem?_eq_getElem _
        have htx : X.take (k + 1) = X.take k ++ [X[k]'(by have := HN.out; omega)] := List.take_succ_eq_append_getElem _
        have hty : Y.take (k + 1) = Y.take k ++ [Y[k]'(by have := HM.out; omega)] := List.take_succ_eq_append_getElem _
        generalize X[k]'(by have := HN.out; omega) = c at hx htx
        generalize Y[k]'(by have := HM.out; omega) = d at hy hty
        obtain ⟨b, off, rfl, hbb, hcx⟩ := HA.out.open_ (by rw [kc_len]; have := HN.out; omega)
        obtain ⟨b', off', rfl, hbb', hcy⟩ := HB.out.open_ (by rw [kc_len]; have := HM.out; omega)
        have fx : ∀ j v, c.cells[j]? = some v → wr.cell? ⟨b, off + k * 6 + j, none⟩ = some v := fun j v hv => by
          rw [Nat.add_assoc]
          exact (HBE.out.cell (p := ⟨b, off + (k * 6 + j), none⟩) hbb).trans (hcx _ v (kc_get hx hv))
        have fy : ∀ j v, d.cells[j]? = some v → wr.cell? ⟨b', off' + k * 6 + j, none⟩ = some v := fun j v hv => by
          rw [Nat.add_assoc]
          exact (HBE.out.cell (p := ⟨b', off' + (k * 6 + j), none⟩) hbb').trans (hcy _ v (kc_get hy hv))
        have x0 := fx 0 _ rfl
        have x1 := fx 1 _ rfl
        have x2 := fx 2 _ rfl
        have x3 := fx 3 _ rfl
        have x4 := fx 4 _ rfl
        have x5 := fx 5 _ rfl
        have y0 := fy 0 _ rfl
        have y1 := fy 1 _ rfl
        have y2 := fy 2 _ rfl
        have y3 := fy 3 _ rfl
        have y4 := fy 4 _ rfl
        have y5 := fy 5 _ rfl
        simp only [Nat.add_zero] at x0 y0
        have hq := fun w => HQ.out c d w
        have HTX := Lib.hid htx
        have HTY := Lib.hid hty
        have HCX := Lib.hid hx
        have HCY := Lib.hid hy
        clear fx fy hx hy htx hty hcx hcy
        by_cases hcd : c = d
        · have hdd : decide (c = d) = true := by simp [hcd]
          rw [hdd] at hq
          have HCD := Lib.hid hcd
          clear hcd hdd
          go_wp2_with (fail)
          go_quiet (fail)
          go_wp2
          go_roundw
          case rel => exact ⟨k + 1, by go_num, by omega, by rw [HTX.out, HTY.out, HT.out, HCD.out], below_dN HBE.out _⟩
          case measure => simp [intOf]; omega
        · have hdd : decide (c = d) = false := by simp [hcd]
          rw [hdd] at hq
          have HCD := Lib.hid hcd
          clear hcd hdd
          go_wp2_with (fail)
          go_quiet (fail)
          go_wp2
          go_ret
          refine ⟨ret_bool ?_, below_dN HBE.out _⟩
          symm
          rw [decide_eq_false_iff_not]
          intro e
          apply HCD.out
          have e1 := HCX.out
          rw [e, HCY.out] at e1
          injection e1 with e1
          exact e1.symm
      · have hki : ¬ (k : Int) < n := by omega
        obtain rfl : k = n := by omega
        go_wp2
        go_ret
        refine ⟨ret_bool ?_, HBE.out⟩
        symm
        rw [decide_eq_true_iff]
        have := HT.out
        rwa [List.take_of_length_le (by have := HN.out; omega), List.take_of_length_le (by have := HM.out; omega)] at this
  · have hne : decide (X = Y) = false := by
      rw [decide_eq_false_iff_not]
      intro e
      rw [e] at hn
      omega
    rw [hne]
    have hni : ((n : Int) != (m : Int)) = true := by simp; omega
    clear hn hm hA hB
    go_enter Tryd.func9, Tryd.ntmps9
    go_wp2
    go_ret
    exact ⟨rfl, Below.refl _ _⟩
end Go.Proofs.YteolafeeggjblaaDoor
