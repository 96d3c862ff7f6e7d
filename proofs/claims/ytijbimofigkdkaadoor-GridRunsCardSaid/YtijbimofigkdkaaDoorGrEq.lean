/-
  Cells compared: '==' at a cell; walks of the reference's SameCells and of slices.Equal.
-/
import Derived.Test.YtijbimofigkdkaaDoorGrMem
import Derived.Laws.StructEq
namespace Go.Proofs.YtijbimofigkdkaaDoor
open Go.RowKit
set_option linter.unusedVariables false
set_option linter.unusedSimpArgs false

theorem sty_fields : Tryd.prog.underlying 34 = some (.struct (Tryd.prog.fieldsOf 34)) := by kernel_rfl
theorem cl_fields : Tryd.prog.underlying 51 = some (.struct (Tryd.prog.fieldsOf 51)) := by kernel_rfl
theorem sty_stood : Tryd.prog.stoodInHeld 34 = false := by kernel_rfl
theorem cl_stood : Tryd.prog.stoodInHeld 51 = false := by kernel_rfl
theorem cl_guard : Tryd.prog.eqGuardType Tryd.prog.depth 51 = false := by kernel_rfl

theorem run_eq_sty (d : Nat) (b u i b' u' i' : Bool) (f g f' g' : Int) (w : World) :
    (Op.equalIn (d + 2) 34 (.agg #[.bool b, .bool u, .bool i, .int .i64 f, .int .i64 g]) (.agg #[.bool b', .bool u', .bool i', .int .i64 f', .int .i64 g'])).run Tryd.prog w =
      .ok (decide (b = b' ∧ u = u' ∧ i = i' ∧ f = f' ∧ g = g')) w := by
  rw [run_equalIn_agg w (d + 1) 34 _ _ sty_fields sty_stood]
  simp only [Program.fieldsOf, Tryd.underlying34]
  go_simp
  by_cases h1 : b = b' <;> by_cases h2 : u = u' <;> by_cases h3 : i = i' <;> by_cases h4 : f = f' <;> by_cases h5 : g = g' <;> simp [h1, h2, h3, h4, h5]

theorem below_dN {B : Nat} {a b : World} (h : Below B a b) (n : Nat) : Below B a (b.drewN n) := ⟨h.os, h.tape, h.output, h.size, h.block⟩
theorem cl_ext {c d : Cl} : c = d ↔ (c.s = d.s ∧ c.w = d.w ∧ (c.y.b = d.y.b ∧ c.y.u = d.y.u ∧ c.y.i = d.y.i ∧ c.y.f = d.y.f ∧ c.y.g = d.y.g)) := by
  obtain ⟨s, w, ⟨b, u, i, f, g⟩⟩ := c
  obtain ⟨s', w', ⟨b', u', i', f', g'⟩⟩ := d
  simp
theorem run_eq_cl (c d : Cl) (w : World) :
    (Op.equalIn 10000 51 (.agg #[.string ⟨c.s.toArray⟩, .int .i64 c.w, .bool c.y.b, .bool c.y.u, .bool c.y.i, .int .i64 c.y.f, .int .i64 c.y.g]) (.agg #[.string ⟨d.s.toArray⟩, .int .i64 d.w, .bool d.y.b, .bool d.y.u, .bool d.y.i, .int .i64 d.y.f, .int .i64 d.y.g])).run Tryd.prog w =
      .ok (decide (c = d)) w := by
  have e : decide (c = d) = decide (c.s = d.s ∧ c.w = d.w ∧ (c.y.b = d.y.b ∧ c.y.u = d.y.u ∧ c.y.i = d.y.i ∧ c.y.f = d.y.f ∧ c.y.g = d.y.g)) := by
    rw [Bool.eq_iff_iff]; simp only [decide_eq_true_eq]; exact cl_ext
  have hs := run_eq_sty 9997 c.y.b c.y.u c.y.i d.y.b d.y.u d.y.i c.y.f c.y.g d.y.f d.y.g
  rw [e]
  rw [show (10000 : Nat) = 9999 + 1 from rfl, run_equalIn_agg w 9999 51 _ _ cl_fields cl_stood]
  simp only [Program.fieldsOf, Tryd.underlying51]
  go_simp
  by_cases h1 : c.s = d.s <;> by_cases h2 : c.w = d.w <;> by_cases h3 : c.y.b = d.y.b <;> by_cases h4 : c.y.u = d.y.u <;> by_cases h5 : c.y.i = d.y.i <;> by_cases h6 : c.y.f = d.y.f <;> by_cases h7 : c.y.g = d.y.g <;> simp [h1, h2, h3, h4, h5, h6, h7]

set_option maxRecDepth 100000 in
set_option maxHeartbeats 4000000 in
theorem same_any (X Y : List Cl) (n m : Nat) (A B : Option Addr) (ca cb : Nat) (w : World) (hn : n = X.length) (hm : m = Y.length) (h5 : n ≤ 100000) (h6 : m ≤ 100000) (Ba Bb : Nat) (hA : Sl w Ba A (rc X)) (hB : Sl w Bb B (rc Y)) (hBa : Ba ≤ w.heap.size) (hBb : Bb ≤ w.heap.size) :
    Calls Tryd.prog 22 #[.slice A n ca, .slice B m cb] w fun e w' => e = .returned (.bool (decide (X = Y))) ∧ Below w.heap.size w w' := by
  by_cases hlen : n = m
  · subst hlen
    have HN := Lib.hid hn
    have HM := Lib.hid hm
    have HA := Lib.hid (hA.more hBa)
    have HB := Lib.hid (hB.more hBb)
    have HQ := Lib.hid run_eq_cl
    have hg := cl_guard
    clear hA hB hn hm
    go_enter Tryd.func22, Tryd.ntmps22
    go_wp2
    go_loopw [5] (fun i wr => ∃ k : Nat, i = .int .i64 k ∧ k ≤ n ∧ X.take k = Y.take k ∧ Below w.heap.size w wr) (fun i _ => n - (intOf i).toNat)
    case atStart => exact ⟨0, rfl, by omega, by simp, Below.refl _ _⟩
    case round =>
      obtain ⟨k, rfl, hk, ht, hbel⟩ := hrel
      have HT := Lib.hid ht
      have HBE := Lib.hid hbel
      clear ht hbel
      by_cases hlt : k < n
      · have hki : (k : Int) < n := by omega
        have hx : X[k]? = some (X[k]'(by have := HN.out; omega)) := List.getElem?_eq_getElem _
        have hy : Y[k]? = some (Y[k]'(by have := HM.out; omega)) := List.getElem?_eq_getElem _
        have htx : X.take (k + 1) = X.take k ++ [X[k]'(by have := HN.out; omega)] := List.take_succ_eq_append_getElem _
        have hty : Y.take (k + 1) = Y.take k ++ [Y[k]'(by have := HM.out; omega)] := List.take_succ_eq_append_getElem _
        generalize X[k]'(by have := HN.out; omega) = c at hx htx
        generalize Y[k]'(by have := HM.out; omega) = d at hy hty
        obtain ⟨b, off, rfl, hbb, hcx⟩ := HA.out.open_ (by rw [rc_length]; have := HN.out; omega)
        obtain ⟨b', off', rfl, hbb', hcy⟩ := HB.out.open_ (by rw [rc_length]; have := HM.out; omega)
        have fx : ∀ j v, c.cells[j]? = some v → wr.cell? ⟨b, off + k * 7 + j, none⟩ = some v := fun j v hv => by
          rw [Nat.add_assoc]
          exact (HBE.out.cell (p := ⟨b, off + (k * 7 + j), none⟩) hbb).trans (hcx _ v (rc_get hx hv))
        have fy : ∀ j v, d.cells[j]? = some v → wr.cell? ⟨b', off' + k * 7 + j, none⟩ = some v := fun j v hv => by
          rw [Nat.add_assoc]
          exact (HBE.out.cell (p := ⟨b', off' + (k * 7 + j), none⟩) hbb').trans (hcy _ v (rc_get hy hv))
        have x0 := fx 0 _ rfl
        have x1 := fx 1 _ rfl
        have x2 := fx 2 _ rfl
        have x3 := fx 3 _ rfl
        have x4 := fx 4 _ rfl
        have x5 := fx 5 _ rfl
        have x6 := fx 6 _ rfl
        have y0 := fy 0 _ rfl
        have y1 := fy 1 _ rfl
        have y2 := fy 2 _ rfl
        have y3 := fy 3 _ rfl
        have y4 := fy 4 _ rfl
        have y5 := fy 5 _ rfl
        have y6 := fy 6 _ rfl
        simp only [Nat.add_zero] at x0 y0
        have hq := fun w => HQ.out c d w
        have HTX := Lib.hid htx
        have HTY := Lib.hid hty
        have HCX := Lib.hid hx
        have HCY := Lib.hid hy
        clear fx fy hx hy htx hty hcx hcy
        by_cases hcd : c = d
        · have hdd : decide (c = d) = true := by simp [hcd]
          rw [hdd] at hq
          have HCD := Lib.hid hcd
          clear hcd hdd
          go_wp2_with (fail)
          go_quiet (fail)
          go_wp2
          go_roundw
          case rel => exact ⟨k + 1, by go_num, by omega, by rw [HTX.out, HTY.out, HT.out, HCD.out], below_dN HBE.out _⟩
          case measure => simp [intOf]; omega
        · have hdd : decide (c = d) = false := by simp [hcd]
          rw [hdd] at hq
          have HCD := Lib.hid hcd
          clear hcd hdd
          go_wp2_with (fail)
          go_quiet (fail)
          go_wp2
          go_ret
          refine ⟨ret_bool ?_, below_dN HBE.out _⟩
          symm
          rw [decide_eq_false_iff_not]
          intro e
          apply HCD.out
          have e1 := HCX.out
          rw [e, HCY.out] at e1
          injection e1 with e1
          exact e1.symm
      · have hki : ¬ (k : Int) < n := by omega
        obtain rfl : k = n := by omega
        go_wp2
        go_ret
        refine ⟨ret_bool ?_, HBE.out⟩
        symm
        rw [decide_eq_true_iff]
        have := HT.out
        rwa [List.take_of_length_le (by have := HN.out; omega), List.take_of_length_le (by have := HM.out; omega)] at this
  · have hne : decide (X = Y) = false := by
      rw [decide_eq_false_iff_not]
      intro e
      rw [e] at hn
      omega
    rw [hne]
    have hni : ((n : Int) != (m : Int)) = true := by simp; omega
    clear hn hm hA hB
    go_enter Tryd.func22, Tryd.ntmps22
    go_wp2
    go_ret
    exact ⟨rfl, Below.refl _ _⟩
set_option maxRecDepth 100000 in
set_option maxHeartbeats 4000000 in
theorem equal_any (X Y : List Cl) (n m : Nat) (A B : Option Addr) (ca cb : Nat) (w : World) (hn : n = X.length) (hm : m = Y.length) (h5 : n ≤ 100000) (h6 : m ≤ 100000) (Ba Bb : Nat) (hA : Sl w Ba A (rc X)) (hB : Sl w Bb B (rc Y)) (hBa : Ba ≤ w.heap.size) (hBb : Bb ≤ w.heap.size) :
    Calls Tryd.prog 34 #[.slice A n ca, .slice B m cb] w fun e w' => e = .returned (.bool (decide (X = Y))) ∧ Below w.heap.size w w' := by
  by_cases hlen : n = m
  · subst hlen
    have HN := Lib.hid hn
    have HM := Lib.hid hm
    have HA := Lib.hid (hA.more hBa)
    have HB := Lib.hid (hB.more hBb)
    have HQ := Lib.hid run_eq_cl
    have hg := cl_guard
    clear hA hB hn hm
    go_enter Tryd.func34, Tryd.ntmps34
    go_wp2
    go_loopw [13] (fun i wr => ∃ k : Nat, i = .int .i64 k ∧ k ≤ n ∧ X.take k = Y.take k ∧ Below w.heap.size w wr) (fun i _ => n - (intOf i).toNat)
    case atStart => exact ⟨0, rfl, by omega, by simp, Below.refl _ _⟩
    case round =>
      obtain ⟨k, rfl, hk, ht, hbel⟩ := hrel
      have HT := Lib.hid ht
      have HBE := Lib.hid hbel
      clear ht hbel
      by_cases hlt : k < n
      · have hki : (k : Int) < n := by omega
        have hx : X[k]? = some (X[k]'(by have := HN.out; omega)) := List.getElem?_eq_getElem _
        have hy : Y[k]? = some (Y[k]'(by have := HM.out; omega)) := List.getElem?_eq_getElem _
        have htx : X.take (k + 1) = X.take k ++ [X[k]'(by have := HN.out; omega)] := List.take_succ_eq_append_getElem _
        have hty : Y.take (k + 1) = Y.take k ++ [Y[k]'(by have := HM.out; omega)] := List.take_succ_eq_append_getElem _
        generalize X[k]'(by have := HN.out; omega) = c at hx htx
        generalize Y[k]'(by have := HM.out; omega) = d at hy hty
        obtain ⟨b, off, rfl, hbb, hcx⟩ := HA.out.open_ (by rw [rc_length]; have := HN.out; omega)
        obtain ⟨b', off', rfl, hbb', hcy⟩ := HB.out.open_ (by rw [rc_length]; have := HM.out; omega)
        have fx : ∀ j v, c.cells[j]? = some v → wr.cell? ⟨b, off + k * 7 + j, none⟩ = some v := fun j v hv => by
          rw [Nat.add_assoc]
          exact (HBE.out.cell (p := ⟨b, off + (k * 7 + j), none⟩) hbb).trans (hcx _ v (rc_get hx hv))
        have fy : ∀ j v, d.cells[j]? = some v → wr.cell? ⟨b', off' + k * 7 + j, none⟩ = some v := fun j v hv => by
          rw [Nat.add_assoc]
          exact (HBE.out.cell (p := ⟨b', off' + (k * 7 + j), none⟩) hbb').trans (hcy _ v (rc_get hy hv))
        have x0 := fx 0 _ rfl
        have x1 := fx 1 _ rfl
        have x2 := fx 2 _ rfl
        have x3 := fx 3 _ rfl
        have x4 := fx 4 _ rfl
        have x5 := fx 5 _ rfl
        have x6 := fx 6 _ rfl
        have y0 := fy 0 _ rfl
        have y1 := fy 1 _ rfl
        have y2 := fy 2 _ rfl
        have y3 := fy 3 _ rfl
        have y4 := fy 4 _ rfl
        have y5 := fy 5 _ rfl
        have y6 := fy 6 _ rfl
        simp only [Nat.add_zero] at x0 y0
        have hq := fun w => HQ.out c d w
        have HTX := Lib.hid htx
        have HTY := Lib.hid hty
        have HCX := Lib.hid hx
        have HCY := Lib.hid hy
        clear fx fy hx hy htx hty hcx hcy
        by_cases hcd : c = d
        · have hdd : decide (c = d) = true := by simp [hcd]
          rw [hdd] at hq
          have HCD := Lib.hid hcd
          clear hcd hdd
          go_wp2_with (fail)
          go_quiet (fail)
          go_wp2
          go_roundw
          case rel => exact ⟨k + 1, by go_num, by omega, by rw [HTX.out, HTY.out, HT.out, HCD.out], below_dN HBE.out _⟩
          case measure => simp [intOf]; omega
        · have hdd : decide (c = d) = false := by simp [hcd]
          rw [hdd] at hq
          have HCD := Lib.hid hcd
          clear hcd hdd
          go_wp2_with (fail)
          go_quiet (fail)
          go_wp2
          go_ret
          refine ⟨ret_bool ?_, below_dN HBE.out _⟩
          symm
          rw [decide_eq_false_iff_not]
          intro e
          apply HCD.out
          have e1 := HCX.out
          rw [e, HCY.out] at e1
          injection e1 with e1
          exact e1.symm
      · have hki : ¬ (k : Int) < n := by omega
        obtain rfl : k = n := by omega
        go_wp2
        go_ret
        refine ⟨ret_bool ?_, HBE.out⟩
        symm
        rw [decide_eq_true_iff]
        have := HT.out
        rwa [List.take_of_length_le (by have := HN.out; omega), List.take_of_length_le (by have := HM.out; omega)] at this
  · have hne : decide (X = Y) = false := by
      rw [decide_eq_false_iff_not]
      intro e
      rw [e] at hn
      omega
    rw [hne]
    have hni : ((n : Int) != (m : Int)) = true := by simp; omega
    clear hn hm hA hB
    go_enter Tryd.func34, Tryd.ntmps34
    go_wp2
    go_ret
    exact ⟨rfl, Below.refl _ _⟩
end Go.Proofs.YtijbimofigkdkaaDoor
