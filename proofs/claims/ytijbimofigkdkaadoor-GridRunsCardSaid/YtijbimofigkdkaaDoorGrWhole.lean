/-
  Walk: whole of law 4.
-/
import Derived.Test.YtijbimofigkdkaaDoorGrEq
namespace Go.Proofs.YtijbimofigkdkaaDoor
open Go.RowKit
set_option linter.unusedVariables false
set_option linter.unusedSimpArgs false

/-- What the columns of a row's first cells come to. -/
def colsTo (l : List Cl) (k m : Nat) : Prop := (m = k ∧ ∀ j d, k = j + 1 → l[j]? = some d → d.w ≠ 2) ∨ (m = k + 1 ∧ ∃ j d, k = j + 1 ∧ l[j]? = some d ∧ d.w = 2)
theorem colsTo_zero (l : List Cl) : colsTo l 0 0 := .inl ⟨rfl, fun j d h => by omega⟩
theorem colsTo_one {l : List Cl} (hf : Wf l) {k m : Nat} {c : Cl} (hc : l[k]? = some c) (hw : c.w = 1) (h : colsTo l k m) : m = k ∧ colsTo l (k + 1) (k + 1) := by
  refine ⟨?_, .inl ⟨rfl, fun j d hj hd => ?_⟩⟩
  · rcases h with ⟨h, _⟩ | ⟨_, j, d, rfl, hd, h2⟩
    · exact h
    · have := hf.wide j d hd h2
      rw [hc] at this
      injection this with this
      rw [this] at hw
      simp [tail_] at hw
  · obtain rfl : j = k := by omega
    rw [hc] at hd
    injection hd with hd
    subst hd
    omega
theorem colsTo_two {l : List Cl} (hf : Wf l) {k m : Nat} {c : Cl} (hc : l[k]? = some c) (hw : c.w = 2) (h : colsTo l k m) : m = k ∧ colsTo l (k + 1) (k + 2) := by
  refine ⟨?_, .inr ⟨rfl, k, c, rfl, hc, hw⟩⟩
  rcases h with ⟨h, _⟩ | ⟨_, j, d, rfl, hd, h2⟩
  · exact h
  · have := hf.wide j d hd h2
    rw [hc] at this
    injection this with this
    rw [this] at hw
    simp [tail_] at hw
theorem colsTo_tail {l : List Cl} (hf : Wf l) {k m : Nat} {c : Cl} (hc : l[k]? = some c) (hw : c.w = 0) (h : colsTo l k m) : m = k + 1 ∧ colsTo l (k + 1) (k + 1) := by
  obtain ⟨j, d, rfl, hd, h2⟩ := hf.tail k c hc hw
  refine ⟨?_, .inl ⟨rfl, fun i e hi he => ?_⟩⟩
  · rcases h with ⟨_, h⟩ | ⟨h, _⟩
    · exact absurd h2 (h j d rfl hd)
    · exact h
  · obtain rfl : i = j + 1 := by omega
    rw [hc] at he
    injection he with he
    subst he
    omega
theorem colsTo_end {l : List Cl} (hf : Wf l) {m : Nat} (h : colsTo l l.length m) : m = l.length := by
  rcases h with ⟨h, _⟩ | ⟨_, j, d, hj, hd, h2⟩
  · exact h
  · have := hf.wide j d hd h2
    have := (List.getElem?_eq_some_iff.1 this).1
    omega

theorem sty_guard : Tryd.prog.eqGuardType Tryd.prog.depth 34 = false := by kernel_rfl
set_option maxRecDepth 100000 in
set_option maxHeartbeats 4000000 in
theorem whole_any (l : List Cl) (n : Nat) (A : Option Addr) (c : Nat) (w : World) (hn : n = l.length) (h5 : n ≤ 500) (hf : Wf l) (B : Nat) (hA : Sl w B A (rc l)) (hB : B ≤ w.heap.size) :
    Calls Tryd.prog 17 #[.slice A n c] w fun e w' => e = .returned (.bool true) ∧ Below w.heap.size w w' := by
  have HN := Lib.hid hn
  have HF := Lib.hid hf
  have HA := Lib.hid (hA.more hB)
  clear hA hn hf
  go_enter Tryd.func17, Tryd.ntmps17
  go_wp2
  go_loopw [3, 4] (fun v3 v4 wr => ∃ k m : Nat, v4 = .int .i64 k ∧ v3 = .int .i64 m ∧ k ≤ n ∧ m ≤ n + 1 ∧ colsTo l k m ∧ Below w.heap.size w wr) (fun _ v4 _ => n - (intOf v4).toNat)
  case atStart => exact ⟨0, 0, rfl, rfl, by omega, by omega, colsTo_zero l, Below.refl _ _⟩
  case round =>
    obtain ⟨k, m, rfl, rfl, hk, hm, ht, hbel⟩ := hrel
    have HT := Lib.hid ht
    have HBE := Lib.hid hbel
    clear ht hbel
    by_cases hlt : k < n
    · have hki : (k : Int) < n := by omega
      have hx : l[k]? = some (l[k]'(by have := HN.out; omega)) := List.getElem?_eq_getElem _
      generalize l[k]'(by have := HN.out; omega) = x at hx
      obtain ⟨b, off, rfl, hbb, hcx⟩ := HA.out.open_ (by rw [rc_length]; have := HN.out; omega)
      have fx : ∀ i (x : Cl), l[i]? = some x → ∀ j v, x.cells[j]? = some v → wr.cell? ⟨b, off + i * 7 + j, none⟩ = some v := fun i x hx j v hv => by
        rw [Nat.add_assoc]
        exact (HBE.out.cell (p := ⟨b, off + (i * 7 + j), none⟩) hbb).trans (hcx _ v (rc_get hx hv))
      have hwx := HF.out.w k x hx
      obtain ⟨s, wd, y⟩ := x
      have x0 := fx k _ hx 0 _ rfl
      have x1 := fx k _ hx 1 _ rfl
      have x2 := fx k _ hx 2 _ rfl
      have x3 := fx k _ hx 3 _ rfl
      have x4 := fx k _ hx 4 _ rfl
      have x5 := fx k _ hx 5 _ rfl
      have x6 := fx k _ hx 6 _ rfl
      simp only [Nat.add_zero] at x0
      rcases hwx with hw | hw | hw
      · -- a tail
        change wd = 0 at hw
        subst hw
        obtain ⟨hmk, hnext⟩ := colsTo_tail HF.out hx rfl HT.out
        subst hmk
        obtain ⟨j, d, hkj, hd, hd2⟩ := HF.out.tail k _ hx rfl
        have y1 := fx j d hd 1 _ rfl
        rw [hd2] at y1
        have e1 : ((k : Int) - 1).toNat = j := by omega
        have e2 : ¬ ((k : Int) - 1 < 0) := by omega
        have e3 : (k : Int) - 1 < n := by omega
        have e4 : (0 : Int) ≤ (k : Int) - 1 := by omega
        have e5 : ¬ ((k : Int) = 0) := by omega
        have wr1 : IntKind.i64.wrap ((k : Int) - 1) = (k : Int) - 1 := IntWalk.i64_in _ (by omega)
        have HNX := Lib.hid hnext
        clear hnext hkj hd hd2 hx fx hcx HT
        go_wp2_with (fail)
        go_quiet (fail)
        go_wp2_with (fail)
        refine ⟨⟨k + 1, k + 1, by go_num, by go_num, by omega, by omega, HNX.out, below_dN HBE.out _⟩, ?_⟩
        simp [intOf]; omega
      · change wd = 1 at hw
        subst hw
        obtain ⟨hmk, hnext⟩ := colsTo_one HF.out hx rfl HT.out
        subst hmk
        have hs : s ≠ [] := HF.out.full _ _ hx (by show (1 : Int) ≠ 0; omega)
        have hse : s.isEmpty = false := by cases s with
          | nil => exact absurd rfl hs
          | cons _ _ => rfl
        clear hs
        have HNX := Lib.hid hnext
        clear hnext hx fx hcx HT
        go_wp2_with (fail)
        go_quiet (fail)
        go_wp2_with (fail)
        go_roundw
        case rel => exact ⟨m + 1, m + 1, by go_num, by go_num, by omega, by omega, HNX.out, below_dN HBE.out _⟩
        case measure => simp [intOf]; omega

      · change wd = 2 at hw
        subst hw
        obtain ⟨hmk, hnext⟩ := colsTo_two HF.out hx rfl HT.out
        subst hmk
        have hs : s ≠ [] := HF.out.full _ _ hx (by show (2 : Int) ≠ 0; omega)
        have hse : s.isEmpty = false := by cases s with
          | nil => exact absurd rfl hs
          | cons _ _ => rfl
        clear hs
        have hd := HF.out.wide _ _ hx rfl
        have hq1 := (List.getElem?_eq_some_iff.1 hd).1
        obtain ⟨q, hq⟩ : ∃ q, q = m + 1 := ⟨_, rfl⟩
        rw [← hq] at hd hq1
        have hq2 : q < n := by have := HN.out; omega
        have hq3 : (q : Int) < n := by omega
        have wr1 : IntKind.i64.wrap ((m : Int) + 1) = (q : Int) := (IntWalk.i64_in _ (by omega)).trans (by omega)
        have y0 := fx q _ hd 0 _ rfl
        have y1 := fx q _ hd 1 _ rfl
        have y2 := fx q _ hd 2 _ rfl
        have y3 := fx q _ hd 3 _ rfl
        have y4 := fx q _ hd 4 _ rfl
        have y5 := fx q _ hd 5 _ rfl
        have y6 := fx q _ hd 6 _ rfl
        simp only [tail_, Nat.add_zero] at y0 y1 y2 y3 y4 y5 y6
        have hqq : ∀ w, (Op.equalIn 10000 34 (.agg #[.bool y.b, .bool y.u, .bool y.i, .int .i64 y.f, .int .i64 y.g]) (.agg #[.bool y.b, .bool y.u, .bool y.i, .int .i64 y.f, .int .i64 y.g])).run Tryd.prog w = .ok true w := fun w => (run_eq_sty 9998 y.b y.u y.i y.b y.u y.i y.f y.g y.f y.g w).trans (by simp)
        have hguard := sty_guard
        have HNX := Lib.hid hnext
        have HQE := Lib.hid hq
        clear hnext hx fx hcx HT hq1 hd hq
        go_wp2_with (fail)
        go_quiet (fail)
        go_wp2_with (fail)
        go_roundw
        case rel => exact ⟨q, m + 2, rfl, by go_num, by omega, by have := HQE.out; omega, by have := HNX.out; rw [← HQE.out] at this; exact this, below_dN HBE.out _⟩
        case measure => have := HQE.out; simp [intOf]; omega
    · have hki : ¬ (k : Int) < n := by omega
      obtain rfl : k = n := by omega
      have hend : m = k := by have := colsTo_end HF.out (HN.out ▸ HT.out); have := HN.out; omega
      subst hend
      go_wp2
      go_ret
      exact ⟨rfl, HBE.out⟩
end Go.Proofs.YtijbimofigkdkaaDoor
