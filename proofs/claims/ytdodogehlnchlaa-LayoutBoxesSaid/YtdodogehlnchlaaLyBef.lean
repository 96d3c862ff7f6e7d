/-
  Walk: isBefore, ahead.
-/
import Derived.Test.YtdodogehlnchlaaLyDrop
namespace Go.Proofs.Ytdodogehlnchlaa
open Go.RowKit Go.Shelf Go.Sort
attribute [local go_sem] Oper.semAt_some
set_option linter.unusedVariables false
set_option linter.unusedSimpArgs false

/-- a slot's numbers are in bounds -/
structure SlBd (s : Slt) : Prop where
  a : 0 ≤ s.sz - s.p.mn
  b : s.sz ≤ 500
  c : 0 ≤ s.p.mn
  d : 0 ≤ s.p.wt
  e : s.p.wt ≤ 100
  f : s.sz ≤ s.p.mx
theorem SlBd.mul {s o : Slt} (h : SlBd s) (k : SlBd o) : 0 ≤ (s.sz - s.p.mn + 1) * o.p.wt ∧ (s.sz - s.p.mn + 1) * o.p.wt ≤ 50100 := by
  have h1 := h.a; have h2 := h.b; have h3 := h.c; have k1 := k.d; have k2 := k.e
  refine ⟨Int.mul_nonneg (by omega) k1, ?_⟩
  have e1 : (s.sz - s.p.mn + 1) * o.p.wt ≤ (s.sz - s.p.mn + 1) * 100 := Int.mul_le_mul_of_nonneg_left k2 (by omega)
  omega

set_option maxRecDepth 100000 in
set_option maxHeartbeats 4000000 in
theorem before_any (B n : Nat) (σ : Sts) (w : World) (hS : Blk w B 62 (slB σ n)) (x y : Nat) (hx : x < n) (hy : y < n) (bx : SlBd (σ x)) (by_ : SlBd (σ y)) :
    Calls Try.prog 48 #[.pointer (some ⟨B, x * 7, none⟩), .pointer (some ⟨B, y * 7, none⟩)] w fun e w' => e = .returned (.bool (bef (σ x) (σ y))) ∧ Below w.heap.size w w' := by
  have c1 : w.cell? ⟨B, x * 7 + 6, none⟩ = some (.int .i64 (σ x).sz) := by rw [hS.cell, slB_get hx (by omega)]; rfl
  have c2 : w.cell? ⟨B, x * 7, none⟩ = some (.int .i64 (σ x).p.mn) := by rw [hS.cell, show x * 7 = x * 7 + 0 by omega, slB_get hx (by omega)]; rfl
  have c3 : w.cell? ⟨B, x * 7 + 2, none⟩ = some (.int .i64 (σ x).p.wt) := by rw [hS.cell, slB_get hx (by omega)]; rfl
  have d1 : w.cell? ⟨B, y * 7 + 6, none⟩ = some (.int .i64 (σ y).sz) := by rw [hS.cell, slB_get hy (by omega)]; rfl
  have d2 : w.cell? ⟨B, y * 7, none⟩ = some (.int .i64 (σ y).p.mn) := by rw [hS.cell, show y * 7 = y * 7 + 0 by omega, slB_get hy (by omega)]; rfl
  have d3 : w.cell? ⟨B, y * 7 + 2, none⟩ = some (.int .i64 (σ y).p.wt) := by rw [hS.cell, slB_get hy (by omega)]; rfl
  have k1 := cell_regrown c1
  have k2 := cell_regrown c2
  have k3 := cell_regrown c3
  have l1 := cell_regrown d1
  have l2 := cell_regrown d2
  have l3 := cell_regrown d3
  have m1 := bx.mul by_
  have m2 := by_.mul bx
  have q1 := bx.a; have q2 := bx.b; have q3 := bx.c
  have r1 := by_.a; have r2 := by_.b; have r3 := by_.c
  obtain ⟨m1a, m1b⟩ := m1
  obtain ⟨m2a, m2b⟩ := m2
  have HV : Hid (bef (σ x) (σ y) = decide (((σ x).sz - (σ x).p.mn + 1) * (σ y).p.wt < ((σ y).sz - (σ y).p.mn + 1) * (σ x).p.wt)) := rfl
  generalize bef (σ x) (σ y) = v at HV ⊢
  generalize (σ x).sz = a1 at *
  generalize (σ x).p.mn = a2 at *
  generalize (σ x).p.wt = a3 at *
  generalize (σ y).sz = b1 at *
  generalize (σ y).p.mn = b2 at *
  generalize (σ y).p.wt = b3 at *
  obtain ⟨u1, hu1⟩ : ∃ u, a1 - a2 + 1 = u := ⟨_, rfl⟩
  obtain ⟨u2, hu2⟩ : ∃ u, b1 - b2 + 1 = u := ⟨_, rfl⟩
  rw [hu1] at m1a m1b HV
  rw [hu2] at m2a m2b HV
  obtain ⟨p1, hp1⟩ : ∃ u, u1 * b3 = u := ⟨_, rfl⟩
  obtain ⟨p2, hp2⟩ : ∃ u, u2 * a3 = u := ⟨_, rfl⟩
  rw [hp1] at m1a m1b HV
  rw [hp2] at m2a m2b HV
  clear c1 c2 c3 d1 d2 d3 bx by_
  go_enter Try.func48, Try.ntmps48
  go_wp2_with (fail)
  refine region_below0 (by kernel_rfl) (by kernel_rfl) ?_
  repeat (first
    | go_big_quiet_step (fail)
    | quiet_step (fail))
  refine wpQuiet_nil ?_
  intro _ hw'
  obtain ⟨⟨dq, osq⟩, hw''⟩ := hw'
  subst hw''
  have HBQ := Lib.hid (below_regrown w dq osq)
  go_wp2_with (fail)
  go_ret
  refine ⟨ret_bool ?_, HBQ.out⟩
  rw [HV.out]

set_option maxHeartbeats 1000000 in
theorem ahead_any (s al : Int) (h0 : 0 ≤ s) (h1 : s ≤ 500) (w : World) : Calls Try.prog 42 #[.int .i64 s, .int .i64 al] w fun e w' => e = .returned (.int .i64 (if al = 1 then s else if al = 2 then s / 2 else 0)) ∧ w' = w := by
  by_cases e1 : al = 1
  · rw [if_pos e1]
    subst e1
    go_enter Try.func42, Try.ntmps42
    go_wp2
    go_ret
    exact ⟨rfl, rfl⟩
  · rw [if_neg e1]
    by_cases e2 : al = 2
    · rw [if_pos e2]
      subst e2
      obtain ⟨k, rfl⟩ : ∃ k : Nat, s = k := ⟨s.toNat, by omega⟩
      have hq : ((k / 2 : Nat) : Int) = (k : Int) / 2 := by omega
      go_enter Try.func42, Try.ntmps42
      go_wp2
      go_ret
      exact ⟨ret_int (by omega), rfl⟩
    · rw [if_neg e2]
      go_enter Try.func42, Try.ntmps42
      go_wp2
      go_ret
      exact ⟨rfl, rfl⟩
end Go.Proofs.Ytdodogehlnchlaa
