/-
  Walks: what an invalid grid answers: Scroll, Resize, Fork, Same.
-/
import Derived.Test.YtijbimofigkdkaaDoorGrSame
import Derived.Test.YtijbimofigkdkaaDoorGrNew
namespace Go.Proofs.YtijbimofigkdkaaDoor
open Go.RowKit Go.Shelf
attribute [local go_sem] Oper.semAt_some
set_option linter.unusedVariables false
set_option linter.unusedSimpArgs false

set_option maxHeartbeats 1000000 in
theorem scroll_not {w : World} {p : Option Addr} (h : GrNo w p) (n : Int) :
    Calls Tryd.prog 14 #[.pointer p, .int .i64 n] w fun e w' => e = .returned (.int .i64 0) ∧ w = w' := by
  have H := Lib.hid h
  have hm : min (max n 0) 0 = 0 := by omega
  have hm2 : min n 0 = 0 ∨ n < 0 := by omega
  clear h hm2
  go_enter Tryd.func14, Tryd.ntmps14
  go_wp2_with (go_at_call 23; refine (size_not H.out).mono ?_; rintro e w' ⟨rfl, rfl⟩)
  all_goals
    go_ret
    exact ⟨rfl, rfl⟩

set_option maxHeartbeats 1000000 in
theorem resize_not {w : World} {p : Option Addr} (h : GrNo w p) (a b c : Int) :
    Calls Tryd.prog 25 #[.pointer p, .int .i64 a, .int .i64 b, .int .i64 c] w fun e w' => e = .returned (.tuple #[.int .i64 0, .int .i64 4]) ∧ w = w' := by
  have H := Lib.hid h
  clear h
  go_enter Tryd.func25, Tryd.ntmps25
  go_wp2_with (go_at_call 33; refine (made_not H.out).mono ?_; rintro e w' ⟨rfl, rfl⟩)
  go_ret2
  exact ⟨rfl, rfl⟩

set_option maxHeartbeats 1000000 in
theorem fork_not {w : World} {p : Option Addr} (h : GrNo w p) :
    Calls Tryd.prog 11 #[.pointer p] w fun e w' => e = .returned (.pointer none) ∧ Below w.heap.size w w' := by
  have H := Lib.hid h
  clear h
  go_enter Tryd.func11, Tryd.ntmps11
  go_wp2_with (first
    | (go_at_call 23; refine (size_not H.out).mono ?_; rintro e w' ⟨rfl, rfl⟩)
    | (go_at_call 7; refine (new_no 0 0 w (.inl rfl)).mono ?_; rintro e w' ⟨rfl, rfl⟩))
  go_ret
  exact ⟨rfl, (Below.refl _ w).alloc (Nat.le_refl _) _⟩
theorem cell_ltN {w : World} {b o : Nat} {v : Value} (h : w.cell? ⟨b, o, none⟩ = some v) : b < w.heap.size := by
  rcases Nat.lt_or_ge b w.heap.size with h' | h'
  · exact h'
  · simp [World.cell?, Array.getElem?_eq_none h'] at h
theorem quiet_made_not {w : World} {p : Option Addr} (h : GrNo w p) : Calls Tryd.prog 33 #[.pointer p] w fun e w' => e = .returned (.bool false) ∧ w' = w := (made_not h).mono fun e w' ⟨a, b⟩ => ⟨a, b.symm⟩

set_option maxRecDepth 100000 in
set_option maxHeartbeats 2000000 in
/-- Same, where the first is invalid. -/
theorem same_not1 {w : World} {p q : Option Addr} (h : GrNo w p) :
    Calls Tryd.prog 12 #[.pointer p, .pointer q] w fun e w' => e = .returned (.bool false) ∧ Below w.heap.size w w' := by
  obtain ⟨W0, hW0⟩ : ∃ W0, W0 = (w.alloc (.cells #[.pointer q] 23)).alloc (.cells #[.bool false] 4) := ⟨_, rfl⟩
  have hb0 : Below w.heap.size w W0 := by rw [hW0]; exact ((Below.refl _ w).alloc (Nat.le_refl _) _).alloc (by simp) _
  have hx1 : Boxed W0 w.heap.size 23 (.pointer q) := by rw [hW0]; exact (Boxed.new w _ _).alloc _
  have hx2 : Boxed W0 (w.heap.size + 1) 4 (.bool false) := by
    have := Boxed.new (w.alloc (.cells #[.pointer q] 23)) 4 (.bool false)
    rw [hW0]; simpa using this
  have hno : ∀ n, GrNo (W0.drewN n) p := fun n => by
    rcases h with rfl | ⟨g, rfl, hp⟩
    · exact .inl rfl
    · exact .inr ⟨g, rfl, (hb0.cell (p := ⟨g, 0, none⟩) (cell_ltN hp)).trans hp⟩
  have HB0 := Lib.hid hb0
  have Q1 := Lib.hid (fun n => quiet_made_not (hno n))
  have p5 := hx1.cell
  have p6 := hx2.cell
  have p7 := hx2.frozen
  clear h hb0 hx1 hx2 hno
  go_enter Tryd.func12, Tryd.ntmps12
  go_wp2_with (fail)
  rw [← hW0]
  clear hW0
  go_quiet ((go_at_call 33; ((with_reducible refine Calls.quiet_of_same (Q1.out _)))))
  go_wp2
  have hc5 : ((W0.drewN nq).setCell ⟨w.heap.size + 1, 0, none⟩ (.bool false)).cell? ⟨w.heap.size + 1, 0, none⟩ = some (.bool false) := World.cell?_setCell_same' _ _ _ (by rw [World.cell?_drewN, p6]; rfl)
  refine ⟨rfl, .bool false, ?_, rfl, (below_dN HB0.out nq).setCell (p := ⟨w.heap.size + 1, 0, none⟩) (by simp) _⟩
  simp [results, Tryd.f12, go_sem, hc5]

set_option maxRecDepth 100000 in
set_option maxHeartbeats 2000000 in
/-- Same, where the first is a grid and the other is none. -/
theorem same_not2 {w : World} {lo g rb W : Nat} {bs : List Nat} {L : List (List Cl)} {q : Option Addr} (hG : GrAt w lo g rb bs W L) (h : GrNo w q) :
    Calls Tryd.prog 12 #[.pointer (some ⟨g, 0, none⟩), .pointer q] w fun e w' => e = .returned (.bool false) ∧ Below w.heap.size w w' := by
  obtain ⟨W0, hW0⟩ : ∃ W0, W0 = (w.alloc (.cells #[.pointer q] 23)).alloc (.cells #[.bool false] 4) := ⟨_, rfl⟩
  have hb0 : Below w.heap.size w W0 := by rw [hW0]; exact ((Below.refl _ w).alloc (Nat.le_refl _) _).alloc (by simp) _
  have hx1 : Boxed W0 w.heap.size 23 (.pointer q) := by rw [hW0]; exact (Boxed.new w _ _).alloc _
  have hx2 : Boxed W0 (w.heap.size + 1) 4 (.bool false) := by
    have := Boxed.new (w.alloc (.cells #[.pointer q] 23)) 4 (.bool false)
    rw [hW0]; simpa using this
  have hno : ∀ n, GrNo (W0.drewN n) q := fun n => by
    rcases h with rfl | ⟨g, rfl, hp⟩
    · exact .inl rfl
    · exact .inr ⟨g, rfl, (hb0.cell (p := ⟨g, 0, none⟩) (cell_ltN hp)).trans hp⟩
  have HB0 := Lib.hid hb0
  have p1 := (hG.below hb0).ptr
  have Q1 := Lib.hid (fun n => quiet_made g (W0.drewN n) p1)
  have Q2 := Lib.hid (fun n => quiet_made_not (hno n))
  have p5 := hx1.cell
  have p6 := hx2.cell
  have p7 := hx2.frozen
  clear h hb0 hx1 hx2 hno hG
  go_enter Tryd.func12, Tryd.ntmps12
  go_wp2_with (fail)
  rw [← hW0]
  clear hW0
  go_quiet ((go_at_call 33; (first | ((with_reducible refine Calls.quiet_of_same (Q1.out _))) | ((with_reducible refine Calls.quiet_of_same (Q2.out _))))))
  go_wp2
  have hc5 : ((W0.drewN nq).setCell ⟨w.heap.size + 1, 0, none⟩ (.bool false)).cell? ⟨w.heap.size + 1, 0, none⟩ = some (.bool false) := World.cell?_setCell_same' _ _ _ (by rw [World.cell?_drewN, p6]; rfl)
  refine ⟨rfl, .bool false, ?_, rfl, (below_dN HB0.out nq).setCell (p := ⟨w.heap.size + 1, 0, none⟩) (by simp) _⟩
  simp [results, Tryd.f12, go_sem, hc5]
end Go.Proofs.YtijbimofigkdkaaDoor
