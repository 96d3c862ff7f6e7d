/-
  Walks: the small functions of package frame.
-/
import Derived.Test.YtaijiapolippaaaDoorFrMath
import Derived.Test.YtaijiapolippaaaDoorGfF
import Derived.Test.YtaijiapolippaaaDoorGfG
import Derived.Test.YtaijiapolippaaaDoorQuietB
import Derived.Deep.QuietTactic
import Derived.BigQuiet
namespace Go.Proofs.YtaijiapolippaaaDoor
open Go.RowKit Go.Sort
set_option linter.unusedVariables false
set_option linter.unusedSimpArgs false

def fsizeB (a b : Int) : Bool := decide (1 ≤ a ∧ a ≤ 500 ∧ 1 ≤ b ∧ b ≤ 60)
def fwithB (i n : Int) : Bool := decide (0 ≤ i ∧ i < n)
set_option maxHeartbeats 400000 in
theorem fsize_any (a b : Int) (w : World) : Calls Tryd.prog 99 #[.int .i64 a, .int .i64 b] w fun e w' => e = .returned (.bool (fsizeB a b)) ∧ w = w' := by
  go_enter Tryd.func99, Tryd.ntmps99
  go_wp2
  all_goals
    go_ret
    exact ⟨ret_bool (by unfold fsizeB; rw [Bool.eq_iff_iff]; simp; try omega), rfl⟩
set_option maxHeartbeats 400000 in
theorem fwith_any (i n : Int) (w : World) : Calls Tryd.prog 100 #[.int .i64 i, .int .i64 n] w fun e w' => e = .returned (.bool (fwithB i n)) ∧ w = w' := by
  go_enter Tryd.func100, Tryd.ntmps100
  go_wp2
  all_goals
    go_ret
    exact ⟨ret_bool (by unfold fwithB; rw [Bool.eq_iff_iff]; simp; try omega), rfl⟩
theorem styB_eq (y : Sty) : styB y = (fwithB y.f 9 && fwithB y.g 9) := by
  unfold styB fwithB; rw [Bool.eq_iff_iff]; simp; omega
set_option maxHeartbeats 400000 in
theorem fstyle_any (y : Sty) (w : World) : Calls Tryd.prog 108 #[.agg y.cells.toArray] w fun e w' => e = .returned (.bool (styB y)) ∧ Below w.heap.size w w' := by
  rw [styB_eq]
  obtain ⟨b, u, i, f, g⟩ := y
  simp only [Sty.cells]
  have HW := Lib.hid fwith_any
  obtain ⟨v1, h1⟩ : ∃ v, v = fwithB f 9 := ⟨_, rfl⟩
  obtain ⟨v2, h2⟩ : ∃ v, v = fwithB g 9 := ⟨_, rfl⟩
  rw [← h1, ← h2]
  have H1 := Lib.hid (And.intro h1 h2)
  clear h1 h2
  cases v1
  all_goals
    go_enter Tryd.func108, Tryd.ntmps108
    go_wp2_with (go_at_call 100; refine (HW.out _ _ _).mono ?_; rintro e w' ⟨rfl, rfl⟩; first | rw [← H1.out.1] | rw [← H1.out.2])
    go_ret
    exact ⟨rfl, (Below.refl _ w).alloc (Nat.le_refl _) _⟩

theorem fis_l (s : List UInt8) (hs : s.length ≤ 2000000) (w : World) (hT : Tabs w) :
    Calls Tryd.prog 173 #[.string ⟨s.toArray⟩] w fun e w' => e = .returned (.bool (isC s)) ∧ Below w.heap.size w w' := cis_any ⟨s.toArray⟩ (by show s.toArray.size ≤ _; simpa using hs) w hT
theorem fwidth_l (s : List UInt8) (hs : s.length ≤ 2000000) (w : World) (hT : Tabs w) :
    Calls Tryd.prog 111 #[.string ⟨s.toArray⟩] w fun e w' => e = .returned (.int .i64 (fw (rs s))) ∧ Below w.heap.size w w' := cwidth_any ⟨s.toArray⟩ (by show s.toArray.size ≤ _; simpa using hs) w hT
set_option maxRecDepth 100000 in
set_option maxHeartbeats 4000000 in
theorem fcell_any (c : Cl) (hs : c.s.length ≤ 2000000) (w : World) (hT : Tabs w) :
    Calls Tryd.prog 134 #[.agg c.cells.toArray] w fun e w' => e = .returned (.bool (cellOk c)) ∧ Below w.heap.size w w' := by
  have hB := Blk.new w 123 c.cells
  have hTT : ∀ d os, Tabs (grow (redrawn (w.alloc (.cells c.cells.toArray 123)) d) os) := fun d os => (hT.below ((Below.refl _ w).alloc (Nat.le_refl _) _)).below (below_regrown _ d os)
  obtain ⟨s, m, ⟨b, u, i, f, g⟩⟩ := c
  simp only [Cl.cells] at hB hTT ⊢
  have x0 := cell_regrown (hB.cell 0)
  have x1 := cell_regrown (hB.cell 1)
  have x2 := cell_regrown (hB.cell 2)
  have x3 := cell_regrown (hB.cell 3)
  have x4 := cell_regrown (hB.cell 4)
  have x5 := cell_regrown (hB.cell 5)
  have x6 := cell_regrown (hB.cell 6)
  obtain ⟨W0, hW0⟩ : ∃ W0, W0 = w.alloc (.cells #[.string ⟨s.toArray⟩, .int .i64 m, .bool b, .bool u, .bool i, .int .i64 f, .int .i64 g] 123) := ⟨_, rfl⟩
  have Q1 := fun d os => Calls.regrown_of (fstyle_any ⟨b, u, i, f, g⟩ (grow (redrawn W0 d) os))
  have Q2 := fun d os => Calls.regrown_of (fis_l s hs (grow (redrawn W0 d) os) (by rw [hW0]; exact hTT d os))
  have Q3 := fun d os => Calls.regrown_of (fwidth_l s hs (grow (redrawn W0 d) os) (by rw [hW0]; exact hTT d os))
  simp only [Sty.cells] at Q1
  have hbel : ∀ d os, Below w.heap.size w (grow (redrawn W0 d) os) := fun d os => ((by rw [hW0]; exact (Below.refl _ w).alloc (Nat.le_refl _) _ : Below w.heap.size w W0)).trans ((below_regrown W0 d os).mono (by rw [hW0]; simp))
  have e : cellOk ⟨s, m, ⟨b, u, i, f, g⟩⟩ = (styB ⟨b, u, i, f, g⟩ && (isC s && decide (m = fw (rs s)))) := rfl
  rw [e]
  generalize styB ⟨b, u, i, f, g⟩ = v1 at Q1 ⊢
  generalize isC s = v2 at Q2 ⊢
  generalize fw (rs s) = v3 at Q3 ⊢
  rw [← hW0] at x0 x1 x2 x3 x4 x5 x6
  have HW0 := Lib.hid hW0
  have HBEL := Lib.hid hbel
  have Q1 := Lib.hid Q1
  have Q2 := Lib.hid Q2
  have Q3 := Lib.hid Q3
  clear hB hTT hW0 e hbel hT
  cases v1 <;> cases v2
  all_goals
    go_enter Tryd.func134, Tryd.ntmps134
    go_wp2_with (fail)
    rw [← HW0.out]
    refine region_below0 (by kernel_rfl) (by kernel_rfl) ?_
    repeat (first
      | go_big_quiet_step (first | with_reducible exact Q1.out _ _ | with_reducible exact Q2.out _ _ | with_reducible exact Q3.out _ _)
      | quiet_step (first | with_reducible exact Q1.out _ _ | with_reducible exact Q2.out _ _ | with_reducible exact Q3.out _ _))
    refine wpQuiet_nil ?_
    intro _ hw'
    obtain ⟨⟨dq, osq⟩, hw''⟩ := hw'
    subst hw''
    go_wp2
    go_ret
    exact ⟨ret_bool (by simp <;> (try rw [Bool.eq_iff_iff]) <;> simp), HBEL.out _ _⟩

/-- does a row begin with a cell? -/
def begB (l : List Cl) (t : Cl) : Bool := decide (l.head? = some t)
set_option maxRecDepth 100000 in
set_option maxHeartbeats 4000000 in
theorem fbegins_any (l : List Cl) (t : Cl) (n c B : Nat) (A : Option Addr) (w : World) (hn : n = l.length) (h5 : n ≤ 100000) (hA : Sl w B A (rc l)) (hB : B ≤ w.heap.size) :
    Calls Tryd.prog 135 #[.slice A n c, .agg t.cells.toArray] w fun e w' => e = .returned (.bool (begB l t)) ∧ Below w.heap.size w w' := by
  have HQ := Lib.hid run_eq_cl
  have hg := cl_guard
  have hT := Blk.new w 123 t.cells
  have y0 := hT.cell 0
  have y1 := hT.cell 1
  have y2 := hT.cell 2
  have y3 := hT.cell 3
  have y4 := hT.cell 4
  have y5 := hT.cell 5
  have y6 := hT.cell 6
  simp only [Cl.cells, List.getElem?_cons_zero, List.getElem?_cons_succ] at y0 y1 y2 y3 y4 y5 y6
  obtain ⟨W0, hW0⟩ : ∃ W0, W0 = w.alloc (.cells #[.string ⟨t.s.toArray⟩, .int .i64 t.w, .bool t.y.b, .bool t.y.u, .bool t.y.i, .int .i64 t.y.f, .int .i64 t.y.g] 123) := ⟨_, rfl⟩
  have hS : Sl W0 w.heap.size A (rc l) := by rw [hW0]; exact (hA.more hB).alloc (Nat.le_refl _) _
  have hb0 : Below w.heap.size w W0 := by rw [hW0]; exact (Below.refl _ w).alloc (Nat.le_refl _) _
  have HB0 := Lib.hid hb0
  have HW0 := Lib.hid hW0
  have e0 : w.alloc (.cells #[.string ⟨t.s.toArray⟩, .int .i64 t.w, .bool t.y.b, .bool t.y.u, .bool t.y.i, .int .i64 t.y.f, .int .i64 t.y.g] 123) = W0 := hW0.symm
  rw [show (w.alloc (.cells (Array.mk [Value.string ⟨t.s.toArray⟩, .int .i64 t.w, .bool t.y.b, .bool t.y.u, .bool t.y.i, .int .i64 t.y.f, .int .i64 t.y.g]) 123)) = W0 from e0] at y0 y1 y2 y3 y4 y5 y6
  simp only [Cl.cells]
  rcases l with _ | ⟨d, l⟩
  · subst hn
    clear hT hA hS hb0 hW0 e0 y0 y1 y2 y3 y4 y5 y6 hg
    go_enter Tryd.func135, Tryd.ntmps135
    go_wp2_with (fail)
    go_quiet (fail)
    go_wp2
    go_ret
    refine ⟨rfl, ?_⟩
    exact below_dN ((Below.refl _ w).alloc (Nat.le_refl _) _) _
  · obtain ⟨b, off, rfl, hbb, hcx⟩ := hS.open_ (by rw [rc_length]; simp)
    have fx : ∀ j v, d.cells[j]? = some v → W0.cell? ⟨b, off + j, none⟩ = some v := fun j v hv => hcx _ v (by have := rc_get (l := d :: l) (k := 0) (c := d) rfl hv; simpa using this)
    have x0 := fx 0 _ rfl
    have x1 := fx 1 _ rfl
    have x2 := fx 2 _ rfl
    have x3 := fx 3 _ rfl
    have x4 := fx 4 _ rfl
    have x5 := fx 5 _ rfl
    have x6 := fx 6 _ rfl
    simp only [Nat.add_zero] at x0
    have hq := fun w => HQ.out d t w
    have hb : begB (d :: l) t = decide (d = t) := by simp [begB]
    rw [hb]
    have hn0 : 0 < n := by rw [hn]; simp
    clear hT hA hS hb0 hW0 e0 fx hcx hb hn HQ
    generalize decide (d = t) = v at hq ⊢
    go_enter Tryd.func135, Tryd.ntmps135
    go_wp2_with (fail)
    rw [← HW0.out]
    go_quiet (fail)
    go_wp2
    go_ret
    exact ⟨rfl, below_dN HB0.out _⟩
end Go.Proofs.YtaijiapolippaaaDoor
