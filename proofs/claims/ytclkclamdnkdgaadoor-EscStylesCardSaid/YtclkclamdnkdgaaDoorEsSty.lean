/-
  Walks: esc's isColor, Check, loses, color, and the reference's Check, colour.
-/
import Derived.Test.YtclkclamdnkdgaaDoorEsFns
import Derived.Test.YtclkclamdnkdgaaDoorOwn
namespace Go.Proofs.YtclkclamdnkdgaaDoor
open Go.RowKit
set_option linter.unusedVariables false
set_option linter.unusedSimpArgs false

/-- a style as a value -/
def Sty.val (y : Sty) : Value := .agg #[.bool y.b, .bool y.u, .bool y.i, .int .i64 y.f, .int .i64 y.g]
def Sty.ok (y : Sty) : Prop := i64b y.f ∧ i64b y.g
theorem sty_size : (Tryd.prog.info? 33).map (·.size) = some 5 := by kernel_rfl
theorem Sty.one (y : Sty) : ∀ v ∈ y.cells, v.oneCell' = true := by
  intro v hv
  simp [Sty.cells] at hv
  rcases hv with rfl | rfl | rfl | rfl | rfl <;> rfl
theorem Sty.len (y : Sty) : y.cells.length = 5 := rfl

def colB8 (n : Int) : Bool := decide (0 ≤ n) && decide (n ≤ 8)
theorem isColor_any (n : Int) (w : World) :
    Calls Tryd.prog 45 #[.int .i64 n] w fun e w' => e = .returned (.bool (colB8 n)) ∧ w = w' := by
  by_cases h : 0 ≤ n
  · by_cases h2 : n ≤ 8
    · have HE := Lib.hid (show colB8 n = true by unfold colB8; simp [h, h2])
      go_enter Tryd.func45, Tryd.ntmps45
      go_wp2
      go_ret
      exact ⟨ret_bool (by rw [HE.out]), rfl⟩
    · have HE := Lib.hid (show colB8 n = false by unfold colB8; simp [h, h2])
      go_enter Tryd.func45, Tryd.ntmps45
      go_wp2
      go_ret
      exact ⟨ret_bool (by rw [HE.out]), rfl⟩
  · have HE := Lib.hid (show colB8 n = false by unfold colB8; simp [h])
    go_enter Tryd.func45, Tryd.ntmps45
    go_wp2
    go_ret
    exact ⟨ret_bool (by rw [HE.out]), rfl⟩

def okB (y : Sty) : Bool := colB8 y.f && colB8 y.g
theorem okB_iff (y : Sty) : okB y = true ↔ okS y := by
  unfold okB colB8 okS
  simp
  constructor
  · rintro ⟨⟨a, b⟩, c, d⟩; exact ⟨a, b, c, d⟩
  · rintro ⟨a, b, c, d⟩; exact ⟨⟨a, b⟩, c, d⟩
def errN (y : Sty) : Int := if okB y = true then 0 else 60
theorem errN_yes {y : Sty} (h : okS y) : errN y = 0 := if_pos ((okB_iff y).2 h)
theorem errN_no {y : Sty} (h : ¬ okS y) : errN y = 60 := if_neg (fun e => h ((okB_iff y).1 e))

set_option maxHeartbeats 1000000 in
theorem check_sty (y : Sty) (w : World) :
    Calls Tryd.prog 26 #[y.val] w fun e w' => e = .returned (.int .i64 (errN y)) ∧ Below w.heap.size w w' := by
  obtain ⟨yb, yu, yi, f, g⟩ := y
  have P1 := Lib.hid (isColor_any f)
  have P2 := Lib.hid (isColor_any g)
  have HE : Hid (errN ⟨yb, yu, yi, f, g⟩ = if (colB8 f && colB8 g) = true then 0 else 60) := Lib.hid rfl
  show Calls Tryd.prog 26 #[.agg #[.bool yb, .bool yu, .bool yi, .int .i64 f, .int .i64 g]] w _
  generalize errN ⟨yb, yu, yi, f, g⟩ = r at HE
  generalize colB8 f = d1 at *
  generalize colB8 g = d2 at *
  cases d1 <;> cases d2
  all_goals
    go_enter Tryd.func26, Tryd.ntmps26
    go_wp2_with (first
      | ((with_reducible refine (P1.out _).mono ?_); rintro e w' ⟨rfl, rfl⟩)
      | ((with_reducible refine (P2.out _).mono ?_); rintro e w' ⟨rfl, rfl⟩))
    go_ret
    exact ⟨ret_int (by rw [HE.out]; rfl), (Below.refl _ _).alloc (Nat.le_refl _) _⟩

set_option maxHeartbeats 1000000 in
theorem rcheck_sty (y : Sty) (w : World) :
    Calls Tryd.prog 27 #[y.val] w fun e w' => e = .returned (.int .i64 (errN y)) ∧ Below w.heap.size w w' := by
  obtain ⟨yb, yu, yi, f, g⟩ := y
  show Calls Tryd.prog 27 #[.agg #[.bool yb, .bool yu, .bool yi, .int .i64 f, .int .i64 g]] w _
  have hc : f < 0 ∨ 8 < f ∨ (0 ≤ f ∧ f ≤ 8 ∧ g < 0) ∨ (0 ≤ f ∧ f ≤ 8 ∧ 8 < g) ∨ (0 ≤ f ∧ f ≤ 8 ∧ 0 ≤ g ∧ g ≤ 8) := by omega
  rcases hc with h | h | ⟨h1, h2, h⟩ | ⟨h1, h2, h⟩ | ⟨h1, h2, h3, h⟩
  · have HE := Lib.hid (errN_no (y := ⟨yb, yu, yi, f, g⟩) (by unfold okS; simp; omega))
    go_enter Tryd.func27, Tryd.ntmps27
    go_wp2
    go_ret
    exact ⟨ret_int (by rw [HE.out]), (Below.refl _ _).alloc (Nat.le_refl _) _⟩
  · have HE := Lib.hid (errN_no (y := ⟨yb, yu, yi, f, g⟩) (by unfold okS; simp; omega))
    have h1 : ¬ f < 0 := by omega
    go_enter Tryd.func27, Tryd.ntmps27
    go_wp2
    go_ret
    exact ⟨ret_int (by rw [HE.out]), (Below.refl _ _).alloc (Nat.le_refl _) _⟩
  · have HE := Lib.hid (errN_no (y := ⟨yb, yu, yi, f, g⟩) (by unfold okS; simp; omega))
    have h1' : ¬ f < 0 := by omega
    have h2' : ¬ 8 < f := by omega
    go_enter Tryd.func27, Tryd.ntmps27
    go_wp2
    go_ret
    exact ⟨ret_int (by rw [HE.out]), (Below.refl _ _).alloc (Nat.le_refl _) _⟩
  · have HE := Lib.hid (errN_no (y := ⟨yb, yu, yi, f, g⟩) (by unfold okS; simp; omega))
    have h1' : ¬ f < 0 := by omega
    have h2' : ¬ 8 < f := by omega
    have h3' : ¬ g < 0 := by omega
    go_enter Tryd.func27, Tryd.ntmps27
    go_wp2
    go_ret
    exact ⟨ret_int (by rw [HE.out]), (Below.refl _ _).alloc (Nat.le_refl _) _⟩
  · have HE := Lib.hid (errN_yes (y := ⟨yb, yu, yi, f, g⟩) (by unfold okS; simp; omega))
    have h1' : ¬ f < 0 := by omega
    have h2' : ¬ 8 < f := by omega
    have h3' : ¬ g < 0 := by omega
    have h4' : ¬ 8 < g := by omega
    go_enter Tryd.func27, Tryd.ntmps27
    go_wp2
    go_ret
    exact ⟨ret_int (by rw [HE.out]), (Below.refl _ _).alloc (Nat.le_refl _) _⟩

theorem color_any (k n : Int) (hk : 0 ≤ k) (hk1 : k ≤ 100) (hn : 0 ≤ n) (hn8 : n ≤ 8) (w : World) :
    Calls Tryd.prog 53 #[.int .i64 k, .int .i64 n] w fun e w' => e = .returned (.int .i64 (colN k n)) ∧ w = w' := by
  by_cases h : n = 0
  · subst h
    go_enter Tryd.func53, Tryd.ntmps53
    go_wp2
    go_ret
    exact ⟨rfl, rfl⟩
  · have HE := Lib.hid (show colN k n = k + n - 1 from if_neg h)
    have hb : (n == 0) = false := by simpa using h
    go_enter Tryd.func53, Tryd.ntmps53
    go_wp2
    go_ret
    exact ⟨ret_int (by rw [HE.out]), rfl⟩
theorem colour_any (k n : Int) (hk : 1 ≤ k) (hk1 : k ≤ 100) (hn : 0 ≤ n) (hn8 : n ≤ 8) (w : World) :
    Calls Tryd.prog 46 #[.int .i64 (k - 1), .int .i64 n] w fun e w' => e = .returned (.int .i64 (colN k n)) ∧ w = w' := by
  by_cases h : n = 0
  · subst h
    go_enter Tryd.func46, Tryd.ntmps46
    go_wp2
    go_ret
    exact ⟨ret_int (by unfold colN; rw [if_pos rfl]; omega), rfl⟩
  · have HE := Lib.hid (show colN k n = k + n - 1 from if_neg h)
    have hb : (n == 0) = false := by simpa using h
    go_enter Tryd.func46, Tryd.ntmps46
    go_wp2
    go_ret
    exact ⟨ret_int (by rw [HE.out]; omega), rfl⟩

set_option maxHeartbeats 4000000 in
theorem loses_any (a b : Sty) (w : World) :
    Calls Tryd.prog 52 #[a.val, b.val] w fun e w' => e = .returned (.bool (losesS a b)) ∧ Below w.heap.size w w' := by
  obtain ⟨ab, au, ai, af, ag⟩ := a
  obtain ⟨bb, bu, bi, bf, bg⟩ := b
  have HE : Hid (losesS ⟨ab, au, ai, af, ag⟩ ⟨bb, bu, bi, bf, bg⟩ = ((ab && !bb) || (au && !bu) || (ai && !bi))) := Lib.hid rfl
  show Calls Tryd.prog 52 #[.agg #[.bool ab, .bool au, .bool ai, .int .i64 af, .int .i64 ag], .agg #[.bool bb, .bool bu, .bool bi, .int .i64 bf, .int .i64 bg]] w _
  generalize losesS ⟨ab, au, ai, af, ag⟩ ⟨bb, bu, bi, bf, bg⟩ = r at HE
  go_enter Tryd.func52, Tryd.ntmps52
  go_wp2
  all_goals go_ret
  all_goals exact ⟨ret_bool (by rw [HE.out]; simp_all), ((Below.refl _ _).alloc (Nat.le_refl _) _).alloc (by simp) _⟩
end Go.Proofs.YtclkclamdnkdgaaDoor
