/-
  Walks: runes.head and runes.Next.
-/
import Derived.Test.YteolafeeggjblaaDoorRows
import Derived.Test.YteolafeeggjblaaDoorSl
import Derived.Test.YteolafeeggjblaaDoorRnMath
import Derived.Deep.QuietTactic
import Derived.BigQuiet
namespace Go.Proofs.YteolafeeggjblaaDoor
open Go.RowKit

theorem ret_i3 {k1 k2 k3 : IntKind} {a b c a' b' c' : Int} (h1 : a = a') (h2 : b = b') (h3 : c = c') :
    Ending.returned (.tuple #[.int k1 a, .int k2 b, .int k3 c]) = .returned (.tuple #[.int k1 a', .int k2 b', .int k3 c']) := by rw [h1, h2, h3]

set_option maxHeartbeats 400000 in
theorem head_any (c : Int) (w : World) (h0 : 0 ≤ c) (h1 : c < 256) :
    Calls Tryd.prog 73 #[.int .u8 c] w fun e w' => e = .returned (.tuple #[.int .i64 (hsz c), .int .u8 (hlo c), .int .u8 (hhi c)]) ∧ w = w' := by
  have hcase : c < 128 ∨ (128 ≤ c ∧ c < 194) ∨ (194 ≤ c ∧ c < 224) ∨ c = 224 ∨ c = 237 ∨ (224 < c ∧ c < 240 ∧ c ≠ 237) ∨ c = 240 ∨ (240 < c ∧ c < 244) ∨ c = 244 ∨ 244 < c := by omega
  rcases hcase with h | h | h | rfl | rfl | h | rfl | h | rfl | h
  all_goals
    go_enter Tryd.func73, Tryd.ntmps73
    go_wp2
    go_ret3
    exact ⟨ret_i3 (by simp only [hsz]; (repeat' split) <;> omega) (by first | rfl | (simp only [hlo]; (repeat' split) <;> omega)) (by first | rfl | (simp only [hhi]; (repeat' split) <;> omega)), rfl⟩

/-- The fold of three results into the value that Next returns. -/
def nv (p : Int × Int × Bool) : Ending := .returned (.tuple #[.int .i32 p.1, .int .i64 p.2.1, .bool p.2.2])

set_option maxHeartbeats 400000 in
theorem next_nil (A : Option Addr) (cap : Nat) (w : World) :
    Calls Tryd.prog 61 #[.slice A 0 cap] w fun e w' => e = nv (nx []) ∧ Below w.heap.size w w' := by
  go_enter Tryd.func61, Tryd.ntmps61
  go_wp2
  go_ret3
  exact ⟨rfl, Below.refl _ _⟩

theorem nx_zero {c : UInt8} {t : List UInt8} (h : hsz c.toNat = 0) : nx (c :: t) = (65533, 1, false) := by simp [nx, h]
theorem nx_one {c : UInt8} {t : List UInt8} (h : hsz c.toNat = 1) : nx (c :: t) = ((c.toNat : Int), 1, false) := by simp [nx, h]

set_option maxHeartbeats 400000 in
theorem next_short (b off cap : Nat) (c : UInt8) (t : List UInt8) (w : World) (hn : t.length < 9000000000000000000) (h : hsz c.toNat = 0 ∨ hsz c.toNat = 1)
    (hc : w.cell? ⟨b, off, none⟩ = some (.int .u8 c.toNat)) :
    Calls Tryd.prog 61 #[.slice (some ⟨b, off, none⟩) (t.length + 1) cap] w fun e w' => e = nv (nx (c :: t)) ∧ Below w.heap.size w w' := by
  have hu := u8lt c
  have hz : ((t.length : Int) + 1 == 0) = false := by simp; omega
  have hpos : (0 : Int) < (t.length : Int) + 1 := by omega
  rcases h with h | h
  · have Fin := Lib.hid (nx_zero (t := t) h)
    go_enter Tryd.func61, Tryd.ntmps61
    go_wp2_with (go_at_call 73; refine (head_any _ _ (by omega) (by omega)).mono ?_; rintro e w' ⟨rfl, rfl⟩)
    go_ret3
    exact ⟨by rw [Fin.out]; rfl, Below.refl _ _⟩
  · have Fin := Lib.hid (nx_one (t := t) h)
    go_enter Tryd.func61, Tryd.ntmps61
    go_wp2_with (go_at_call 73; refine (head_any _ _ (by omega) (by omega)).mono ?_; rintro e w' ⟨rfl, rfl⟩)
    go_ret3
    exact ⟨by rw [Fin.out]; rfl, Below.refl _ _⟩
end Go.Proofs.YteolafeeggjblaaDoor
