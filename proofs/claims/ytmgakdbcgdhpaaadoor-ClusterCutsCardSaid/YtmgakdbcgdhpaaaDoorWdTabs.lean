/-
  Walks: the reference's ranges.
-/
import Derived.Test.YtmgakdbcgdhpaaaDoorWdOf
import Derived.Test.YtmgakdbcgdhpaaaDoorSl
namespace Go.Proofs.YtmgakdbcgdhpaaaDoor
open Go.RowKit Go.Shelf
set_option linter.unusedVariables false

def flatT (T : List (Int × Int)) : List Value := T.flatMap fun x => [.int .i32 x.1, .int .i32 x.2]
theorem flatT_get (T : List (Int × Int)) : ∀ k x, T[k]? = some x → (flatT T)[2 * k]? = some (.int .i32 x.1) ∧ (flatT T)[2 * k + 1]? = some (.int .i32 x.2) := by
  induction T with
  | nil => intro k x h; simp at h
  | cons y T ih =>
    intro k x h
    have e : flatT (y :: T) = .int .i32 y.1 :: .int .i32 y.2 :: flatT T := rfl
    cases k with
    | zero => simp at h; subst h; rw [e]; simp
    | succ k =>
      simp at h
      have := ih k x h
      rw [e, show 2 * (k + 1) = 2 * k + 1 + 1 from by omega, show 2 * k + 1 + 1 + 1 = (2 * k + 1) + 1 + 1 from rfl]
      simpa using this
theorem Tab.new (w : World) (cs : Array Value) (t : TypeId) (T : List (Int × Int)) (h : cs.toList = flatT T) : Tab (w.alloc (.cells cs t)) w.heap.size T := by
  intro k x hx
  obtain ⟨h1, h2⟩ := flatT_get T k x hx
  rw [← h] at h1 h2
  constructor
  · rw [World.cell?_alloc_new]; simpa using h1
  · rw [World.cell?_alloc_new]; simpa using h2

set_option maxRecDepth 100000 in
set_option maxHeartbeats 2000000 in
theorem rmarks_any (w : World) : Calls Tryd.prog 20 #[] w fun e w' => e = .returned (.slice (some ⟨w.heap.size, 0, none⟩) 28 28) ∧ Below w.heap.size w w' ∧ Tab w' w.heap.size mkT ∧ w.heap.size < w'.heap.size := by
  go_enter Tryd.func20, Tryd.ntmps20
  go_wp2
  go_ret
  exact ⟨rfl, (Below.refl _ _).alloc (Nat.le_refl _) _, Tab.new _ _ _ _ rfl, by simp⟩
set_option maxRecDepth 100000 in
set_option maxHeartbeats 2000000 in
theorem rwides_any (w : World) : Calls Tryd.prog 21 #[] w fun e w' => e = .returned (.slice (some ⟨w.heap.size, 0, none⟩) 51 51) ∧ Below w.heap.size w w' ∧ Tab w' w.heap.size wdT ∧ w.heap.size < w'.heap.size := by
  go_enter Tryd.func21, Tryd.ntmps21
  go_wp2
  go_ret
  exact ⟨rfl, (Below.refl _ _).alloc (Nat.le_refl _) _, Tab.new _ _ _ _ rfl, by simp⟩

end Go.Proofs.YtmgakdbcgdhpaaaDoor
