/-
  Walks: cluster.All, cluster.join.
-/
import Derived.Test.YtmgakdbcgdhpaaaDoorRnAll
import Derived.Test.YtmgakdbcgdhpaaaDoorRnBytes
import Derived.Test.YtmgakdbcgdhpaaaDoorOwn
import Derived.Test.YtmgakdbcgdhpaaaDoorClMath
namespace Go.Proofs.YtmgakdbcgdhpaaaDoor
open Go.RowKit
set_option linter.unusedVariables false

theorem bv_eb_arr (l : List UInt8) : (bv l).toArray.toList = bv l := rfl

/-- What the boxed row does while a mark joins. -/
def JoinD (w : World) (base : Nat) (A : Option Addr) (k : List UInt8) (e : Ending) (w' : World) : Prop :=
  ∃ A' n' c', e = .returned (.slice A' n' c') ∧ OB w' base A' n' c' k ∧ w.grownBy w' (blk A) ∧ (∀ g, blk A' = some g → blk A = some g ∨ w.heap.size ≤ g)

theorem grown_alloc {w w' : World} {o : Obj} {row : Option Nat} (hg : (w.alloc o).grownBy w' row) : w.grownBy w' row :=
  ⟨hg.os, hg.tape, hg.output, by have := hg.size; simp at this; omega, fun k hk hr => (hg.block k (by simp; omega) hr).trans (Below.heap_alloc _ _ _ hk)⟩

set_option maxHeartbeats 1000000 in
theorem join_any (w : World) (base : Nat) (A : Option Addr) (n c : Nat) (o : List Int) (r : Int) (hO : OB w base A n c (eb o)) (hm : n ≤ 1000) (hb : base ≤ w.heap.size) :
    Calls Tryd.prog 69 #[.slice A n c, .int .i32 r] w (JoinD w base A (eb (jn o r))) := by
  have hl := hO.len
  have h4 := e4_le r
  have hk : ∃ k, e4 r = k := ⟨_, rfl⟩
  obtain ⟨k, hk⟩ := hk
  have HK : Hid (enc (rfix r) = k) := hk
  rw [hk] at h4
  have HO := Lib.hid hO
  clear hO
  by_cases ho : o = []
  · have hn : n = 0 := by rw [hl, ho]; rfl
    subst hn
    have hj : jn o r = o := by unfold jn; rw [if_pos (.inl ho)]
    rw [hj]
    clear ho hl hj hk
    go_enter Tryd.func69, Tryd.ntmps69
    go_wp2_with (go_at_call 61; refine (bytes_any _ _).mono ?_; rintro e w' ⟨rfl, rfl⟩; rw [HK.out])
    go_ret
    exact ⟨A, 0, c, rfl, HO.out.alloc _, World.grownBy_alloc _ _ _, fun g hg => .inl hg⟩
  · have hn : 0 < n := by rw [hl]; exact eb_pos ho
    by_cases h64 : 64 < n + k.length
    · have hj : jn o r = o := by unfold jn; rw [if_pos (.inr (by rw [← hl, hk]; exact h64))]
      rw [hj]
      have hn0 : (n : Int) ≠ 0 := by omega
      have hgt : (64 : Int) < (n : Int) + (k.length : Int) := by omega
      have hz : ((n : Int) == 0) = false := by simp; omega
      clear ho hl hj hk
      go_enter Tryd.func69, Tryd.ntmps69
      go_wp2_with (go_at_call 61; refine (bytes_any _ _).mono ?_; rintro e w' ⟨rfl, rfl⟩; rw [HK.out])
      go_ret
      exact ⟨A, n, c, rfl, HO.out.alloc _, World.grownBy_alloc _ _ _, fun g hg => .inl hg⟩
    · have hj : eb (jn o r) = eb o ++ k := by
        have : jn o r = o ++ [r] := by
          unfold jn
          rw [if_neg (by rw [← hl, hk]; intro h; rcases h with h | h; exact ho h; omega)]
        rw [this, eb_snoc, hk]
      rw [hj]
      have hgt : ¬ (64 : Int) < (n : Int) + (k.length : Int) := by omega
      have hz : ((n : Int) == 0) = false := by simp; omega
      clear ho hl hj hk
      go_enter Tryd.func69, Tryd.ntmps69
      go_wp2_with (first
        | (go_at_call 61; refine (bytes_any _ _).mono ?_; rintro e w' ⟨rfl, rfl⟩; rw [HK.out])
        | (at_builtin
           refine wpList_app_u8 _ rfl (.tmp 20) (.tmp 21) rfl base A n c (eb o) rfl (HO.out.alloc _) _ k.length k.length k (w.heap.size + 1) rfl (by have := Sl.new w (bv k).toArray 5; exact this) rfl (fun h => by cases h) (n + k.length) rfl (by omega) (by simp; omega) ?_
           intro A4 c4 w4 h4' hg4 hat4))
      go_ret
      refine ⟨A4, _, c4, rfl, h4', grown_alloc hg4, fun g hg => ?_⟩
      rcases hat4 with h | h
      · exact .inl (by rw [← h]; exact hg)
      · rw [h] at hg; cases hg; exact .inr (by simp)

set_option maxHeartbeats 400000 in
theorem call_any (s : ByteArray) (w : World) :
    Calls Tryd.prog 59 #[.string s] w fun e w' => e = .returned (.func (.func 68) #[] #[.pointer (some ⟨w.heap.size, 0, none⟩)]) ∧ w' = w.alloc (.cells #[.string s] 9) := by
  go_enter Tryd.func59, Tryd.ntmps59
  go_wp2
  go_ret
  exact ⟨rfl, rfl⟩
end Go.Proofs.YtmgakdbcgdhpaaaDoor
