/-
  Walk: the law's back (Older, till there is none).
-/
import Derived.Test.YtfjiogockpmogaaDoorHsFil
namespace Go.Proofs.YtfjiogockpmogaaDoor
open Go.RowKit
set_option linter.unusedVariables false
set_option linter.unusedSimpArgs false

theorem OR.chgH {w w' : World} {base n c : Nat} {e : TypeId} {A : Option Addr} {xs : List Value} {S : Nat → Prop} (h : OR w base e A n c xs) (hc : Chg S w w') (hn : ∀ g, blk A = some g → ¬ S g) : OR w' base e A n c xs := by
  obtain ⟨⟨hl, hv⟩, hn'⟩ := h
  refine ⟨⟨hl, ?_⟩, hn'⟩
  rcases hv with hv | ⟨g, cap, cur, hv, h1, h2, h3⟩
  · exact .inl hv
  · refine .inr ⟨g, cap, cur, hv, h1, ?_, h3⟩
    injection hv with hA
    subst hA
    exact hc.heap h2 (hn g rfl)
/-- what back's loop keeps -/
structure BackS (w W : World) (lo h : Nat) (A : Option Addr) (c most : Nat) (L : List (List UInt8)) (d b : List UInt8) (k : Nat) (A1 : Option Addr) (c1 : Nat) (l : List (List UInt8)) (K : Option HW) : Prop where
  q : HsAt W lo h A c most L K
  st : StW d b L l K
  row : OR W w.heap.size 9 A1 k c1 (sv l)
  apart : ∀ g, blk A1 = some g → ¬ HsAt.Own h A K g
  ch : Chg (one h) w W
/-- what back hands back -/
def BackP (w : World) (lo h : Nat) (A : Option Addr) (c most : Nat) (L : List (List UInt8)) (d b : List UInt8) (e : Ending) (w' : World) : Prop :=
  ∃ A1 k c1 l K, e = .returned (.slice A1 k c1) ∧ BackS w w' lo h A c most L d b k A1 c1 l K ∧ nextW d b L (walkOf K d b).2.2 = none

end Go.Proofs.YtfjiogockpmogaaDoor
