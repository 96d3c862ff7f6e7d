/-
  Walk: GapFinds.
-/
import Derived.Test.YtfhfhjcdeeepbaaGreatDoorGpFind
import Derived.Deep.DeepCutAuto
namespace Go.Proofs.YtfhfhjcdeeepbaaGreatDoor
open Go.RowKit
set_option linter.unusedVariables false
set_option linter.unusedSimpArgs false

theorem OR.cap {w : World} {base n c : Nat} {e : TypeId} {A : Option Addr} {xs : List Value} (h : OR w base e A n c xs) : n ≤ c := by
  rcases h.1 with ⟨hl, ⟨hv, h0⟩ | ⟨g, cap, cur, hv, hb, hh, hnc, hc, hcur, ht⟩⟩
  · omega
  · injection hv with _ _ e
    omega
/-- a part of a row -/
theorem sl_part {w : World} {B : Nat} {A : Option Addr} {l : List (List UInt8)} {c lo k : Nat} (h : Sl w B A (sv l)) (hk : lo + k ≤ l.length) (hc : l.length ≤ c) : Sl w B (bh A c lo) (sv ((l.drop lo).take k)) := by
  have h1 := (h.drop (k := lo) (cap := c) (by rw [sv_length]; exact hc)).take k
  rw [sv_drop, sv_take] at h1
  exact h1
theorem findR_here {L l : List (List UInt8)} {c : Nat} {v : Int} {b : Bool} (h : FindR L l c v b) (hl : l ≠ []) (hc : c < L.length) (hs : standB L l c = true) : b = true ∧ v = c := by
  have hok : okAt L l c c = true := by unfold okAt; rw [hs]; simp
  rcases h with ⟨hb, _, i, hv, hi, h1, h2⟩ | ⟨hb, hv, h1 | h1⟩
  · refine ⟨hb, ?_⟩
    have h3 : c ≤ i := by
      unfold okAt at h1
      simp only [Bool.and_eq_true, decide_eq_true_eq] at h1
      exact h1.1
    have h4 : ¬ c < i := fun h5 => by rw [h2 c h5] at hok; cases hok
    have : i = c := by omega
    rw [hv, this]
  · exact absurd h1 hl
  · rw [h1 c hc] at hok; cases hok

end Go.Proofs.YtfhfhjcdeeepbaaGreatDoor
