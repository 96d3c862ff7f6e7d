/-
  Walks: Waits and Pasting of any decoder that was made; the laws' cut.
-/
import Derived.Test.YteolafeeggjblaaDoorKnFeed2
namespace Go.Proofs.YteolafeeggjblaaDoor
open Go.RowKit Go.Sort
set_option linter.unusedVariables false
set_option linter.unusedSimpArgs false

set_option maxHeartbeats 1000000 in
theorem pcount_any (P : Nat) (A : Option Addr) (n c m : Nat) (w : World) (h : PBlk w P A n c m) :
    Calls Tryd.prog 21 #[.pointer (some ⟨P, 0, none⟩)] w fun e w' => e = .returned (.int .i64 n) ∧ w = w' := by
  have hx : w.cell? ⟨P, 0, none⟩ = some (.slice A n c) := h.cell 0
  clear h
  go_enter Tryd.func21, Tryd.ntmps21
  go_wp2
  go_ret
  exact ⟨rfl, rfl⟩
set_option maxRecDepth 100000 in
set_option maxHeartbeats 2000000 in
theorem pasting_yes (D P : Nat) (s : List UInt8) (w : World) (h : DBlk w D s (.pointer (some ⟨P, 0, none⟩))) : Calls Tryd.prog 15 #[.pointer (some ⟨D, 0, none⟩)] w fun e w' => e = .returned (.bool true) ∧ w = w' := by
  have H := Lib.hid h
  have hx : w.cell? ⟨D, 2, none⟩ = some (.pointer (some ⟨P, 0, none⟩)) := h.cell 2
  have he := fun w => pptr_nen ⟨P, 0, none⟩ w
  clear h
  go_enter Tryd.func15, Tryd.ntmps15
  go_wp2_with (go_at_call 20; refine (made_yes D s _ _ H.out).mono ?_; rintro e w' ⟨rfl, rfl⟩)
  go_ret
  exact ⟨rfl, rfl⟩
set_option maxRecDepth 100000 in
set_option maxHeartbeats 2000000 in
theorem waits_any (D : Nat) (O : Nat → Prop) (d : KD) (w : World) (h : DAt w D O d) : Calls Tryd.prog 10 #[.pointer (some ⟨D, 0, none⟩)] w fun e w' => e = .returned (.int .i64 (waitsK d)) ∧ w = w' := by
  obtain ⟨s, P⟩ := d
  cases P with
  | none => exact waits_no D s w h.2.2
  | some r =>
    obtain ⟨p, m⟩ := r
    obtain ⟨_, _, P, A, n, c, hD, hP, hO, _⟩ := h
    have hD : DBlk w D s (.pointer (some ⟨P, 0, none⟩)) := hD
    have hn : n = p.length := hO.len
    subst hn
    have H := Lib.hid hD
    have HP := Lib.hid hP
    have hx : w.cell? ⟨D, 2, none⟩ = some (.pointer (some ⟨P, 0, none⟩)) := hD.cell 2
    clear hD hP hO
    show Calls _ _ _ w fun e w' => e = .returned (.int .i64 p.length) ∧ w = w'
    go_enter Tryd.func10, Tryd.ntmps10
    go_wp2_with (first
      | (go_at_call 20; refine (made_yes D s _ _ H.out).mono ?_; rintro e w' ⟨rfl, rfl⟩)
      | (go_at_call 15; refine (pasting_yes D P s _ H.out).mono ?_; rintro e w' ⟨rfl, rfl⟩)
      | (go_at_call 21; refine (pcount_any P A _ c m _ HP.out).mono ?_; rintro e w' ⟨rfl, rfl⟩))
    go_ret
    exact ⟨rfl, rfl⟩
set_option maxHeartbeats 1000000 in
theorem kcut_any (A : Option Addr) (n c : Nat) (hn : n ≤ c) (w : World) :
    Calls Tryd.prog 6 #[.slice A n c] w fun e w' => e = .returned (.slice A (min n 300) c) ∧ w = w' := by
  have hci : min (n : Int) 300 ≤ (c : Int) := by omega
  have hmi : 0 ≤ min (n : Int) 300 := by omega
  have e : (min (n : Int) 300).toNat = min n 300 := by omega
  have E := Lib.hid e
  clear e
  go_enter Tryd.func6, Tryd.ntmps6
  go_wp2
  go_ret
  exact ⟨by rw [← E.out]; rfl, rfl⟩
end Go.Proofs.YteolafeeggjblaaDoor
