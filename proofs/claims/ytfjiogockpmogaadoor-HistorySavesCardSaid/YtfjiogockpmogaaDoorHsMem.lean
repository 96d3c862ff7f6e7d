/-
  A history of the program as it lies in memory; walks of HasPrefix, newWalk and its closure, withLines, made, New, Leave, Len, Line.
-/
import Derived.Test.YtfjiogockpmogaaDoorGfS
import Derived.Test.YtfjiogockpmogaaDoorFlat3
import Derived.Test.YtfjiogockpmogaaDoorQuietB
import Derived.LaidEqlPtr
import Derived.Deep.QuietTactic
import Derived.BigQuiet
import Derived.IntWalk
namespace Go.Proofs.YtfjiogockpmogaaDoor
open Go.RowKit
set_option linter.unusedVariables false
set_option linter.unusedSimpArgs false

/-- does a text begin with p? -/
def preB (p s : List UInt8) : Bool := s.take p.length == p
/-- is a line one of a walk's? -/
def hasW (d b l : List UInt8) : Bool := !(l == d) && preB b l

set_option maxRecDepth 100000 in
set_option maxHeartbeats 2000000 in
theorem hprefix0_any (s p : List UInt8) (hs : s.length ≤ 2000000) (hp : p.length ≤ 2000000) (w : World) :
    Calls Tryd.prog 78 #[.string ⟨s.toArray⟩, .string ⟨p.toArray⟩] w fun e w' => e = .returned (.bool (preB p s)) ∧ w = w' := by
  obtain ⟨q, hq⟩ : ∃ q : ByteArray, q = ⟨s.toArray⟩ := ⟨_, rfl⟩
  obtain ⟨r, hr⟩ : ∃ r : ByteArray, r = ⟨p.toArray⟩ := ⟨_, rfl⟩
  have hqs : q.size = s.length := by rw [hq]; simp [ByteArray.size]
  have hrs : r.size = p.length := by rw [hr]; simp [ByteArray.size]
  generalize hv : preB p s = v
  rw [← hq, ← hr]
  by_cases hl : s.length < p.length
  · have hl2 : ¬ (r.size : Int) ≤ (q.size : Int) := by omega
    have HE : v = false := by rw [← hv]; unfold preB; rw [beq_eq_false_iff_ne]; exact fun e => by have := congrArg List.length e; simp at this; omega
    subst HE
    clear hv hq hr hqs hrs hl hs hp
    go_enter Tryd.func78, Tryd.ntmps78
    go_wp2_with (fail)
    go_ret
    exact ⟨rfl, rfl⟩
  · have hl3 : r.size ≤ q.size := by omega
    have hl4 : (r.size : Int) ≤ (q.size : Int) := by omega
    have hx : (q.extract 0 r.size).toList = s.take p.length := by
      rw [Lib.toList_data, Lib.extract_data, hrs, hq]
      simp
    have hz : r.toList = p := by rw [Lib.toList_data, hr]
    have hb : ((q.extract 0 r.size).toList == r.toList) = v := by
      rw [hx, hz, ← hv]; rfl
    clear hv hq hr hqs hrs hl hs hp hx hz
    go_enter Tryd.func78, Tryd.ntmps78
    go_wp2_with (fail)
    go_ret
    exact ⟨rfl, rfl⟩
set_option maxRecDepth 100000 in
theorem hprefix_any (s p : List UInt8) (hs : s.length ≤ 2000000) (hp : p.length ≤ 2000000) (w : World) :
    Calls Tryd.prog 64 #[.string ⟨s.toArray⟩, .string ⟨p.toArray⟩] w fun e w' => e = .returned (.bool (preB p s)) ∧ w = w' := by
  have HP := Lib.hid (hprefix0_any s p hs hp)
  generalize preB p s = v at HP ⊢
  go_enter Tryd.func64, Tryd.ntmps64
  go_wp2_with (go_at_call 78; refine (HP.out _).mono ?_; rintro e w' ⟨rfl, rfl⟩)
  go_ret
  exact ⟨rfl, rfl⟩

/-- the walk's closure -/
def hasF (xd xb : Nat) : Value := .func (.func 63) #[] #[.pointer (some ⟨xd, 0, none⟩), .pointer (some ⟨xb, 0, none⟩)]
set_option maxRecDepth 100000 in
set_option maxHeartbeats 2000000 in
theorem has_any (d b l : List UInt8) (hd : d.length ≤ 2000000) (hb : b.length ≤ 2000000) (hl : l.length ≤ 2000000) (xd xb : Nat) (w : World) (h1 : w.cell? ⟨xd, 0, none⟩ = some (.string ⟨d.toArray⟩)) (h2 : w.cell? ⟨xb, 0, none⟩ = some (.string ⟨b.toArray⟩)) :
    Calls Tryd.prog 63 #[.string ⟨l.toArray⟩, .pointer (some ⟨xd, 0, none⟩), .pointer (some ⟨xb, 0, none⟩)] w fun e w' => e = .returned (.bool (hasW d b l)) ∧ w = w' := by
  have HP := Lib.hid (hprefix_any l b hl hb)
  by_cases he : l = d
  · subst he
    have hv : hasW l b l = false := by unfold hasW; simp
    rw [hv]
    clear hv
    go_enter Tryd.func63, Tryd.ntmps63
    go_wp2_with (fail)
    go_ret
    exact ⟨rfl, rfl⟩
  · have hv : hasW d b l = preB b l := by unfold hasW; rw [beq_eq_false_iff_ne.2 he]; rfl
    rw [hv]
    have hq : (l == d) = false := by simpa using he
    generalize preB b l = v at HP ⊢
    clear hv he
    go_enter Tryd.func63, Tryd.ntmps63
    go_wp2_with (go_at_call 64; refine (HP.out _).mono ?_; rintro e w' ⟨rfl, rfl⟩)
    go_ret
    exact ⟨rfl, rfl⟩
end Go.Proofs.YtfjiogockpmogaaDoor
