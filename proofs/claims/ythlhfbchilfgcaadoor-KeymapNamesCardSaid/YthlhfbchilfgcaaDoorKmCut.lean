/-
  Walks: strings.CutPrefix; the reference's begins.
-/
import Derived.Test.YthlhfbchilfgcaaDoorKmMath
namespace Go.Proofs.YthlhfbchilfgcaaDoor
open Go.RowKit
set_option linter.unusedVariables false
set_option linter.unusedSimpArgs false

def begV (s p : List UInt8) : List UInt8 × Bool := if s.take p.length = p then (s.drop p.length, true) else (s, false)
set_option maxRecDepth 100000 in
set_option maxHeartbeats 2000000 in
theorem rbegins_any (s p : List UInt8) (hs : s.length ≤ 100) (hp : p.length ≤ 100) (w : World) :
    Calls Tryd.prog 37 #[.string ⟨s.toArray⟩, .string ⟨p.toArray⟩] w fun e w' => e = .returned (.tuple #[.string ⟨(begV s p).1.toArray⟩, .bool (begV s p).2]) ∧ w = w' := by
  obtain ⟨q, hq⟩ : ∃ q : ByteArray, q = ⟨s.toArray⟩ := ⟨_, rfl⟩
  obtain ⟨r, hr⟩ : ∃ r : ByteArray, r = ⟨p.toArray⟩ := ⟨_, rfl⟩
  have hqs : q.size = s.length := by rw [hq]; simp [ByteArray.size]
  have hrs : r.size = p.length := by rw [hr]; simp [ByteArray.size]
  generalize hv : begV s p = v
  rw [← hq, ← hr]
  by_cases hl : s.length < p.length
  · have hl2 : (q.size : Int) < (r.size : Int) := by omega
    have HE : Hid (v = (s, false)) := Lib.hid (by rw [← hv]; unfold begV; rw [if_neg (fun e => by have := congrArg List.length e; simp at this; omega)])
    have HQ := Lib.hid hq
    clear hv hq hr hqs hrs hl hs hp
    go_enter Tryd.func37, Tryd.ntmps37
    go_wp2_with (fail)
    go_ret2
    exact ⟨by rw [HE.out, ← HQ.out]; rfl, rfl⟩
  · have hl2 : ¬ (q.size : Int) < (r.size : Int) := by omega
    have hl3 : r.size ≤ q.size := by omega
    have hl4 : (r.size : Int) ≤ (q.size : Int) := by omega
    have hx : (q.extract 0 r.size).toList = s.take p.length := by
      rw [Lib.toList_data, Lib.extract_data, hrs, hq]
      simp
    have hy : q.extract r.size q.size = ⟨(s.drop p.length).toArray⟩ := by
      apply ByteArray.ext
      apply Array.toList_inj.1
      rw [Lib.extract_data, hrs, hqs, hq]
      simp
      exact List.take_of_length_le (by simp)
    have hz : r.toList = p := by rw [Lib.toList_data, hr]
    have HY := Lib.hid hy
    by_cases he : s.take p.length = p
    · have hb : ((q.extract 0 r.size).toList == r.toList) = true := by rw [hx, hz, he]; simp
      have HE : Hid (v = (s.drop p.length, true)) := Lib.hid (by rw [← hv]; unfold begV; rw [if_pos he])
      clear hv hq hr hqs hrs hl hs hp hx hy hz he
      go_enter Tryd.func37, Tryd.ntmps37
      go_wp2_with (fail)
      go_ret2
      exact ⟨by rw [HE.out, ← HY.out]; rfl, rfl⟩
    · have hb : ((q.extract 0 r.size).toList == r.toList) = false := by rw [hx, hz, beq_eq_false_iff_ne]; exact he
      have HE : Hid (v = (s, false)) := Lib.hid (by rw [← hv]; unfold begV; rw [if_neg he])
      have HQ := Lib.hid hq
      clear hv hq hr hqs hrs hl hs hp hx hy hz he
      go_enter Tryd.func37, Tryd.ntmps37
      go_wp2_with (fail)
      go_ret2
      exact ⟨by rw [HE.out, ← HQ.out]; rfl, rfl⟩
set_option maxRecDepth 100000 in
set_option maxHeartbeats 2000000 in
theorem hasPrefix_any (s p : List UInt8) (hs : s.length ≤ 100) (hp : p.length ≤ 100) (w : World) :
    Calls Tryd.prog 74 #[.string ⟨s.toArray⟩, .string ⟨p.toArray⟩] w fun e w' => e = .returned (.bool (begV s p).2) ∧ w = w' := by
  obtain ⟨q, hq⟩ : ∃ q : ByteArray, q = ⟨s.toArray⟩ := ⟨_, rfl⟩
  obtain ⟨r, hr⟩ : ∃ r : ByteArray, r = ⟨p.toArray⟩ := ⟨_, rfl⟩
  have hqs : q.size = s.length := by rw [hq]; simp [ByteArray.size]
  have hrs : r.size = p.length := by rw [hr]; simp [ByteArray.size]
  generalize hv : (begV s p).2 = v
  rw [← hq, ← hr]
  by_cases hl : s.length < p.length
  · have hl2 : ¬ (r.size : Int) ≤ (q.size : Int) := by omega
    have HE : v = false := by rw [← hv]; unfold begV; rw [if_neg (fun e => by have := congrArg List.length e; simp at this; omega)]
    subst HE
    clear hv hq hr hqs hrs hl hs hp
    go_enter Tryd.func74, Tryd.ntmps74
    go_wp2_with (fail)
    go_ret
    exact ⟨rfl, rfl⟩
  · have hl3 : r.size ≤ q.size := by omega
    have hl4 : (r.size : Int) ≤ (q.size : Int) := by omega
    have hx : (q.extract 0 r.size).toList = s.take p.length := by
      rw [Lib.toList_data, Lib.extract_data, hrs, hq]
      simp
    have hz : r.toList = p := by rw [Lib.toList_data, hr]
    have hb : ((q.extract 0 r.size).toList == r.toList) = v := by
      rw [hx, hz, ← hv]
      unfold begV
      by_cases he : s.take p.length = p
      · rw [if_pos he, he]; simp
      · rw [if_neg he, beq_eq_false_iff_ne]; exact he
    clear hv hq hr hqs hrs hl hs hp hx hz
    go_enter Tryd.func74, Tryd.ntmps74
    go_wp2_with (fail)
    go_ret
    exact ⟨rfl, rfl⟩
set_option maxRecDepth 100000 in
set_option maxHeartbeats 2000000 in
theorem cutPrefix0_any (s p : List UInt8) (hs : s.length ≤ 100) (hp : p.length ≤ 100) (w : World) :
    Calls Tryd.prog 66 #[.string ⟨s.toArray⟩, .string ⟨p.toArray⟩] w fun e w' => e = .returned (.tuple #[.string ⟨(begV s p).1.toArray⟩, .bool (begV s p).2]) ∧ w = w' := by
  have HP := Lib.hid (hasPrefix_any s p hs hp)
  obtain ⟨q, hq⟩ : ∃ q : ByteArray, q = ⟨s.toArray⟩ := ⟨_, rfl⟩
  obtain ⟨r, hr⟩ : ∃ r : ByteArray, r = ⟨p.toArray⟩ := ⟨_, rfl⟩
  have hqs : q.size = s.length := by rw [hq]; simp [ByteArray.size]
  have hrs : r.size = p.length := by rw [hr]; simp [ByteArray.size]
  rw [← hq, ← hr] at HP
  rw [← hq, ← hr]
  by_cases he : s.take p.length = p
  · have hl3 : r.size ≤ q.size := by have := congrArg List.length he; simp at this; omega
    have hl4 : (r.size : Int) ≤ (q.size : Int) := by omega
    have hy : q.extract r.size q.size = ⟨(s.drop p.length).toArray⟩ := by
      apply ByteArray.ext
      apply Array.toList_inj.1
      rw [Lib.extract_data, hrs, hqs, hq]
      simp
      exact List.take_of_length_le (by simp)
    have HY := Lib.hid hy
    have hv : begV s p = (s.drop p.length, true) := by unfold begV; rw [if_pos he]
    rw [hv] at HP
    have HV := Lib.hid hv
    clear hv hq hr hqs hrs hs hp hy he
    go_enter Tryd.func66, Tryd.ntmps66
    go_wp2_with (go_at_call 74; refine (HP.out _).mono ?_; rintro e w' ⟨rfl, rfl⟩)
    go_ret2
    exact ⟨by rw [HV.out, ← HY.out]; rfl, rfl⟩
  · have hv : begV s p = (s, false) := by unfold begV; rw [if_neg he]
    rw [hv] at HP
    have HV := Lib.hid hv
    have HQ := Lib.hid hq
    clear hv hq hr hqs hrs hs hp he
    go_enter Tryd.func66, Tryd.ntmps66
    go_wp2_with (go_at_call 74; refine (HP.out _).mono ?_; rintro e w' ⟨rfl, rfl⟩)
    go_ret2
    exact ⟨by rw [HV.out, ← HQ.out]; rfl, rfl⟩
set_option maxRecDepth 100000 in
set_option maxHeartbeats 2000000 in
theorem cutPrefix_any (s p : List UInt8) (hs : s.length ≤ 100) (hp : p.length ≤ 100) (w : World) :
    Calls Tryd.prog 54 #[.string ⟨s.toArray⟩, .string ⟨p.toArray⟩] w fun e w' => e = .returned (.tuple #[.string ⟨(begV s p).1.toArray⟩, .bool (begV s p).2]) ∧ w = w' := by
  have HP := Lib.hid (cutPrefix0_any s p hs hp)
  generalize begV s p = v at HP ⊢
  obtain ⟨v1, v2⟩ := v
  clear hs hp
  go_enter Tryd.func54, Tryd.ntmps54
  go_wp2_with (go_at_call 66; refine (HP.out _).mono ?_; rintro e w' ⟨rfl, rfl⟩)
  go_ret2
  exact ⟨rfl, rfl⟩
end Go.Proofs.YthlhfbchilfgcaaDoor
