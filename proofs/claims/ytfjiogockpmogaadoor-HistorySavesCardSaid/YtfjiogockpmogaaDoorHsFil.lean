/-
  Walks: cut, filled, back of law 14; Of of the document's history.
-/
import Derived.Test.YtfjiogockpmogaaDoorHsAwake
import Derived.Test.YtfjiogockpmogaaDoorHsWkM
namespace Go.Proofs.YtfjiogockpmogaaDoor
open Go.RowKit
set_option linter.unusedVariables false
set_option linter.unusedSimpArgs false

def cut60 (s : List UInt8) : List UInt8 := s.take 60
theorem cut60_len (s : List UInt8) : (cut60 s).length ≤ 60 := by unfold cut60; rw [List.length_take]; omega
theorem hex_take (s : ByteArray) (k : Nat) : s.extract 0 k = ⟨(s.data.toList.take k).toArray⟩ := by
  apply ByteArray.ext
  apply Array.toList_inj.1
  rw [Lib.extract_data]
  simp
theorem hmk (s : ByteArray) : s = ⟨s.data.toList.toArray⟩ := by cases s; simp
set_option maxHeartbeats 400000 in
theorem hcut_any (s : ByteArray) (hs : s.size ≤ maxLen) (w : World) :
    Calls Tryd.prog 16 #[.string s] w fun e w' => e = .returned (.string ⟨(cut60 s.data.toList).toArray⟩) ∧ w = w' := by
  unfold maxLen at hs
  by_cases h : s.size ≤ 60
  · have hi : (s.size : Int) ≤ 60 := by omega
    have e : (⟨(cut60 s.data.toList).toArray⟩ : ByteArray) = s := by
      have : s.data.toList.length = s.size := rfl
      unfold cut60; rw [List.take_of_length_le (by omega)]
    rw [e]
    clear e
    go_enter Tryd.func16, Tryd.ntmps16
    go_wp2
    go_ret
    exact ⟨rfl, rfl⟩
  · have hi : ¬ (s.size : Int) ≤ 60 := by omega
    have h2 : 60 ≤ s.size := by omega
    have e := hex_take s 60
    unfold cut60
    rw [← e]
    clear e
    go_enter Tryd.func16, Tryd.ntmps16
    go_wp2
    go_ret
    exact ⟨rfl, rfl⟩

theorem hadd_any {w0 w : World} {lo h c most : Nat} {A : Option Addr} {L : List (List UInt8)} {K : Option HW} (q : HsAt w lo h A c most L K) (s : ByteArray) (hs : s.size ≤ 1000) (hT : Tabs w) (hTl : TLo lo) :
    Calls Tryd.prog 23 #[.pointer (some ⟨h, 0, none⟩), .string s] w fun e w' => ∃ A' c', e = .returned (.bool (addB (flatB s.data.toList) L)) ∧ HsAt w' lo h A' c' most (if addB (flatB s.data.toList) L then addL most (flatB s.data.toList) L else L) none ∧ Chg (one h) w w' := by
  cases hy : addB (flatB s.data.toList) L with
  | true =>
    refine (hadd_yes q s hs hT hTl hy).mono ?_
    rintro e w' ⟨A', c', rfl, hq, hc⟩
    exact ⟨A', c', rfl, hq, hc⟩
  | false =>
    refine (hadd_no q s hs hT hTl hy).mono ?_
    rintro e w' ⟨rfl, hq, hc⟩
    exact ⟨A, c, rfl, hq, hc⟩

/-- the lines behind some calls of Add -/
def fillL (most : Nat) : List (List UInt8) → List (List UInt8) → List (List UInt8)
  | L, [] => L
  | L, s :: l => fillL most (if addB (flatB (cut60 s)) L then addL most (flatB (cut60 s)) L else L) l
theorem fillL_snoc (most : Nat) (l : List (List UInt8)) (s : List UInt8) : ∀ L, fillL most L (l ++ [s]) = (if addB (flatB (cut60 s)) (fillL most L l) then addL most (flatB (cut60 s)) (fillL most L l) else fillL most L l) := by
  induction l with
  | nil => intro L; rfl
  | cons a l ih => intro L; exact ih _

/-- what filled hands back -/
def FilHP (w : World) (most : Nat) (l : List (List UInt8)) (e : Ending) (w' : World) : Prop :=
  ∃ h A c, e = .returned (.pointer (some ⟨h, 0, none⟩)) ∧ HsAt w' w.heap.size h A c most (fillL most [] (l.take 40)) none ∧ Below w.heap.size w w'
set_option maxRecDepth 100000 in
set_option maxHeartbeats 4000000 in
theorem filled_any (most : Nat) (hm1 : 1 ≤ most) (hm4 : most ≤ 256) (l : List (List UInt8)) (X : Option Addr) (m d : Nat) (hm : m = l.length) (hmx : m ≤ maxLen) (w : World) (hT : Tabs w) (hX : Sl w w.heap.size X (sv l)) (hlen : ∀ s ∈ l, s.length ≤ maxLen) :
    Calls Tryd.prog 15 #[.int .i64 most, .slice X m d] w (FilHP w most l) := by
  have HT := Lib.hid hT
  have HX := Lib.hid hX
  have HLEN := Lib.hid hlen
  have HM := Lib.hid hm
  unfold maxLen at hmx
  clear hT hX hlen hm
  go_enter Tryd.func15, Tryd.ntmps15
  go_wp2_with (fail)
  refine (hnew_ok most hm1 hm4 w).mono ?_
  rintro e w1 ⟨h, rfl, hq1, hb1⟩
  have Q1 := Lib.hid hq1
  have HB1 := Lib.hid hb1
  clear hq1 hb1
  go_wp2_with (fail)
  go_loopw [7] (fun v wr => ∃ k : Nat, v = .int .i64 k ∧ k ≤ m ∧ k ≤ 40 ∧ (∃ A c, HsAt wr w.heap.size h A c most (fillL most [] (l.take k)) none) ∧ Below w.heap.size w wr) (fun v _ => 40 - (intOf v).toNat)
  case atStart => exact ⟨0, rfl, by omega, by omega, ⟨none, 0, Q1.out⟩, HB1.out⟩
  case round =>
    obtain ⟨k, rfl, hk, hk4, ⟨A, c, hq⟩, hbr⟩ := hrel
    have HQ := Lib.hid hq
    have HBr := Lib.hid hbr
    clear hq hbr
    by_cases hlt : k < m
    · have hki : (k : Int) < m := by omega
      by_cases hlt4 : k < 40
      · have hki4 : (k : Int) < 40 := by omega
        have hkl : k < l.length := by have := HM.out; omega
        obtain ⟨b, off, hA2, hbb, hcell0⟩ := hsv_at HX.out hkl
        subst hA2
        have hcell : wr.cell? ⟨b, off + k, none⟩ = some (.string ⟨(l[k]).toArray⟩) := (HBr.out.cell (p := ⟨b, off + k, none⟩) hbb).trans hcell0
        have hsl : (⟨(l[k]).toArray⟩ : ByteArray).size ≤ maxLen := by rw [size_of]; exact HLEN.out _ (List.getElem_mem hkl)
        have hsn : l.take (k + 1) = l.take k ++ [l[k]] := by rw [List.take_add_one, List.getElem?_eq_getElem hkl]; rfl
        have HSN := Lib.hid hsn
        have HSL := Lib.hid hsl
        generalize l[k] = s at hcell HSL HSN
        have HC := Lib.hid (hcut_any ⟨s.toArray⟩ HSL.out)
        simp only [List.toList_toArray] at HC
        have HADD := Lib.hid (hadd_any (w0 := w) HQ.out ⟨(cut60 s).toArray⟩ (by rw [size_of]; have := cut60_len s; omega) (HT.out.below HBr.out) (tlo_of HT.out))
        simp only [List.toList_toArray] at HADD
        clear hcell0 hsn hsl
        go_wp2_with (first
          | (go_at_call 16; refine (HC.out _).mono ?_; rintro e w' ⟨rfl, rfl⟩)
          | (go_at_call 23; refine HADD.out.mono ?_; rintro e w3 ⟨A3, c3, rfl, hq3, hc3⟩; have HQ3 := Lib.hid hq3; have HC3 := Lib.hid hc3; clear hq3 hc3))
        go_roundw
        case rel => exact ⟨k + 1, by go_num, by omega, by omega, ⟨A3, c3, by rw [HSN.out, fillL_snoc]; exact HQ3.out⟩, below_of_chg HBr.out HQ.out.lo HC3.out⟩
        case measure => simp [intOf]; omega
      · have hki4 : ¬ (k : Int) < 40 := by omega
        obtain rfl : k = 40 := by omega
        go_wp2
        go_ret
        exact ⟨h, A, c, rfl, HQ.out, HBr.out⟩
    · have hki : ¬ (k : Int) < m := by omega
      obtain rfl : k = m := by omega
      have hq := HQ.out
      rw [HM.out, List.take_length, ← List.take_of_length_le (l := l) (i := 40) (by have := HM.out; omega)] at hq
      have HQ2 := Lib.hid hq
      clear hq
      go_wp2
      go_ret
      exact ⟨h, A, c, rfl, HQ2.out, HBr.out⟩

set_option maxRecDepth 100000 in
set_option maxHeartbeats 2000000 in
theorem rbegins14_any (s p : List UInt8) (hs : s.length ≤ 2000000) (hp : p.length ≤ 2000000) (w : World) :
    Calls Tryd.prog 65 #[.string ⟨s.toArray⟩, .string ⟨p.toArray⟩] w fun e w' => e = .returned (.bool (preB p s)) ∧ w = w' := by
  obtain ⟨q, hq⟩ : ∃ q : ByteArray, q = ⟨s.toArray⟩ := ⟨_, rfl⟩
  obtain ⟨r, hr⟩ : ∃ r : ByteArray, r = ⟨p.toArray⟩ := ⟨_, rfl⟩
  have hqs : q.size = s.length := by rw [hq]; simp [ByteArray.size]
  have hrs : r.size = p.length := by rw [hr]; simp [ByteArray.size]
  generalize hv : preB p s = v
  rw [← hq, ← hr]
  by_cases hl : s.length < p.length
  · have hl2 : ¬ (r.size : Int) ≤ (q.size : Int) := by omega
    have HE : v = false := by rw [← hv]; unfold preB; rw [beq_eq_false_iff_ne]; exact fun e => by have := congrArg List.length e; simp at this; omega
    subst HE
    clear hv hq hr hqs hrs hl hs hp
    go_enter Tryd.func65, Tryd.ntmps65
    go_wp2_with (fail)
    go_ret
    exact ⟨rfl, rfl⟩
  · have hl3 : r.size ≤ q.size := by omega
    have hl4 : (r.size : Int) ≤ (q.size : Int) := by omega
    have hx : (q.extract 0 r.size).toList = s.take p.length := by
      rw [Lib.toList_data, Lib.extract_data, hrs, hq]
      simp
    have hz : r.toList = p := by rw [Lib.toList_data, hr]
    have hb : ((q.extract 0 r.size).toList == r.toList) = v := by
      rw [hx, hz, ← hv]; rfl
    clear hv hq hr hqs hrs hl hs hp hx hz
    go_enter Tryd.func65, Tryd.ntmps65
    go_wp2_with (fail)
    go_ret
    exact ⟨rfl, rfl⟩
set_option maxRecDepth 100000 in
theorem rof14_any (l d b : List UInt8) (hl : l.length ≤ 2000000) (hb : b.length ≤ 2000000) (w : World) :
    Calls Tryd.prog 52 #[.string ⟨l.toArray⟩, .string ⟨d.toArray⟩, .string ⟨b.toArray⟩] w fun e w' => e = .returned (.bool (hasW d b l)) ∧ w = w' := by
  have HP := Lib.hid (rbegins14_any l b hl hb)
  cases hp : preB b l with
  | false =>
    have hv : hasW d b l = false := by unfold hasW; rw [hp]; simp
    rw [hv]
    rw [hp] at HP
    clear hp hv
    go_enter Tryd.func52, Tryd.ntmps52
    go_wp2_with (go_at_call 65; refine (HP.out _).mono ?_; rintro e w' ⟨rfl, rfl⟩)
    go_ret
    exact ⟨rfl, rfl⟩
  | true =>
    rw [hp] at HP
    by_cases he : l = d
    · subst he
      have hv : hasW l b l = false := by unfold hasW; simp
      rw [hv]
      clear hp hv
      go_enter Tryd.func52, Tryd.ntmps52
      go_wp2_with (go_at_call 65; refine (HP.out _).mono ?_; rintro e w' ⟨rfl, rfl⟩)
      go_ret
      exact ⟨rfl, rfl⟩
    · have hq : (l == d) = false := by simpa using he
      have hv : hasW d b l = true := by unfold hasW; rw [hp, hq]; rfl
      rw [hv]
      clear hp hv he
      go_enter Tryd.func52, Tryd.ntmps52
      go_wp2_with (go_at_call 65; refine (HP.out _).mono ?_; rintro e w' ⟨rfl, rfl⟩)
      go_ret
      exact ⟨rfl, rfl⟩
end Go.Proofs.YtfjiogockpmogaaDoor
