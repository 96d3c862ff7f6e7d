/-
  Walks: the reference's Mark, Wide, Of.
-/
import Derived.Test.YtmgakdbcgdhpaaaDoorWdTabs
namespace Go.Proofs.YtmgakdbcgdhpaaaDoor
open Go.RowKit Go.Shelf
set_option linter.unusedVariables false

theorem inT_append (l m : List (Int × Int)) (r : Int) : inT (l ++ m) r = (inT l r || inT m r) := by simp [inT]

set_option maxRecDepth 100000 in
set_option maxHeartbeats 1000000 in
theorem rin_any (b : Nat) (T : List (Int × Int)) (r : Int) (w : World) (hT : Tab w b T) (hl : T.length ≤ 1000) :
    Calls Tryd.prog 55 #[.slice (some ⟨b, 0, none⟩) T.length T.length, .int .i32 r] w fun e w' => e = .returned (.bool (inT T r)) ∧ w = w' := by
  generalize hn : T.length = n at hl ⊢
  have HN := Lib.hid hn
  clear hn
  go_enter Tryd.func55, Tryd.ntmps55
  go_wp2
  go_loop [5] (fun i => ∃ k : Nat, k ≤ n ∧ i = .int .i64 k ∧ inT (T.take k) r = false) (fun i => n - (intOf i).toNat)
  case atStart => exact ⟨0, by omega, rfl, rfl⟩
  case round =>
    obtain ⟨k, hk, rfl, hno⟩ := hrel
    have HO := Lib.hid hno
    clear hno
    by_cases hlt : k < n
    · have hx : T[k]? = some (T[k]'(by have := HN.out; omega)) := List.getElem?_eq_getElem (by have := HN.out; omega)
      obtain ⟨hc1, hc2⟩ := hT k _ hx
      rw [Nat.mul_comm] at hc1 hc2
      have htk : T.take (k + 1) = T.take k ++ [T[k]'(by have := HN.out; omega)] := List.take_succ_eq_append_getElem (by have := HN.out; omega)
      generalize T[k]'(by have := HN.out; omega) = x at *
      have HT := Lib.hid htk
      clear htk hx
      have hkn : (k : Int) < n := by omega
      by_cases h1 : x.1 ≤ r
      · by_cases h2 : r ≤ x.2
        · have e : inT T r = true := by
            have e1 := inT_append (T.take (k + 1)) (T.drop (k + 1)) r
            rw [List.take_append_drop] at e1
            rw [e1, HT.out, inT_append]
            simp [inT, h1, h2]
          have HE := Lib.hid e
          clear e
          go_wp2
          go_ret
          exact ⟨ret_bool HE.out.symm, rfl⟩
        · have e : inT (T.take (k + 1)) r = false := by rw [HT.out, inT_append, HO.out]; simp [inT, h2]
          have HE := Lib.hid e
          clear e
          go_wp2
          go_round
          case rel => exact ⟨k + 1, by omega, by go_num, HE.out⟩
          case measure => simp [intOf]; omega
      · have e : inT (T.take (k + 1)) r = false := by rw [HT.out, inT_append, HO.out]; simp [inT, h1]
        have HE := Lib.hid e
        clear e
        go_wp2
        go_round
        case rel => exact ⟨k + 1, by omega, by go_num, HE.out⟩
        case measure => simp [intOf]; omega
    · have hkn : ¬ (k : Int) < n := by omega
      have e : inT T r = false := by
        have := HO.out
        rw [List.take_of_length_le (by have := HN.out; omega)] at this
        exact this
      have HE := Lib.hid e
      clear e
      go_wp2
      go_ret
      exact ⟨ret_bool HE.out.symm, rfl⟩

set_option maxHeartbeats 400000 in
theorem rmark_any (r : Int) (w : World) : Calls Tryd.prog 16 #[.int .i32 r] w fun e w' => e = .returned (.bool (mkB r)) ∧ Below w.heap.size w w' := by
  go_enter Tryd.func16, Tryd.ntmps16
  go_wp2_with (first
    | (go_at_call 20; refine (rmarks_any _).mono ?_; rintro e w1 ⟨rfl, hb, hT, hs⟩)
    | (go_at_call 55; refine (rin_any w.heap.size mkT r w1 hT (by decide)).mono ?_; rintro e w' ⟨rfl, rfl⟩))
  go_ret
  exact ⟨rfl, hb⟩

set_option maxHeartbeats 1000000 in
theorem rwide_any (r : Int) (w : World) : Calls Tryd.prog 18 #[.int .i32 r] w fun e w' => e = .returned (.bool (wdB r)) ∧ Below w.heap.size w w' := by
  unfold wdB
  generalize hv : inT wdT r = v
  have HV := Lib.hid hv
  clear hv
  generalize hm : mkB r = m
  have HM := Lib.hid hm
  clear hm
  cases m
  all_goals
    go_enter Tryd.func18, Tryd.ntmps18
    go_wp2_with (first
      | (go_at_call 16; refine (rmark_any r w).mono ?_; rintro e w2 ⟨rfl, hb2⟩; rw [HM.out])
      | (go_at_call 21; refine (rwides_any _).mono ?_; rintro e w1 ⟨rfl, hb, hT, hs⟩)
      | (go_at_call 55; refine (rin_any w2.heap.size wdT r w1 hT (by decide)).mono ?_; rintro e w' ⟨rfl, rfl⟩; rw [HV.out]))
    go_ret
    first
      | exact ⟨ret_bool (by simp), hb2⟩
      | exact ⟨ret_bool (by simp), hb2.trans (hb.mono hb2.size)⟩

set_option maxHeartbeats 1000000 in
theorem rof_any (r : Int) (w : World) : Calls Tryd.prog 12 #[.int .i32 r] w fun e w' => e = .returned (.int .i64 (ofI r)) ∧ Below w.heap.size w w' := by
  have hdd : ∀ d : Bool, inT wdT r = d → mkB r = false → wdB r = d := by
    intro d h1 h2
    unfold wdB
    rw [h1, h2]
    simp
  unfold ofI
  generalize hr : rnB r = a
  have HR := Lib.hid hr
  clear hr
  generalize hc : ctB r = b
  have HC := Lib.hid hc
  clear hc
  generalize hv : inT wdT r = d at hdd ⊢
  have HD := Lib.hid (hdd d rfl)
  clear hv hdd
  generalize hm : mkB r = c
  have HM := Lib.hid hm
  clear hm
  cases a <;> cases b <;> cases c <;> cases d
  all_goals
    go_enter Tryd.func12, Tryd.ntmps12
    go_wp2_with (first
      | (go_at_call 53; refine (risr_any r w).mono ?_; rintro e w' ⟨rfl, rfl⟩; rw [HR.out])
      | (go_at_call 14; refine (rctl_any r w).mono ?_; rintro e w' ⟨rfl, rfl⟩; rw [HC.out])
      | (go_at_call 16; refine (rmark_any r w).mono ?_; rintro e w1 ⟨rfl, hb⟩; rw [HM.out])
      | (go_at_call 18; refine (rwide_any r w1).mono ?_; rintro e w2 ⟨rfl, hb2⟩; rw [HD.out HM.out]))
    go_ret
    first
      | exact ⟨rfl, Below.refl _ _⟩
      | exact ⟨rfl, hb⟩
      | exact ⟨rfl, hb.trans (hb2.mono hb.size)⟩
end Go.Proofs.YtmgakdbcgdhpaaaDoor
