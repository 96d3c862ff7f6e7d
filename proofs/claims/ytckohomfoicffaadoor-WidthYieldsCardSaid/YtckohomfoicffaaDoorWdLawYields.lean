/-
  The law WidthYields, walked.
-/
import Derived.Test.YtckohomfoicffaaDoorWdLaws
import Derived.Test.YtckohomfoicffaaDoorWdSame
namespace Go.Proofs.YtckohomfoicffaaDoor
open Go.RowKit Go.Shelf
set_option linter.unusedVariables false

/-- A row of ranges, firsts and lasts by turns, somewhere in memory. -/
def Flat (w : World) (g off : Nat) (T : List (Int × Int)) : Prop := g < w.heap.size ∧ ∀ k x, T[k]? = some x → w.cell? ⟨g, off + 2 * k, none⟩ = some (.int .i32 x.1) ∧ w.cell? ⟨g, off + 2 * k + 1, none⟩ = some (.int .i32 x.2)
theorem Flat.below {w w' : World} {g off : Nat} {T : List (Int × Int)} (h : Flat w g off T) (hb : Below w.heap.size w w') : Flat w' g off T :=
  ⟨Nat.lt_of_lt_of_le h.1 hb.size, fun k x hx => ⟨(hb.cell (p := ⟨g, off + 2 * k, none⟩) h.1).trans (h.2 k x hx).1, (hb.cell (p := ⟨g, off + 2 * k + 1, none⟩) h.1).trans (h.2 k x hx).2⟩⟩
theorem Flat.of_sl {w : World} {A : Option Addr} {T : List (Int × Int)} (hT : 0 < T.length) (h : Sl w w.heap.size A (flatT T)) : ∃ g off, A = some ⟨g, off, none⟩ ∧ Flat w g off T := by
  obtain ⟨g, off, hA, hg, hc⟩ := h.open_ (by rw [flatT_length]; omega)
  refine ⟨g, off, hA, hg, fun k x hx => ?_⟩
  obtain ⟨f1, f2⟩ := flatT_get T k x hx
  exact ⟨hc _ _ f1, hc _ _ f2⟩

theorem told_all_marks (w : World) (hT : Tabs w) :
    Calls Tryd.prog 23 #[.bool true, .int .i64 1000] w fun e w' => ∃ g off c, e = .returned (.tuple #[.slice (some ⟨g, off, none⟩) 56 c, .bool true]) ∧ Flat w' g off mkT ∧ Below w.heap.size w w' := by
  refine (told_marks 1000 (by omega) w hT).mono ?_
  rintro e w' ⟨A, c, rfl, hS, hb⟩
  obtain ⟨g, off, rfl, hF⟩ := Flat.of_sl (T := mkT.take 1000) (by decide) hS
  exact ⟨g, off, c, rfl, hF, hb⟩
theorem told_all_wides (w : World) (hT : Tabs w) :
    Calls Tryd.prog 23 #[.bool false, .int .i64 1000] w fun e w' => ∃ g off c, e = .returned (.tuple #[.slice (some ⟨g, off, none⟩) 102 c, .bool true]) ∧ Flat w' g off wdT ∧ Below w.heap.size w w' := by
  refine (told_wides 1000 (by omega) w hT).mono ?_
  rintro e w' ⟨A, c, rfl, hS, hb⟩
  obtain ⟨g, off, rfl, hF⟩ := Flat.of_sl (T := wdT.take 1000) (by decide) hS
  exact ⟨g, off, c, rfl, hF, hb⟩

theorem inT_snoc (l : List (Int × Int)) (x : Int × Int) (r : Int) : inT (l ++ [x]) r = (inT l r || (decide (x.1 ≤ r) && decide (r ≤ x.2))) := by rw [inT_append]; simp [inT]

set_option maxRecDepth 100000 in
set_option maxHeartbeats 4000000 in
theorem widthYields_walk (most : Nat) (hm : most ≤ 255) (r : Int) (w : World) (hT : Tabs w) :
    Calls Tryd.prog 6 #[.int .u8 most, .int .i32 r] w fun e w' => e = .returned (.bool true) ∧ Below w.heap.size w w' := by
  have H := Lib.hid hT
  clear hT
  have hmi : (most : Int) ≤ 255 := by omega
  go_enter Tryd.func6, Tryd.ntmps6
  go_wp2_with (fail)
  refine (told_marks most (by omega) w H.out).mono ?_
  rintro e w1 ⟨A1, c1, rfl, hS1, b1⟩
  generalize hn1 : 2 * (mkT.take most).length = n1
  have HN1 : Hid (n1 = 2 * min mkT.length most) := by rw [← hn1, List.length_take, Nat.min_comm]; simp [Hid]
  have hn1l : n1 ≤ 1000 := by rw [← hn1, List.length_take]; have : mkT.length = 28 := rfl; omega
  clear hn1
  have HS1 := Lib.hid hS1
  clear hS1
  go_wp2_with (fail)
  refine (told_wides most (by omega) w1 (H.out.below b1)).mono ?_
  rintro e w2 ⟨A2, c2, rfl, hS2, hb2⟩
  generalize hn2 : 2 * (wdT.take most).length = n2
  have HN2 : Hid (n2 = 2 * min wdT.length most) := by rw [← hn2, List.length_take, Nat.min_comm]; simp [Hid]
  have hn2l : n2 ≤ 1000 := by rw [← hn2, List.length_take]; have : wdT.length = 51 := rfl; omega
  clear hn2
  have b2 := b1.trans (hb2.mono b1.size)
  have HS1' := Lib.hid ((HS1.out.below hb2).more hb2.size)
  have HS2 := Lib.hid hS2
  clear hS2 HS1
  clear hb2
  go_wp2_with (fail)
  refine (told_all_marks w2 (H.out.below b2)).mono ?_
  rintro e w3 ⟨g3, off3, c3, rfl, hF3, hb3⟩
  have b3 := b2.trans (hb3.mono b2.size)
  have HS1 := Lib.hid ((HS1'.out.below hb3).more hb3.size)
  have HS2' := Lib.hid ((HS2.out.below hb3).more hb3.size)
  have HF3 := Lib.hid hF3
  clear hb3 hF3 HS1' HS2
  go_wp2_with (fail)
  refine (told_all_wides w3 (H.out.below b3)).mono ?_
  rintro e w4 ⟨g4, off4, c4, rfl, hF4, hb4⟩
  have b4 := b3.trans (hb4.mono b3.size)
  have HS1' := Lib.hid ((HS1.out.below hb4).more hb4.size)
  have HS2 := Lib.hid ((HS2'.out.below hb4).more hb4.size)
  have HF3' := Lib.hid (HF3.out.below hb4)
  have HF4 := Lib.hid hF4
  clear hb4 hF4 HS1 HS2' HF3
  go_wp2_with (fail)
  refine (rmarks_any w4).mono ?_
  rintro e w5 ⟨rfl, hb5, t5, s5⟩
  have b5 := b4.trans (hb5.mono b4.size)
  have HS1 := Lib.hid ((HS1'.out.below hb5).more hb5.size)
  have HS2' := Lib.hid ((HS2.out.below hb5).more hb5.size)
  have HF3 := Lib.hid (HF3'.out.below hb5)
  have HF4' := Lib.hid (HF4.out.below hb5)
  have HT5 := Lib.hid t5
  clear hb5 t5 HS1' HS2 HF3' HF4
  go_wp2_with (fail)
  refine (same_any A1 _ c1 w4.heap.size most mkT w5 (by decide) (by omega) HN1.out HS1.out HT5.out s5).mono ?_
  rintro e w6 ⟨rfl, hb6⟩
  have b6 := b5.trans (hb6.mono b5.size)
  have HS2 := Lib.hid ((HS2'.out.below hb6).more hb6.size)
  have HF3' := Lib.hid (HF3.out.below hb6)
  have HF4 := Lib.hid (HF4'.out.below hb6)
  clear hb6 HS2' HF3 HF4' HS1 HT5
  go_wp2_with (fail)
  refine (rwides_any w6).mono ?_
  rintro e w7 ⟨rfl, hb7, t7, s7⟩
  have b7 := b6.trans (hb7.mono b6.size)
  have HS2' := Lib.hid ((HS2.out.below hb7).more hb7.size)
  have HF3 := Lib.hid (HF3'.out.below hb7)
  have HF4' := Lib.hid (HF4.out.below hb7)
  have HT7 := Lib.hid t7
  clear hb7 t7 HS2 HF3' HF4
  go_wp2_with (fail)
  refine (same_any A2 _ c2 w6.heap.size most wdT w7 (by decide) (by omega) HN2.out HS2'.out HT7.out s7).mono ?_
  rintro e w8 ⟨rfl, hb8⟩
  have b8 := b7.trans (hb8.mono b7.size)
  have HF3' := Lib.hid (HF3.out.below hb8)
  have HF4 := Lib.hid (HF4'.out.below hb8)
  clear hb8 HF3 HF4' HS2' HT7
  go_wp2_with (fail)
  refine (awake_any w8 (H.out.below b8)).mono ?_
  rintro e w9 ⟨rfl, hb9⟩
  have b9 := b8.trans (hb9.mono b8.size)
  have HF3 := Lib.hid (HF3'.out.below hb9)
  have HF4' := Lib.hid (HF4.out.below hb9)
  clear hb9 HF3' HF4 b1 b2 b3 b4 b5 b6 b7 b8 s5 s7
  go_wp2
  go_loop [13, 15] (fun b i => ∃ k m : Nat, m = 2 * k ∧ k ≤ 28 ∧ i = .int .i64 m ∧ b = .bool (inT (mkT.take k) r)) (fun _ i => 56 - (intOf i).toNat)
  case atStart => exact ⟨0, 0, rfl, by omega, rfl, rfl⟩
  case round =>
    obtain ⟨k, m, hmk, hk, rfl, rfl⟩ := hrel
    have HM := Lib.hid hmk
    by_cases hlt : k < 28
    · have hx : mkT[k]? = some (mkT[k]'(by show k < 28; omega)) := List.getElem?_eq_getElem (by show k < 28; omega)
      have htk : mkT.take (k + 1) = mkT.take k ++ [mkT[k]'(by show k < 28; omega)] := List.take_succ_eq_append_getElem (by show k < 28; omega)
      obtain ⟨d1, d2⟩ := HF3.out.2 k _ hx
      generalize mkT[k]'(by show k < 28; omega) = x at hx htk d1 d2
      rw [← hmk] at d1 d2
      rw [Nat.add_assoc] at d2
      have hst := inT_snoc (mkT.take k) x r
      rw [← htk] at hst
      generalize inT (mkT.take k) r = v at hst ⊢
      have HST := Lib.hid hst
      clear hst htk hx
      have hm1 : (m : Int) + 1 < 56 := by omega
      have hm0 : (m : Int) < 56 := by omega
      have hm2 : 0 ≤ (m : Int) + 1 := by omega
      have hm3 : ((m : Int) + 1).toNat = m + 1 := by omega
      have hm4 : m < 56 := by omega
      have hm5 : m + 1 < 56 := by omega
      clear hmk
      cases v
      · by_cases hx1 : x.1 ≤ r
        · by_cases hx2 : r ≤ x.2
          · have e : inT (mkT.take (k + 1)) r = true := by rw [HST.out]; simp [hx1, hx2]
            have HE := Lib.hid e
            clear e
            go_wp2
            go_round
            case rel => exact ⟨k + 1, m + 2, by have := HM.out; omega, by omega, by go_num, by rw [HE.out]⟩
            case measure => simp [intOf]; omega
          · have e : inT (mkT.take (k + 1)) r = false := by rw [HST.out]; simp [hx2]
            have HE := Lib.hid e
            clear e
            go_wp2
            go_round
            case rel => exact ⟨k + 1, m + 2, by have := HM.out; omega, by omega, by go_num, by rw [HE.out]⟩
            case measure => simp [intOf]; omega
        · have e : inT (mkT.take (k + 1)) r = false := by rw [HST.out]; simp [hx1]
          have HE := Lib.hid e
          clear e
          go_wp2
          go_round
          case rel => exact ⟨k + 1, m + 2, by have := HM.out; omega, by omega, by go_num, by rw [HE.out]⟩
          case measure => simp [intOf]; omega
      · have e : inT (mkT.take (k + 1)) r = true := by rw [HST.out]; simp
        have HE := Lib.hid e
        clear e
        go_wp2
        go_round
        case rel => exact ⟨k + 1, m + 2, by have := HM.out; omega, by omega, by go_num, by rw [HE.out]⟩
        case measure => simp [intOf]; omega
    · obtain rfl : k = 28 := by omega
      obtain rfl : m = 56 := by omega
      rw [show mkT.take 28 = mkT from rfl]
      clear HM hmk
      go_wp2
      go_loop [14, 16] (fun b i => ∃ k m : Nat, m = 2 * k ∧ k ≤ 51 ∧ i = .int .i64 m ∧ b = .bool (inT (wdT.take k) r)) (fun _ i => 102 - (intOf i).toNat)
      case atStart => exact ⟨0, 0, rfl, by omega, rfl, rfl⟩
      case round =>
        obtain ⟨k, m, hmk, hk, rfl, rfl⟩ := hrel
        have HM := Lib.hid hmk
        by_cases hlt : k < 51
        · have hx : wdT[k]? = some (wdT[k]'(by show k < 51; omega)) := List.getElem?_eq_getElem (by show k < 51; omega)
          have htk : wdT.take (k + 1) = wdT.take k ++ [wdT[k]'(by show k < 51; omega)] := List.take_succ_eq_append_getElem (by show k < 51; omega)
          obtain ⟨d1, d2⟩ := HF4'.out.2 k _ hx
          generalize wdT[k]'(by show k < 51; omega) = x at hx htk d1 d2
          rw [← hmk] at d1 d2
          rw [Nat.add_assoc] at d2
          have hst := inT_snoc (wdT.take k) x r
          rw [← htk] at hst
          generalize inT (wdT.take k) r = v at hst ⊢
          have HST := Lib.hid hst
          clear hst htk hx
          have hm1 : (m : Int) + 1 < 102 := by omega
          have hm0 : (m : Int) < 102 := by omega
          have hm2 : 0 ≤ (m : Int) + 1 := by omega
          have hm3 : ((m : Int) + 1).toNat = m + 1 := by omega
          have hm4 : m < 102 := by omega
          have hm5 : m + 1 < 102 := by omega
          clear hmk
          cases v
          · by_cases hx1 : x.1 ≤ r
            · by_cases hx2 : r ≤ x.2
              · have e : inT (wdT.take (k + 1)) r = true := by rw [HST.out]; simp [hx1, hx2]
                have HE := Lib.hid e
                clear e
                go_wp2
                go_round
                case rel => exact ⟨k + 1, m + 2, by have := HM.out; omega, by omega, by go_num, by rw [HE.out]⟩
                case measure => simp [intOf]; omega
              · have e : inT (wdT.take (k + 1)) r = false := by rw [HST.out]; simp [hx2]
                have HE := Lib.hid e
                clear e
                go_wp2
                go_round
                case rel => exact ⟨k + 1, m + 2, by have := HM.out; omega, by omega, by go_num, by rw [HE.out]⟩
                case measure => simp [intOf]; omega
            · have e : inT (wdT.take (k + 1)) r = false := by rw [HST.out]; simp [hx1]
              have HE := Lib.hid e
              clear e
              go_wp2
              go_round
              case rel => exact ⟨k + 1, m + 2, by have := HM.out; omega, by omega, by go_num, by rw [HE.out]⟩
              case measure => simp [intOf]; omega
          · have e : inT (wdT.take (k + 1)) r = true := by rw [HST.out]; simp
            have HE := Lib.hid e
            clear e
            go_wp2
            go_round
            case rel => exact ⟨k + 1, m + 2, by have := HM.out; omega, by omega, by go_num, by rw [HE.out]⟩
            case measure => simp [intOf]; omega
        · obtain rfl : k = 51 := by omega
          obtain rfl : m = 102 := by omega
          rw [show wdT.take 51 = wdT from rfl]
          generalize hmv : inT mkT r = mv
          have HMV : Hid (mkB r = mv) := hmv
          generalize hwv : inT wdT r = wv
          have HWV := Lib.hid hwv
          have HW2 : Hid (wdB r = (wv && !mv)) := by unfold wdB; rw [hwv, HMV.out]; simp [Hid]
          clear hmv hwv hmk HM
          cases mv
          all_goals
            cases wv
            all_goals
              go_wp2_with (first
                | (go_at_call 11; refine (mark_any r w9 (H.out.below b9)).mono ?_; rintro e wA ⟨rfl, bA⟩; rw [HMV.out])
                | (go_at_call 13; refine (wide_any r wA (H.out.below (b9.trans (bA.mono b9.size)))).mono ?_; rintro e wB ⟨rfl, bB⟩; rw [HW2.out]))
              go_ret
              exact ⟨rfl, b9.trans ((bA.trans (bB.mono bA.size)).mono b9.size)⟩

theorem widthYields_int (k : Int) (h0 : 0 ≤ k) (h1 : k ≤ 255) (r : Int) (w : World) (hT : Tabs w) :
    Calls Tryd.prog 6 #[.int .u8 k, .int .i32 r] w fun e w' => e = .returned (.bool true) ∧ Below w.heap.size w w' := by
  obtain ⟨m, rfl⟩ := Int.eq_ofNat_of_zero_le h0
  exact widthYields_walk m (by omega) r w hT
end Go.Proofs.YtckohomfoicffaaDoor
