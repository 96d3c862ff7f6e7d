/-
  The law ClusterCuts, walked.
-/
import Derived.Test.YtmgakdbcgdhpaaaDoorClLawFits
namespace Go.Proofs.YtmgakdbcgdhpaaaDoor
open Go.RowKit
set_option linter.unusedVariables false

theorem OR.cap {w : World} {base n c : Nat} {e : TypeId} {A : Option Addr} {xs : List Value} (h : OR w base e A n c xs) : n ≤ c ∧ c ≤ maxLen := by
  obtain ⟨⟨hl, hv⟩, hn⟩ := h
  rcases hv with ⟨hv, h0⟩ | ⟨q, cap, cur, hv, h1, h2, h3, h4, _⟩
  · injection hv with hA hn hc
    subst hn hc
    exact ⟨Nat.le_refl _, by simp [maxLen]⟩
  · injection hv with hA hn hc
    subst hc
    exact ⟨h3, h4⟩

/-- The same texts, in any later world. -/
theorem same_con {w0 : World} {X : List (List UInt8)} {A B : Option Addr} {n m c d : Nat} (hl : X.length ≤ 100000) (hn : n = X.length) (hm : m = X.length) (w : World) (hb0 : Below w0.heap.size w0 w) (hA : Sl w w.heap.size A (sv X)) (hB : Sl w w.heap.size B (sv X)) :
    Calls Tryd.prog 32 #[.slice A n c, .slice B m d] w fun e w' => e = .returned (.bool true) ∧ Below w0.heap.size w0 w' ∧ Below w.heap.size w w' :=
  (sameall_any X n m A B c d w hl hn hm hA hB).mono fun e w' ⟨he, hb⟩ => ⟨he, hb0.trans (hb.mono hb0.size), hb⟩

set_option maxRecDepth 100000 in
set_option maxHeartbeats 4000000 in
theorem cuts_core (s : ByteArray) (hs : s.size ≤ maxLen) (l : List UInt8) (most : Nat) (hmo : most ≤ 255) (C : List (List Int)) (k : Nat) (i : Bool) (v n : Int) (w : World)
    (HL : Hid (l = s.data.toList.take 600)) (hll : l.length ≤ 600) (hCl : C.length ≤ l.length) (hk : (most < C.length ∧ k = most) ∨ (C.length ≤ most ∧ k = C.length))
    (HRC : Hid (∀ w', Below w.heap.size w w' → Calls Tryd.prog 30 #[.string ⟨l.toArray⟩] w' fun e w'' => ∃ A c, e = .returned (.slice A C.length c) ∧ OR w'' w.heap.size 9 A C.length c (sv (C.map eb)) ∧ Below w'.heap.size w' w''))
    (HCC : Hid (∀ w', Below w.heap.size w w' → Calls Tryd.prog 33 #[.string ⟨l.toArray⟩] w' fun e w'' => ∃ A c, e = .returned (.slice A C.length c) ∧ OR w'' w.heap.size 9 A C.length c (sv (C.map eb)) ∧ Below w'.heap.size w' w''))
    (HTO : Hid (∀ q w', q ≤ 1000000 → Below w.heap.size w w' → Calls Tryd.prog 31 #[.string ⟨l.toArray⟩, .int .i64 (q : Nat)] w' fun e w'' => ∃ A c, e = .returned (.tuple #[.slice A (C.take q).length c, .bool true]) ∧ OR w'' w.heap.size 9 A (C.take q).length c (sv ((C.take q).map eb)) ∧ Below w'.heap.size w' w''))
    (HCO : Hid (Con w 34 #[.string ⟨l.toArray⟩] (.int .i64 C.length)))
    (HI : Hid (Con w 35 #[.string ⟨l.toArray⟩] (.bool i))) (HRI : Hid (Con w 36 #[.string ⟨l.toArray⟩] (.bool i)))
    (HW : Hid (Con w 37 #[.string ⟨l.toArray⟩] (.int .i64 v))) (HRW : Hid (Con w 38 #[.string ⟨l.toArray⟩] (.int .i64 v)))
    (HN : Hid (Con w 39 #[.string ⟨l.toArray⟩] (.int .i64 n))) (HRN : Hid (Con w 40 #[.string ⟨l.toArray⟩] (.int .i64 n)))
    (HAW : Hid (Con w 41 #[] (.bool true))) :
    Calls Tryd.prog 7 #[.string s, .int .u8 most] w fun e w' => e = .returned (.bool true) ∧ Below w.heap.size w w' := by
  have htk : ∀ q, C.length ≤ q → C.take q = C := fun q hq => List.take_of_length_le hq
  have hkC : k ≤ C.length := by rcases hk with h | h <;> omega
  have hlk : (C.take k).length = k := by simp; omega
  have HTK := Lib.hid htk
  have HLK := Lib.hid hlk
  have hsl := size_of l
  have HSL := Lib.hid hsl
  have hCm : (C.map eb).length = C.length := List.length_map _
  have HCM := Lib.hid hCm
  have hC6 : C.length ≤ 600 := by omega
  clear htk hlk hsl hCm
  have hmi : (most : Int) ≤ 255 := by omega
  rcases hk with ⟨hk1, hk2⟩ | ⟨hk1, hk2⟩
  · have hki : (most : Int) < (C.length : Int) := by omega
    have hki2 : ¬ (C.length : Int) ≤ (most : Int) := by omega
    subst hk2
    clear hk1
    go_enter Tryd.func7, Tryd.ntmps7
    go_wp2_with (fail)
    refine (cut3_any s w hs).mono ?_
    rintro e w' ⟨rfl, rfl⟩
    rw [← HL.out]
    go_wp2_with (fail)
    refine (HRC.out w (Below.refl _ _)).mono ?_
    rintro e w1 ⟨A0, c0, rfl, hO, b1⟩
    have hcap := hO.cap
    have hkc : k ≤ c0 := by omega
    have HS0 := Lib.hid hO.sl
    clear hO hcap
    go_wp2_with (fail)
    refine (HTO.out k w1 (by omega) b1).mono ?_
    rintro e w2 ⟨A1, c1, rfl, hO1, hb2⟩
    rw [HLK.out] at hO1 ⊢
    have b2 := b1.trans (hb2.mono b1.size)
    have HS1 := Lib.hid hO1.sl
    have HS0' := Lib.hid ((HS0.out.below hb2).more hb2.size)
    clear hO1 hb2 HS0
    go_wp2_with (fail)
    have hkk : ((l.length : Int) + 1) = ((l.length + 1 : Nat) : Int) := by omega
    rw [hkk]
    refine (HTO.out (l.length + 1) w2 (by omega) b2).mono ?_
    rintro e w3 ⟨A2, c2, rfl, hO2, hb3⟩
    rw [HTK.out (l.length + 1) (by omega)] at hO2 ⊢
    have b3 := b2.trans (hb3.mono b2.size)
    have HS2 := Lib.hid hO2.sl
    have HS0 := Lib.hid ((HS0'.out.below hb3).more hb3.size)
    have HS1' := Lib.hid ((HS1.out.below hb3).more hb3.size)
    clear hO2 hb3 HS0' HS1 hkk
    go_wp2_with (fail)
    refine (same_con (w0 := w) (X := (C.take k).map eb) (by rw [List.length_map, HLK.out]; omega) (by rw [List.length_map, HLK.out]) (by rw [List.length_map, HLK.out]) w3 b3 HS1'.out (by have := HS0.out.take k; rw [sv_take, ← List.map_take] at this; exact this)).mono ?_
    rintro e w4 ⟨rfl, b4, hb4⟩
    have HS0' := Lib.hid ((HS0.out.below hb4).more hb4.size)
    have HS2' := Lib.hid ((HS2.out.below hb4).more hb4.size)
    clear hb4 HS1' HS0 HS2
    go_wp2_with (fail)
    refine (same_con (w0 := w) (X := C.map eb) (by rw [HCM.out]; omega) HCM.out.symm HCM.out.symm w4 b4 HS2'.out HS0'.out).mono ?_
    rintro e w5 ⟨rfl, b5, hb5⟩
    have HS0 := Lib.hid ((HS0'.out.below hb5).more hb5.size)
    clear hb5 HS0' HS2'
    go_wp2_with (fail)
    refine (HCC.out w5 b5).mono ?_
    rintro e w6 ⟨A3, c3, rfl, hO3, hb6⟩
    have b6 := b5.trans (hb6.mono b5.size)
    have HS3 := Lib.hid hO3.sl
    have HS0' := Lib.hid ((HS0.out.below hb6).more hb6.size)
    clear hO3 hb6 HS0
    go_wp2_with (fail)
    refine (same_con (w0 := w) (X := C.map eb) (by rw [HCM.out]; omega) HCM.out.symm HCM.out.symm w6 b6 HS3.out HS0'.out).mono ?_
    rintro e w7 ⟨rfl, hb, hb7⟩
    clear hb7 HS0' HS3 b1 b2 b3 b4 b5 b6
    go_wp2_with (first
      | (go_at_call 34; refine (HCO.out _ hb).mono ?_; clear hb; rintro e wx ⟨rfl, hb⟩)
      | (go_at_call 35; refine (HI.out _ hb).mono ?_; clear hb; rintro e wx ⟨rfl, hb⟩)
      | (go_at_call 36; refine (HRI.out _ hb).mono ?_; clear hb; rintro e wx ⟨rfl, hb⟩)
      | (go_at_call 37; refine (HW.out _ hb).mono ?_; clear hb; rintro e wx ⟨rfl, hb⟩)
      | (go_at_call 38; refine (HRW.out _ hb).mono ?_; clear hb; rintro e wx ⟨rfl, hb⟩)
      | (go_at_call 39; refine (HN.out _ hb).mono ?_; clear hb; rintro e wx ⟨rfl, hb⟩)
      | (go_at_call 40; refine (HRN.out _ hb).mono ?_; clear hb; rintro e wx ⟨rfl, hb⟩)
      | (go_at_call 41; refine (HAW.out _ hb).mono ?_; clear hb; rintro e wx ⟨rfl, hb⟩))
    all_goals
      go_ret
      exact ⟨ret_bool (by first | rfl | simp), hb⟩
  · have hki : (C.length : Int) ≤ (most : Int) := by omega
    have hki2 : ¬ (most : Int) < (C.length : Int) := by omega
    subst hk2
    clear hk1
    go_enter Tryd.func7, Tryd.ntmps7
    go_wp2_with (fail)
    refine (cut3_any s w hs).mono ?_
    rintro e w' ⟨rfl, rfl⟩
    rw [← HL.out]
    go_wp2_with (fail)
    refine (HRC.out w (Below.refl _ _)).mono ?_
    rintro e w1 ⟨A0, c0, rfl, hO, b1⟩
    have hcap := hO.cap
    have hkc : C.length ≤ c0 := by omega
    have HS0 := Lib.hid hO.sl
    clear hO hcap
    go_wp2_with (fail)
    refine (HTO.out C.length w1 (by omega) b1).mono ?_
    rintro e w2 ⟨A1, c1, rfl, hO1, hb2⟩
    rw [HLK.out] at hO1 ⊢
    have b2 := b1.trans (hb2.mono b1.size)
    have HS1 := Lib.hid hO1.sl
    have HS0' := Lib.hid ((HS0.out.below hb2).more hb2.size)
    clear hO1 hb2 HS0
    go_wp2_with (fail)
    have hkk : ((l.length : Int) + 1) = ((l.length + 1 : Nat) : Int) := by omega
    rw [hkk]
    refine (HTO.out (l.length + 1) w2 (by omega) b2).mono ?_
    rintro e w3 ⟨A2, c2, rfl, hO2, hb3⟩
    rw [HTK.out (l.length + 1) (by omega)] at hO2 ⊢
    have b3 := b2.trans (hb3.mono b2.size)
    have HS2 := Lib.hid hO2.sl
    have HS0 := Lib.hid ((HS0'.out.below hb3).more hb3.size)
    have HS1' := Lib.hid ((HS1.out.below hb3).more hb3.size)
    clear hO2 hb3 HS0' HS1 hkk
    go_wp2_with (fail)
    refine (same_con (w0 := w) (X := (C.take C.length).map eb) (by rw [List.length_map, HLK.out]; omega) (by rw [List.length_map, HLK.out]) (by rw [List.length_map, HLK.out]) w3 b3 HS1'.out (by have := HS0.out.take C.length; rw [sv_take, ← List.map_take] at this; exact this)).mono ?_
    rintro e w4 ⟨rfl, b4, hb4⟩
    have HS0' := Lib.hid ((HS0.out.below hb4).more hb4.size)
    have HS2' := Lib.hid ((HS2.out.below hb4).more hb4.size)
    clear hb4 HS1' HS0 HS2
    go_wp2_with (fail)
    refine (same_con (w0 := w) (X := C.map eb) (by rw [HCM.out]; omega) HCM.out.symm HCM.out.symm w4 b4 HS2'.out HS0'.out).mono ?_
    rintro e w5 ⟨rfl, b5, hb5⟩
    have HS0 := Lib.hid ((HS0'.out.below hb5).more hb5.size)
    clear hb5 HS0' HS2'
    go_wp2_with (fail)
    refine (HCC.out w5 b5).mono ?_
    rintro e w6 ⟨A3, c3, rfl, hO3, hb6⟩
    have b6 := b5.trans (hb6.mono b5.size)
    have HS3 := Lib.hid hO3.sl
    have HS0' := Lib.hid ((HS0.out.below hb6).more hb6.size)
    clear hO3 hb6 HS0
    go_wp2_with (fail)
    refine (same_con (w0 := w) (X := C.map eb) (by rw [HCM.out]; omega) HCM.out.symm HCM.out.symm w6 b6 HS3.out HS0'.out).mono ?_
    rintro e w7 ⟨rfl, hb, hb7⟩
    clear hb7 HS0' HS3 b1 b2 b3 b4 b5 b6
    go_wp2_with (first
      | (go_at_call 34; refine (HCO.out _ hb).mono ?_; clear hb; rintro e wx ⟨rfl, hb⟩)
      | (go_at_call 35; refine (HI.out _ hb).mono ?_; clear hb; rintro e wx ⟨rfl, hb⟩)
      | (go_at_call 36; refine (HRI.out _ hb).mono ?_; clear hb; rintro e wx ⟨rfl, hb⟩)
      | (go_at_call 37; refine (HW.out _ hb).mono ?_; clear hb; rintro e wx ⟨rfl, hb⟩)
      | (go_at_call 38; refine (HRW.out _ hb).mono ?_; clear hb; rintro e wx ⟨rfl, hb⟩)
      | (go_at_call 39; refine (HN.out _ hb).mono ?_; clear hb; rintro e wx ⟨rfl, hb⟩)
      | (go_at_call 40; refine (HRN.out _ hb).mono ?_; clear hb; rintro e wx ⟨rfl, hb⟩)
      | (go_at_call 41; refine (HAW.out _ hb).mono ?_; clear hb; rintro e wx ⟨rfl, hb⟩))
    all_goals
      go_ret
      exact ⟨ret_bool (by first | rfl | simp), hb⟩

set_option maxRecDepth 100000 in
set_option maxHeartbeats 1000000 in
theorem clusterCuts_walk (s : ByteArray) (hs : s.size ≤ maxLen) (most : Nat) (hmo : most ≤ 255) (w : World) (hT : Tabs w) :
    Calls Tryd.prog 7 #[.string s, .int .u8 most] w fun e w' => e = .returned (.bool true) ∧ Below w.heap.size w w' := by
  obtain ⟨l, hl⟩ : ∃ l, l = s.data.toList.take 600 := ⟨_, rfl⟩
  have hll : l.length ≤ 600 := by rw [hl]; exact List.length_take_le _ _
  have hld : (⟨l.toArray⟩ : ByteArray).data.toList = l := rfl
  have hlz : (⟨l.toArray⟩ : ByteArray).size ≤ 10000 := by rw [size_of]; omega
  have hlz2 : (⟨l.toArray⟩ : ByteArray).size ≤ 1000000 := by omega
  have hcl := cls_len l
  have hrc := fun w' => rcut_any ⟨l.toArray⟩ hlz w'
  have hcc := fun w' hw => ccut_any ⟨l.toArray⟩ (by omega) w' hw
  have hto := fun q hq w' hw => told3_any ⟨l.toArray⟩ hlz q hq w' hw
  have hco := fun w' hw => ccount_any ⟨l.toArray⟩ hlz2 w' hw
  have hi := fun w' hw => cis_any ⟨l.toArray⟩ hlz2 w' hw
  have hri := fun w' => ris_any l (by omega) w'
  have hw := fun w' hw => cwidth_any ⟨l.toArray⟩ hlz2 w' hw
  have hrw := fun w' => rwidth_any ⟨l.toArray⟩ hlz w'
  have hn := fun w' hw => ccols_any ⟨l.toArray⟩ hlz2 w' hw
  have hrn := fun w' => rcols_any ⟨l.toArray⟩ hlz w'
  simp only at hrc hcc hto hco hi hw hrw hn hrn
  generalize cls (rs l) = C at hcl hrc hcc hto hco hn hrn
  generalize isC l = i at hi hri
  generalize fw (rs l) = v at hw hrw
  generalize sumC C = n at hn hrn
  refine cuts_core s hs l most hmo C (min C.length most) i v n w hl hll hcl (by omega) ?_ ?_ ?_ (Con.of hT hco) (Con.of hT hi) (Con.of hT (fun w' _ => hri w')) (Con.of hT hw) (Con.of hT (fun w' _ => hrw w')) (Con.of hT hn) (Con.of hT (fun w' _ => hrn w')) (Con.of hT (fun w' h => awake3_any w' h))
  · intro w' hb
    refine (hrc w').mono ?_
    rintro e w'' ⟨A, c, he, hO, hb2⟩
    exact ⟨A, c, he, hO.weaken hb.size, hb2⟩
  · intro w' hb
    refine (hcc w' (hT.below hb)).mono ?_
    rintro e w'' ⟨A, c, he, hO, hb2⟩
    exact ⟨A, c, he, hO.weaken hb.size, hb2⟩
  · intro q w' hq hb
    refine (hto q hq w' (hT.below hb)).mono ?_
    rintro e w'' ⟨A, c, he, hO, hb2⟩
    exact ⟨A, c, he, hO.weaken hb.size, hb2⟩

theorem clusterCuts_int (s : ByteArray) (hs : s.size ≤ maxLen) (k : Int) (h0 : 0 ≤ k) (h1 : k ≤ 255) (w : World) (hT : Tabs w) :
    Calls Tryd.prog 7 #[.string s, .int .u8 k] w fun e w' => e = .returned (.bool true) ∧ Below w.heap.size w w' := by
  obtain ⟨m, rfl⟩ := Int.eq_ofNat_of_zero_le h0
  exact clusterCuts_walk s hs m (by omega) w hT
end Go.Proofs.YtmgakdbcgdhpaaaDoor
