/-
  The law RunesText, walked.
-/
import Derived.Test.YtckohomfoicffaaRnSame
import Derived.Test.YtckohomfoicffaaRnCount
import Derived.Test.YtckohomfoicffaaRnRText
import Derived.Test.YtckohomfoicffaaRnAwake
import Derived.Deep.RegionHeld3
namespace Go.Proofs.Ytckohomfoicffaa
open Go.RowKit Go.Shelf
set_option linter.unusedVariables false

theorem ba_list (k : List UInt8) : (⟨k.toArray⟩ : ByteArray).data.toList = k := rfl
theorem rfix_rfix (r : Int) : rfix (rfix r) = rfix r := if_pos (rfix_isR r)
theorem stp_enc (r : Int) (l : List UInt8) : stp (enc (rfix r) ++ l) = (rfix r, (enc (rfix r)).length) := by
  unfold stp
  rw [nx_enc _ (rfix_isR r)]
  simp
theorem txt_cons (x : Nat × Int) (xs : List (Nat × Int)) : txt (x :: xs) = enc (rfix x.2) ++ txt xs := by simp [txt]
theorem txt_rns (xs : List (Nat × Int)) : ∀ f a, (txt xs).length ≤ f → txt (rns f a (txt xs)) = txt xs := by
  induction xs with
  | nil => intro f a h; rw [show txt [] = [] from rfl, rns_nil]; rfl
  | cons x xs ih =>
    intro f a h
    have he := enc_le (rfix x.2)
    rw [txt_cons] at h ⊢
    rw [List.length_append] at h
    obtain ⟨f, rfl⟩ : ∃ m, f = m + 1 := ⟨f - 1, by omega⟩
    rw [rns, if_neg (by intro e; have h1 := (List.append_eq_nil_iff.1 e).1; rw [h1] at he; simp at he), stp_enc, txt_cons, List.drop_left]
    simp only
    rw [rfix_rfix, ih f _ (by omega)]
theorem txt_txt (l : List UInt8) : txt (rnsOf (txt (rnsOf l))) = txt (rnsOf l) := txt_rns _ _ _ (Nat.le_refl _)

theorem same_all (R : List (Nat × Int)) (n : Nat) (A1 A2 A3 A4 : Option Addr) (c1 c2 c3 c4 : Nat) (w : World) (hR : R.length ≤ 100000) (hn : R.length = n)
    (h1 : Sl w w.heap.size A1 (rv R)) (h2 : Sl w w.heap.size A2 (av R)) (h3 : Sl w w.heap.size A3 (rv R)) (h4 : Sl w w.heap.size A4 (av R)) :
    Calls Try.prog 8 #[.slice A1 n c1, .slice A2 n c2, .slice A3 n c3, .slice A4 n c4, .int .i64 n] w fun e w' => e = .returned (.bool true) ∧ Below w.heap.size w w' :=
  same_any R R.length n A1 A2 A3 A4 c1 c2 n c3 c4 w hR (by rw [List.take_length, hn]) hn.symm (by rw [List.take_length]; exact h1) (by rw [List.take_length]; exact h2) h3 h4

set_option maxRecDepth 100000 in
set_option maxHeartbeats 4000000 in
theorem law2_walk (A : Option Addr) (n cap : Nat) (l : List UInt8) (most : Nat) (w : World) (hmo : most ≤ 255) (hn : n = l.length) (hc : n ≤ cap) (hcm : cap ≤ maxLen) (hnil : A = none → cap = 0) (hS : Sl w w.heap.size A (bv l)) :
    Calls Try.prog 3 #[.slice A n cap, .int .u8 most] w fun e w' => e = .returned (.bool true) ∧ Below w.heap.size w w' := by
  have HCM := Lib.hid hcm
  unfold maxLen at hcm
  have hcn : n ≤ 9223372036854775807 := by omega
  have hk : ∃ k : List UInt8, k.length = min n 400 ∧ Sl w w.heap.size A (bv k) := ⟨l.take 400, by simp; omega, by rw [← bv_take]; exact hS.take 400⟩
  obtain ⟨k, hkl, hSk⟩ := hk
  have hk4 : k.length ≤ 400 := by omega
  have hkc : k.length ≤ cap := by omega
  have hmi : (most : Int) ≤ 255 := by omega
  have HK := Lib.hid hkl
  have HS := Lib.hid hSk
  clear hS hSk hkl hnil hn
  have hle := rnsOf_le k
  have htl := txt_le (rnsOf k)
  have htt := txt_txt k
  generalize hR : rnsOf k = R at hle htl htt
  have HR := Lib.hid hR
  have HTT := Lib.hid htt
  clear hR htt
  go_enter Try.func3, Try.ntmps3
  go_wp2_with (fail)
  refine (cut_any A n cap w hc hcn).mono ?_
  rintro e w' ⟨rfl, rfl⟩
  rw [← HK.out]
  go_wp2_with (fail)
  refine (runes_any A k.length cap k w rfl (by omega) hkc HCM.out HS.out).mono ?_
  rintro e w1 ⟨A1, c1, A2, c2, rfl, o1, o2, b1⟩
  rw [HR.out] at o1 o2 ⊢
  have HS1 := Lib.hid o1.sl
  have HS2 := Lib.hid o2.sl
  clear o1 o2
  have cv1 : ∀ w', Below w.heap.size w w' → Sem.run Try.prog (Go.convert 22 9 (.slice A k.length cap)) w' = .ok (.string ⟨k.toArray⟩) w' := fun w' hb => run_str_sl w' w.heap.size A k.length cap k (HS.out.below hb) rfl
  have CV := Lib.hid cv1
  clear cv1
  have cvA := CV.out w1 b1
  go_wp2_with (fail)
  have hsz : (⟨k.toArray⟩ : ByteArray).size = k.length := by show k.toArray.size = _; simp
  refine (told_any ⟨k.toArray⟩ (by rw [hsz]; omega) most (by omega) w1).mono ?_
  rintro e w2 ⟨A3, c3, A4, c4, rfl, h3, h4, hb2⟩
  rw [ba_list k, HR.out] at h3 h4 ⊢
  have b2 := b1.trans (hb2.mono b1.size)
  have HS1' := Lib.hid ((HS1.out.below hb2).more hb2.size)
  have HS2' := Lib.hid ((HS2.out.below hb2).more hb2.size)
  have HS3 := Lib.hid h3
  have HS4 := Lib.hid h4
  clear h3 h4 hb2 cvA HS1 HS2
  generalize hq : (R.take most).length = q
  have HQ := Lib.hid hq
  have hqm : (q : Int) ≤ 255 := by rw [← hq, List.length_take]; omega
  have hqr : q = min R.length most := by rw [← hq, List.length_take, Nat.min_comm]
  have HQR := Lib.hid hqr
  clear hq hqr
  have cvB := CV.out w2 b2
  have hk1 : (k.length : Int) + 1 ≤ 401 := by omega
  go_wp2_with (fail)
  have hkk : ((k.length : Int) + 1) = ((k.length + 1 : Nat) : Int) := by omega
  rw [hkk]
  refine (told_any ⟨k.toArray⟩ (by rw [hsz]; omega) (k.length + 1) (by omega) w2).mono ?_
  rintro e w3 ⟨A5, c5, A6, c6, rfl, h5, h6, hb3⟩
  have htk : R.take (k.length + 1) = R := List.take_of_length_le (by omega)
  rw [ba_list k, HR.out, htk] at h5 h6 ⊢
  have b3 := b2.trans (hb3.mono b2.size)
  have HS1 := Lib.hid ((HS1'.out.below hb3).more hb3.size)
  have HS2 := Lib.hid ((HS2'.out.below hb3).more hb3.size)
  have HS3' := Lib.hid ((HS3.out.below hb3).more hb3.size)
  have HS4' := Lib.hid ((HS4.out.below hb3).more hb3.size)
  have HS5 := Lib.hid h5
  have HS6 := Lib.hid h6
  clear h5 h6 hb3 cvB HS1' HS2' HS3 HS4 hkk htk
  go_wp2_with (fail)
  refine (text_any A k.length cap k w.heap.size w3 rfl (by omega) (HS.out.below b3) b3.size).mono ?_
  rintro e w4 ⟨rfl, hb4⟩
  rw [HR.out]
  have b4 := b3.trans (hb4.mono b3.size)
  have HS1' := Lib.hid ((HS1.out.below hb4).more hb4.size)
  have HS2' := Lib.hid ((HS2.out.below hb4).more hb4.size)
  have HS3 := Lib.hid ((HS3'.out.below hb4).more hb4.size)
  have HS4 := Lib.hid ((HS4'.out.below hb4).more hb4.size)
  have HS5' := Lib.hid ((HS5.out.below hb4).more hb4.size)
  have HS6' := Lib.hid ((HS6.out.below hb4).more hb4.size)
  clear hb4 HS1 HS2 HS3' HS4' HS5 HS6
  generalize ht : txt R = t
  have HT := Lib.hid ht
  have ht4 : t.length ≤ 1600 := by rw [← ht]; omega
  clear ht
  generalize hRl : R.length = rl at hle ⊢
  have HRL := Lib.hid hRl
  have hrl : (rl : Int) ≤ 400 := by omega
  clear hRl htl
  have hqc : most < rl → q = most := by have := HQR.out; rw [HRL.out] at this; omega
  have hqd : rl ≤ most → q = rl := by have := HQR.out; rw [HRL.out] at this; omega
  have HQC := Lib.hid hqc
  have HQD := Lib.hid hqd
  clear hqc hqd
  have hkl2 : (⟨k.toArray⟩ : ByteArray).size ≤ 400 := by rw [hsz]; omega
  have htl2 : (⟨t.toArray⟩ : ByteArray).size ≤ 1600 := by show t.toArray.size ≤ _; simp; omega
  have hRl4 : R.length ≤ 100000 := by have := HRL.out; omega
  have hcount : ∀ w', Calls Try.prog 10 #[.string ⟨k.toArray⟩] w' fun e w'' => e = .returned (.int .i64 rl) ∧ Below w'.heap.size w' w'' := by
    intro w'
    have := count_any ⟨k.toArray⟩ (by omega) w'
    rw [show (⟨k.toArray⟩ : ByteArray).data.toList = k from rfl, HR.out, HRL.out] at this
    exact this
  obtain ⟨v, hv⟩ : ∃ v : Bool, v = (txt (rnsOf k) == k) := ⟨_, rfl⟩
  have hval : ∀ w', Calls Try.prog 11 #[.string ⟨k.toArray⟩] w' fun e w'' => e = .returned (.bool v) ∧ Below w'.heap.size w' w'' := by
    intro w'
    have := valid_any ⟨k.toArray⟩ w' (by omega)
    rw [show (⟨k.toArray⟩ : ByteArray).data.toList = k from rfl, show (⟨k.toArray⟩ : ByteArray).toList = k from by rw [ByteArray.toList_eq], ← hv] at this
    exact this
  have hrval : ∀ w', Calls Try.prog 12 #[.string ⟨k.toArray⟩] w' fun e w'' => e = .returned (.bool v) ∧ Below w'.heap.size w' w'' := by
    intro w'
    have := rvalid_any ⟨k.toArray⟩ w' (by omega)
    rw [show (⟨k.toArray⟩ : ByteArray).data.toList = k from rfl, show (⟨k.toArray⟩ : ByteArray).toList = k from by rw [ByteArray.toList_eq], ← hv] at this
    exact this
  have hvalt : ∀ w', Calls Try.prog 11 #[.string ⟨t.toArray⟩] w' fun e w'' => e = .returned (.bool true) ∧ Below w'.heap.size w' w'' := by
    intro w'
    have := valid_any ⟨t.toArray⟩ w' (by omega)
    rw [show (⟨t.toArray⟩ : ByteArray).data.toList = t from rfl, show (⟨t.toArray⟩ : ByteArray).toList = t from by rw [ByteArray.toList_eq], show txt (rnsOf t) = t from by rw [← HT.out]; exact HTT.out, beq_self_eq_true] at this
    exact this
  have up : ∀ {f : Nat} {args : Array Value} {x : Value}, (∀ w', Calls Try.prog f args w' fun e w'' => e = .returned x ∧ Below w'.heap.size w' w'') → ∀ w', Below w.heap.size w w' → Calls Try.prog f args w' fun e w'' => e = .returned x ∧ Below w.heap.size w w'' :=
    fun h w' hb => (h w').mono fun e w'' ⟨he, hb2⟩ => ⟨he, hb.trans (hb2.mono hb.size)⟩
  have HCO := Lib.hid (up hcount)
  have HVA := Lib.hid (up hval)
  have HRV := Lib.hid (up hrval)
  have HVT := Lib.hid (up hvalt)
  have HAW := Lib.hid (up awake_any)
  clear hcount hval hrval hvalt hv up
  have b4s := b4.size
  have hkl3 : k.length ≤ 100000 := by omega
  rcases Nat.lt_or_ge most rl with hmt | hmt
  · obtain rfl : q = most := HQC.out hmt
    have hmt' : (q : Int) < (rl : Int) := by omega
    go_wp2_with (fail)
    refine (same_any R _ q A3 A4 A1 A2 c3 c4 _ c1 c2 w4 hRl4 HQ.out.symm HRL.out.symm HS3.out HS4.out HS1'.out HS2'.out).mono ?_
    rintro e w5 ⟨rfl, hb5⟩
    have b5 := b4.trans (hb5.mono b4.size)
    have HS1 := Lib.hid ((HS1'.out.below hb5).more hb5.size)
    have HS2 := Lib.hid ((HS2'.out.below hb5).more hb5.size)
    have HS5 := Lib.hid ((HS5'.out.below hb5).more hb5.size)
    have HS6 := Lib.hid ((HS6'.out.below hb5).more hb5.size)
    clear hb5 HS1' HS2' HS3 HS4 HS5' HS6'
    go_wp2_with (fail)
    refine (same_all R _ A5 A6 A1 A2 c5 c6 c1 c2 w5 hRl4 HRL.out HS5.out HS6.out HS1.out HS2.out).mono ?_
    rintro e w6 ⟨rfl, hb6⟩
    have b6 := b5.trans (hb6.mono b5.size)
    clear hb6 HS1 HS2 HS5 HS6
    go_wp2_with (fail)
    refine (rtext_any A k.length cap k w6 rfl hkl3 hkc HCM.out ((HS.out.below b6).more b6.size)).mono ?_
    rintro e w7 ⟨rfl, hb7⟩
    rw [HR.out, HT.out]
    have b7 := b6.trans (hb7.mono b6.size)
    clear hb7 b1 b2 b3 b4 b5 b6
    have cv1 := CV.out w7 b7
    have cv2 := CV.out w7.drew b7.drew
    clear hcm hcn hk4 hkc hle htl2 hkl2 hsz hrl hRl4 hqm hk1 hkl3 hmo hmi hmt hmt' ht4
    go_wp2_with (fail)
    go_region_held (fun w' => Below w.heap.size w w' ∧ Sem.run Try.prog (Go.convert 22 9 (.slice A k.length cap)) w' = .ok (.string ⟨k.toArray⟩) w')
      (first | exact ⟨b7.drew, cv2⟩ | exact ⟨hbx, CV.out _ hbx⟩)
      (first
        | (go_at_call 10; refine (HCO.out _ (by first | assumption | exact And.left (by assumption))).mono ?_; rintro e wx ⟨rfl, hbx⟩)
        | (go_at_call_of 11 (Value.string ⟨t.toArray⟩); refine (HVT.out _ (by first | assumption | exact And.left (by assumption))).mono ?_; rintro e wx ⟨rfl, hbx⟩)
        | (go_at_call 11; refine (HVA.out _ (by first | assumption | exact And.left (by assumption))).mono ?_; rintro e wx ⟨rfl, hbx⟩)
        | (go_at_call 12; refine (HRV.out _ (by first | assumption | exact And.left (by assumption))).mono ?_; rintro e wx ⟨rfl, hbx⟩)
        | (go_at_call 13; refine (HAW.out _ (by first | assumption | exact And.left (by assumption))).mono ?_; rintro e wx ⟨rfl, hbx⟩))
    all_goals
      go_wp2
      go_ret
      exact ⟨rfl, hbx⟩
  · obtain rfl : q = rl := HQD.out hmt
    have hmt' : ¬ (most : Int) < (q : Int) := by omega
    go_wp2_with (fail)
    refine (same_any R _ q A3 A4 A1 A2 c3 c4 _ c1 c2 w4 hRl4 HQ.out.symm HRL.out.symm HS3.out HS4.out HS1'.out HS2'.out).mono ?_
    rintro e w5 ⟨rfl, hb5⟩
    have b5 := b4.trans (hb5.mono b4.size)
    have HS1 := Lib.hid ((HS1'.out.below hb5).more hb5.size)
    have HS2 := Lib.hid ((HS2'.out.below hb5).more hb5.size)
    have HS5 := Lib.hid ((HS5'.out.below hb5).more hb5.size)
    have HS6 := Lib.hid ((HS6'.out.below hb5).more hb5.size)
    clear hb5 HS1' HS2' HS3 HS4 HS5' HS6'
    go_wp2_with (fail)
    refine (same_all R _ A5 A6 A1 A2 c5 c6 c1 c2 w5 hRl4 HRL.out HS5.out HS6.out HS1.out HS2.out).mono ?_
    rintro e w6 ⟨rfl, hb6⟩
    have b6 := b5.trans (hb6.mono b5.size)
    clear hb6 HS1 HS2 HS5 HS6
    go_wp2_with (fail)
    refine (rtext_any A k.length cap k w6 rfl hkl3 hkc HCM.out ((HS.out.below b6).more b6.size)).mono ?_
    rintro e w7 ⟨rfl, hb7⟩
    rw [HR.out, HT.out]
    have b7 := b6.trans (hb7.mono b6.size)
    clear hb7 b1 b2 b3 b4 b5 b6
    have cv1 := CV.out w7 b7
    have cv2 := CV.out w7.drew b7.drew
    clear hcm hcn hk4 hkc hle htl2 hkl2 hsz hrl hRl4 hqm hk1 hkl3 hmo hmi hmt hmt' ht4
    go_wp2_with (fail)
    go_region_held (fun w' => Below w.heap.size w w' ∧ Sem.run Try.prog (Go.convert 22 9 (.slice A k.length cap)) w' = .ok (.string ⟨k.toArray⟩) w')
      (first | exact ⟨b7.drew, cv2⟩ | exact ⟨hbx, CV.out _ hbx⟩)
      (first
        | (go_at_call 10; refine (HCO.out _ (by first | assumption | exact And.left (by assumption))).mono ?_; rintro e wx ⟨rfl, hbx⟩)
        | (go_at_call_of 11 (Value.string ⟨t.toArray⟩); refine (HVT.out _ (by first | assumption | exact And.left (by assumption))).mono ?_; rintro e wx ⟨rfl, hbx⟩)
        | (go_at_call 11; refine (HVA.out _ (by first | assumption | exact And.left (by assumption))).mono ?_; rintro e wx ⟨rfl, hbx⟩)
        | (go_at_call 12; refine (HRV.out _ (by first | assumption | exact And.left (by assumption))).mono ?_; rintro e wx ⟨rfl, hbx⟩)
        | (go_at_call 13; refine (HAW.out _ (by first | assumption | exact And.left (by assumption))).mono ?_; rintro e wx ⟨rfl, hbx⟩))
    all_goals
      go_wp2
      go_ret
      exact ⟨rfl, hbx⟩

theorem law2_int (A : Option Addr) (n cap : Nat) (l : List UInt8) (most : Int) (w : World) (h0 : 0 ≤ most) (h1 : most ≤ 255) (hn : n = l.length) (hc : n ≤ cap) (hcm : cap ≤ maxLen) (hnil : A = none → cap = 0) (hS : Sl w w.heap.size A (bv l)) :
    Calls Try.prog 3 #[.slice A n cap, .int .u8 most] w fun e w' => e = .returned (.bool true) ∧ Below w.heap.size w w' := by
  obtain ⟨m, rfl⟩ := Int.eq_ofNat_of_zero_le h0
  exact law2_walk A n cap l m w (by omega) hn hc hcm hnil hS
end Go.Proofs.Ytckohomfoicffaa
