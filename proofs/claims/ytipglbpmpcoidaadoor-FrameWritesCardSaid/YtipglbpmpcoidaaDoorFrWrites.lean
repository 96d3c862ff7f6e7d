/-
  The law FrameWrites, walked.
-/
import Derived.Test.YtipglbpmpcoidaaDoorFrAwake
import Derived.Test.YtipglbpmpcoidaaDoorFrWrMath
import Derived.Test.YtipglbpmpcoidaaDoorGfS
namespace Go.Proofs.YtipglbpmpcoidaaDoor
open Go.RowKit
set_option linter.unusedVariables false
set_option linter.unusedSimpArgs false

set_option maxRecDepth 100000 in
set_option maxHeartbeats 8000000 in
theorem frameWrites_walk (a c : Int) (ha0 : 0 ≤ a) (ha1 : a ≤ 255) (hc0 : 0 ≤ c) (hc1 : c ≤ 255) (s : ByteArray) (hs : s.size ≤ maxLen) (w : World) (hT : BlankT w) (hTab : Tabs w) :
    Calls Tryd.prog 4 #[.int .u8 a, .int .u8 c, .string s] w fun e w' => e = .returned (.bool true) ∧ Below w.heap.size w w' := by
  obtain ⟨n, hn⟩ : ∃ n : Nat, (n : Int) = 1 + a % 100 := ⟨(1 + a % 100).toNat, by omega⟩
  obtain ⟨p, hp⟩ : ∃ p : Nat, (p : Int) = c % (n : Int) := ⟨(c % (n : Int)).toNat, by have := Int.emod_nonneg c (show (n : Int) ≠ 0 by omega); omega⟩
  have hpn : p < n := by have := Int.emod_lt_of_pos c (show 0 < (n : Int) by omega); omega
  have hn1 : 1 ≤ n ∧ n ≤ 100 := by omega
  have HNE := Lib.hid hn
  have HPE := Lib.hid hp
  have HT := Lib.hid hT
  have HTB := Lib.hid hTab
  unfold maxLen at hs
  clear hn hp hT hTab
  go_enter Tryd.func4, Tryd.ntmps4
  go_wp2_with (fail)
  rw [← HNE.out, ← HPE.out]
  obtain ⟨l, hl, hl300⟩ : ∃ l : List UInt8, s.extract 0 (min (s.size : Int) 300).toNat = ⟨l.toArray⟩ ∧ l.length ≤ 300 :=
    ⟨_, fex_take s _ (by omega), by rw [List.length_take]; omega⟩
  rw [hl]
  have hfl := rflat_any ⟨l.toArray⟩ (by show l.toArray.size ≤ _; simp; omega) w
  rw [show (⟨l.toArray⟩ : ByteArray).data.toList = l from rfl] at hfl
  refine hfl.mono ?_
  rintro e w1 ⟨rfl, hb1⟩
  have hf4 := flatB_le4 l
  clear hl hfl
  go_wp2_with (fail)
  have hft := rfit_any3 ⟨(flatB l).toArray⟩ (by show (flatB l).toArray.size ≤ _; simp; omega) ((n : Int) - p) (by omega) (by omega) w1
  rw [show (⟨(flatB l).toArray⟩ : ByteArray).data.toList = flatB l from rfl] at hft
  obtain ⟨t, k, C, hR, hWr⟩ := wrt_of ⟨true, false, false, 0, 0⟩ l hpn hn1.2 (by decide)
  rw [hR] at hft
  refine hft.mono ?_
  rintro e w2 ⟨rfl, hb2⟩
  have hb02 := hb1.trans (hb2.mono hb1.size)
  have HB2 := Lib.hid hb02
  have HWR := Lib.hid hWr
  have hkn := hWr.fit
  clear hft hR hf4 hb1 hb2 hb02 hWr hl300
  go_wp2_with (fail)
  refine (fnew_ok n 2 hn1.1 (by omega) (by omega) (by omega) w2 (HT.out.bel HB2.out)).mono ?_
  rintro e w3 ⟨b, g, rb, bs, rfl, hbd, hb3⟩
  have hsz2 := HB2.out.size
  have htx := ftext_any hbd ((HT.out.bel HB2.out).bel hb3) ((HTB.out.below HB2.out).below hb3) ⟨(HT.out.bel HB2.out).2, (HTB.out.below HB2.out).mg, (HTB.out.below HB2.out).wg⟩ 1 p t HWR.out.t64 ⟨true, false, false, 0, 0⟩
  rw [HWR.out.txt] at htx
  simp only [Sty.cells] at htx
  have HTX := Lib.hid htx
  have hlo : ∀ k, GrOwn g rb bs k → w.heap.size ≤ k := fun k hk => by have := hbd.lo_le k (.inr hk); omega
  have HLO := Lib.hid hlo
  have HB3 := Lib.hid (HB2.out.trans (hb3.mono HB2.out.size))
  clear htx hlo hbd hb3 hsz2
  go_wp2_with (fail)
  refine HTX.out.mono ?_
  rintro e w4 ⟨rfl, hbd4, hc4⟩
  have hb4 : Below w.heap.size w w4 := HB3.out.trans (hc4.below HB3.out.size HLO.out)
  have HB4 := Lib.hid hb4
  have HF := Lib.hid (fframe_any hbd4 (HT.out.bel hb4))
  clear hbd4 hc4 hb4
  go_wp2_with (fail)
  refine HF.out.mono ?_
  rintro e w5 ⟨A, c', rfl, hrf, hb5⟩
  have HB5 := Lib.hid (HB4.out.trans (hb5.mono HB4.out.size))
  clear hb5 HF HTX
  obtain ⟨R, hRe⟩ : ∃ R, R = List.replicate p bl ++ C ++ List.replicate (n - p - k) bl := ⟨_, rfl⟩
  rw [← hRe] at hrf ⊢
  have hRl : R.length = n := by rw [hRe]; have := HWR.out.len; simp; omega
  have hL2 : ((blankG n 2).set 1 R).length = 2 := by simp [blankG]
  have hL1 : ((blankG n 2).set 1 R)[1]? = some R := by simp [blankG]
  obtain ⟨b', off, Ai, ci, rfl, hbb, hcr, ⟨hni, hci⟩, hsd⟩ := hrf.at_ hL1
  rw [hRl] at hcr hci
  rw [hL2]
  have hpc : ¬ ci = p := by omega
  have hsl := (hsd.sl.take (k := (p + k) * 7)).drop (k := p * 7) (cap := ci * 7) (by rw [List.length_take, rc_length]; omega)
  rw [rc_take, rc_drop, if_neg (by omega)] at hsl
  have hCR : (R.take (p + k)).drop p = C := by
    rw [hRe, List.append_assoc, List.take_append, List.length_replicate, List.take_of_length_le (by simp), show p + k - p = k by omega, List.take_append, HWR.out.len, Nat.sub_self, List.take_zero, List.append_nil, List.take_of_length_le (by rw [HWR.out.len]; omega),
      List.drop_left' (by simp)]
  rw [hCR] at hsl
  have HCR := Lib.hid hcr
  have HSL := Lib.hid hsl
  have HBB := Lib.hid hbb
  clear hrf hRe hRl hL2 hL1 hcr hni hsd hsl hCR hbb
  obtain ⟨w6, hw6⟩ : ∃ w6, w6 = w5.alloc (.cells #[.slice (some ⟨b', off, none⟩) 2 c', .int .i64 0, .int .i64 0, .bool false] 24) := ⟨_, rfl⟩
  have hb56 : Below w5.heap.size w5 w6 := by rw [hw6]; exact (Below.refl _ w5).alloc (Nat.le_refl _) _
  have hfr : Blk w6 w5.heap.size 24 [.slice (some ⟨b', off, none⟩) 2 c', .int .i64 0, .int .i64 0, .bool false] := by rw [hw6]; exact Blk.new w5 _ _
  have hb6 := HB5.out.trans (hb56.mono HB5.out.size)
  have q0 := hfr.cell 0
  simp only [List.getElem?_cons_zero] at q0
  have hcr6 : w6.cell? ⟨b', off + 1, none⟩ = some (.slice Ai n ci) := (hb56.cell (p := ⟨b', off + 1, none⟩) HBB.out).trans HCR.out
  have hsl6 := HSL.out.below hb56
  have HB6 := Lib.hid hb6
  have HSL6 := Lib.hid hsl6
  subst hw6
  clear hb56 hfr hb6 hsl6
  have HAW := Lib.hid (fawake_any _ (HT.out.bel HB6.out) (HTB.out.below HB6.out))
  go_wp2_with (fail)
  have hkc := HWR.out.len
  have hln := rline_any C k (ci - p) w5.heap.size (Option.map (fun x => x.add (p * 7)) Ai) _ hkc.symm (by omega) (by rw [HWR.out.line]; have := HWR.out.t64; omega) HSL6.out
  rw [HWR.out.line] at hln
  refine hln.mono ?_
  rintro e w' ⟨rfl, rfl⟩
  clear hln hkc q0 hcr6
  go_wp2_with (go_at_call 13; refine HAW.out.mono ?_; rintro e w7 ⟨rfl, hb7⟩)
  go_ret
  exact ⟨rfl, HB6.out.trans (hb7.mono HB6.out.size)⟩
end Go.Proofs.YtipglbpmpcoidaaDoor
