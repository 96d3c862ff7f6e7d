/-
  Walks: the reference's Join, Fit, SameAll.
-/
import Derived.Test.YtmgakdbcgdhpaaaDoorClRef2
import Derived.Test.YtmgakdbcgdhpaaaDoorClFit
import Derived.IntWalk
namespace Go.Proofs.YtmgakdbcgdhpaaaDoor
open Go.RowKit
set_option linter.unusedVariables false

theorem fitR_eq (most : Int) {C : List (List Int)} (h : ∀ c ∈ C, wf c) : FitR most (prs 0 C) = (eb (fitC most 0 C).flatten, sumC (fitC most 0 C)) := by
  have hp := fitC_pre most C 0
  have hw : ∀ c ∈ fitC most 0 C, wf c := fun c hc => h c (hp.subset hc)
  unfold FitR
  rw [fit_prs C 0 h, last_prs hw, txs_prs, eb_flatten]

set_option maxRecDepth 100000 in
set_option maxHeartbeats 2000000 in
theorem rjoin_any (l : List UInt8) (hs : l.length ≤ 10000) (r : Int) (w : World) :
    Calls Tryd.prog 49 #[.string ⟨l.toArray⟩, .int .i32 r] w fun e w' => e = .returned (.tuple #[.string ⟨(joinB l r).1.toArray⟩, .bool (joinB l r).2]) ∧ Below w.heap.size w w' := by
  have hisc := ris_any l hs
  have h4 := e4_le r
  unfold joinB
  generalize hi : isC l = i at hisc ⊢
  generalize hm : mkB r = m
  obtain ⟨k, hk⟩ : ∃ k, e4 r = k := ⟨_, rfl⟩
  have HK : Hid (enc (rfix r) = k) := hk
  rw [hk] at h4
  simp only [hk]
  have HM := Lib.hid hm
  have HIS := Lib.hid hisc
  have hss := str_add l k
  have HSS := Lib.hid hss
  clear hi hm hisc hk hss
  cases i with
  | false =>
    rw [if_neg (by simp)]
    go_enter Tryd.func49, Tryd.ntmps49
    go_wp2_with (first
      | (go_at_call 57; refine (rbytes_any _ _).mono ?_; rintro e w' ⟨rfl, rfl⟩; rw [HK.out]; have hcv := run_str_sl (w.alloc (.cells (bv k).toArray 5)) (w.heap.size + 1) (some ⟨w.heap.size, 0, none⟩) k.length k.length k (Sl.new _ _ _) rfl)
      | (go_at_call 36; refine (HIS.out _).mono ?_; rintro e w1 ⟨rfl, hb1⟩))
    go_ret2
    exact ⟨rfl, below_al hb1⟩
  | true =>
    cases m with
    | false =>
      rw [if_neg (by simp)]
      go_enter Tryd.func49, Tryd.ntmps49
      go_wp2_with (first
        | (go_at_call 57; refine (rbytes_any _ _).mono ?_; rintro e w' ⟨rfl, rfl⟩; rw [HK.out]; have hcv := run_str_sl (w.alloc (.cells (bv k).toArray 5)) (w.heap.size + 1) (some ⟨w.heap.size, 0, none⟩) k.length k.length k (Sl.new _ _ _) rfl)
        | (go_at_call 36; refine (HIS.out _).mono ?_; rintro e w1 ⟨rfl, hb1⟩)
        | (go_at_call 58; refine (rmark3_any _ _).mono ?_; rintro e w2 ⟨rfl, hb2⟩; rw [HM.out]))
      go_ret2
      exact ⟨rfl, below_al (hb1.trans (hb2.mono hb1.size))⟩
    | true =>
      simp only [true_and]
      by_cases h64 : l.length + k.length ≤ 64
      · rw [if_pos h64]
        have hgt : ¬ (64 : Int) < (l.length : Int) + (k.length : Int) := by omega
        go_enter Tryd.func49, Tryd.ntmps49
        go_wp2_with (first
          | (go_at_call 57; refine (rbytes_any _ _).mono ?_; rintro e w' ⟨rfl, rfl⟩; rw [HK.out]; have hcv := run_str_sl (w.alloc (.cells (bv k).toArray 5)) (w.heap.size + 1) (some ⟨w.heap.size, 0, none⟩) k.length k.length k (Sl.new _ _ _) rfl)
          | (go_at_call 36; refine (HIS.out _).mono ?_; rintro e w1 ⟨rfl, hb1⟩)
          | (go_at_call 58; refine (rmark3_any _ _).mono ?_; rintro e w2 ⟨rfl, hb2⟩; rw [HM.out]))
        go_ret2
        exact ⟨ret_str2 HSS.out, below_al (hb1.trans (hb2.mono hb1.size))⟩
      · rw [if_neg h64]
        have hgt : (64 : Int) < (l.length : Int) + (k.length : Int) := by omega
        go_enter Tryd.func49, Tryd.ntmps49
        go_wp2_with (first
          | (go_at_call 57; refine (rbytes_any _ _).mono ?_; rintro e w' ⟨rfl, rfl⟩; rw [HK.out]; have hcv := run_str_sl (w.alloc (.cells (bv k).toArray 5)) (w.heap.size + 1) (some ⟨w.heap.size, 0, none⟩) k.length k.length k (Sl.new _ _ _) rfl)
          | (go_at_call 36; refine (HIS.out _).mono ?_; rintro e w1 ⟨rfl, hb1⟩)
          | (go_at_call 58; refine (rmark3_any _ _).mono ?_; rintro e w2 ⟨rfl, hb2⟩; rw [HM.out]))
        go_ret2
        exact ⟨rfl, below_al (hb1.trans (hb2.mono hb1.size))⟩

set_option maxRecDepth 100000 in
set_option maxHeartbeats 2000000 in
theorem sameall_any (C : List (List UInt8)) (n m : Nat) (A B : Option Addr) (c d : Nat) (w : World) (hl : C.length ≤ 100000) (hn : n = C.length) (hm : m = C.length) (hA : Sl w w.heap.size A (sv C)) (hB : Sl w w.heap.size B (sv C)) :
    Calls Tryd.prog 32 #[.slice A n c, .slice B m d] w fun e w' => e = .returned (.bool true) ∧ Below w.heap.size w w' := by
  obtain rfl : m = n := by omega
  have hcells : ∀ k, k < m → ∃ (s : ByteArray) (b1 o1 b2 o2 : Nat), (A = some ⟨b1, o1, none⟩ ∧ B = some ⟨b2, o2, none⟩) ∧ (b1 < w.heap.size ∧ b2 < w.heap.size) ∧
      w.cell? ⟨b1, o1 + k, none⟩ = some (.string s) ∧ w.cell? ⟨b2, o2 + k, none⟩ = some (.string s) := by
    intro k hk
    have hkl : k < C.length := by omega
    obtain ⟨b1, o1, e1, k1, g1⟩ := hA.open_ (by rw [sv_length]; omega)
    obtain ⟨b2, o2, e2, k2, g2⟩ := hB.open_ (by rw [sv_length]; omega)
    exact ⟨⟨C[k].toArray⟩, b1, o1, b2, o2, ⟨e1, e2⟩, ⟨k1, k2⟩, g1 k _ (sv_get hkl), g2 k _ (sv_get hkl)⟩
  have HC := Lib.hid hcells
  have hm1 : m ≤ 100000 := by omega
  clear hcells hm hn hA hB
  go_enter Tryd.func32, Tryd.ntmps32
  go_wp2
  go_loopw [5] (fun i wr => ∃ k : Nat, k ≤ m ∧ i = .int .i64 k ∧ Below w.heap.size w wr) (fun i _ => m - (intOf i).toNat)
  case atStart => exact ⟨0, by omega, rfl, Below.refl _ _⟩
  case round =>
    obtain ⟨k, hk, rfl, hbw⟩ := hrel
    by_cases hlt : k < m
    · obtain ⟨s, b1, o1, b2, o2, ⟨e1, e2⟩, ⟨k1, k2⟩, g1, g2⟩ := HC.out k hlt
      subst e1 e2
      have d1 := (hbw.cell (p := ⟨b1, o1 + k, none⟩) k1).trans g1
      have d2 := (hbw.cell (p := ⟨b2, o2 + k, none⟩) k2).trans g2
      clear g1 g2
      have hkn : (k : Int) < (m : Int) := by omega
      go_wp2
      go_quiet (fail)
      go_wp2
      go_roundw
      case rel => exact ⟨k + 1, by omega, by go_num, hbw.trans (below_drewN (Below.refl _ _) _)⟩
      case measure => simp [intOf]; omega
    · have hkn : ¬ (k : Int) < (m : Int) := by omega
      go_wp2
      go_ret
      exact ⟨rfl, hbw⟩

theorem ret_si {a b : List UInt8} {c d : Int} (h : a = b) (g : c = d) : Ending.returned (.tuple #[.string ⟨a.toArray⟩, .int .i64 c]) = .returned (.tuple #[.string ⟨b.toArray⟩, .int .i64 d]) := by rw [h, g]

set_option maxRecDepth 100000 in
set_option maxHeartbeats 4000000 in
theorem rfit_any3 (s : ByteArray) (hs : s.size ≤ 10000) (most : Int) (h0 : -9223372036854775808 ≤ most) (h1 : most ≤ 9223372036854775807) (w : World) :
    Calls Tryd.prog 47 #[.string s, .int .i64 most] w fun e w' => e = .returned (.tuple #[.string ⟨(FitR most (prs 0 (cls (rs s.data.toList)))).1.toArray⟩, .int .i64 (FitR most (prs 0 (cls (rs s.data.toList)))).2]) ∧ Below w.heap.size w w' := by
  have hcut := rcut_any s hs w
  have hwf := cls_wf (rs_isR s.data.toList)
  have hlc : (cls (rs s.data.toList)).length ≤ 10000 := by have := cls_len s.data.toList; have h3 : s.data.toList.length = s.size := rfl; omega
  rw [fitR_eq most hwf]
  generalize cls (rs s.data.toList) = C at hcut hwf hlc ⊢
  simp only
  generalize hF : fitC most 0 C = F
  have HF := Lib.hid hF
  have HCUT := Lib.hid hcut
  have HWF := Lib.hid hwf
  clear hcut hwf hF
  go_enter Tryd.func47, Tryd.ntmps47
  go_wp2_with (fail)
  refine HCUT.out.mono ?_
  rintro e w1 ⟨A, c, rfl, hO, hb1⟩
  have HO := Lib.hid hO
  clear hO
  go_wp2
  go_loopw [7, 8, 9] (fun v7 v8 v9 wr => ∃ k : Nat, k ≤ C.length ∧ v9 = .int .i64 k ∧ v7 = .string ⟨(eb (C.take k).flatten).toArray⟩ ∧ v8 = .int .i64 (sumC (C.take k)) ∧ F = C.take k ++ fitC most (sumC (C.take k)) (C.drop k) ∧ (sumC (C.take k) = 0 ∨ sumC (C.take k) ≤ most) ∧ Below w1.heap.size w1 wr) (fun _ _ v9 _ => C.length - (intOf v9).toNat)
  case atStart => exact ⟨0, by omega, rfl, rfl, rfl, HF.out.symm, .inl rfl, Below.refl _ _⟩
  case round =>
    obtain ⟨k, hk, rfl, rfl, rfl, hfa, hle, hbw⟩ := hrel
    by_cases hlt : k < C.length
    · have hlt' : (k : Int) < (C.length : Int) := by omega
      obtain ⟨g, rfl, _, hc, hgl⟩ := sv_cell HO.out hlt
      have hgs : ∀ w', Below w1.heap.size w1 w' → w'.cell? ⟨g, k, none⟩ = some (.string ⟨(eb C[k]).toArray⟩) := fun w' hb => (hb.cell (p := ⟨g, k, none⟩) hgl).trans hc
      have hc' := hgs wr hbw
      have hft := flat_take hlt
      have hst := sumC_take hlt
      have hat := fitC_at most C k hlt (HF.out.trans hfa)
      rw [HF.out] at hat
      have hwk := HWF.out C[k] (List.getElem_mem hlt)
      have hfk : fw (rs (eb C[k])) = wc C[k] := by rw [rs_wf hwk, fw_wf hwk]
      have hdl := wf_len hwk
      have hpl := flat_len (cs := C.take k) (fun c hc => HWF.out c (List.mem_of_mem_take hc))
      have hkl : (C.take k).length ≤ k := List.length_take_le _ _
      have hpl2 : (eb (C.take k).flatten).length ≤ 640000 := by omega
      have hw2 := wc_01 C[k]
      have hbd := sumC_bd (C.take k)
      have hp0 : 0 ≤ sumC (C.take k) := hbd.1
      have hp1 : sumC (C.take k) ≤ 20000 := by omega
      clear hpl hbd hwk hfa hc
      generalize hpp : eb (C.take k).flatten = p at hft hpl2 ⊢
      generalize hqq : sumC (C.take k) = u at hst hat hle hp0 hp1 ⊢
      generalize wc C[k] = v at hst hat hfk hw2
      generalize eb C[k] = d at hc' hft hdl hgs hfk
      obtain ⟨hv0, hv2⟩ := hw2
      have hd1 : (⟨d.toArray⟩ : ByteArray).data.toList = d := rfl
      have hd2 : (⟨d.toArray⟩ : ByteArray).size ≤ 10000 := by rw [size_of]; omega
      have hsa := str_add p d
      have hwi : ∀ w', Below w1.heap.size w1 w' → Calls Tryd.prog 38 #[.string ⟨d.toArray⟩] w' fun e w'' => e = .returned (.int .i64 v) ∧ Below w1.heap.size w1 w'' := fun w' hb => (rwidth_any _ hd2 w').mono (by
        rintro e w'' ⟨he, hb2⟩
        rw [hd1, hfk] at he
        exact ⟨he, hb.trans (hb2.mono hb.size)⟩)
      have HWI := Lib.hid hwi
      have HFT := Lib.hid hft
      have HST := Lib.hid hst
      have HAT := Lib.hid hat
      have HSA := Lib.hid hsa
      have HGS := Lib.hid hgs
      have HPP := Lib.hid hpp
      have HQQ := Lib.hid hqq
      clear hft hst hat hsa hwi hgs hd1 hd2 hfk hpp hqq
      have hmu : -9223372036854775808 ≤ most - u := by omega
      have hmu2 : most - u ≤ 9223372036854775807 := by omega
      by_cases hgt : most < u + v
      · have hgt' : most - u < v := by omega
        have hF2 := HAT.out.1 hgt
        have HF2 := Lib.hid hF2
        clear hF2 hgt
        go_wp2_with (go_at_call 38; refine (HWI.out _ hbw).mono ?_; rintro e w2 ⟨rfl, hb2⟩)
        go_ret2
        refine ⟨ret_si ?_ ?_, hb1.trans (hb2.mono hb1.size)⟩
        · rw [HF2.out]; exact HPP.out.symm
        · rw [HF2.out]; exact HQQ.out.symm
      · have hgt' : ¬ most - u < v := by omega
        have hF2 := HAT.out.2 hgt
        have HF2 := Lib.hid hF2
        have hle2 : u + v ≤ most := by omega
        clear hF2 hgt
        go_wp2_with (go_at_call 38; refine (HWI.out _ hbw).mono ?_; rintro e w2 ⟨rfl, hb2⟩; have hc2 := HGS.out w2 hb2)
        have hc3 := HGS.out w2.drew hb2.drew
        have hws : IntKind.i64.wrap (u + v) = u + v := IntWalk.i64_in _ (by omega)
        go_region_held (fun w' => Below w1.heap.size w1 w' ∧ w'.cell? ⟨g, k, none⟩ = some (.string ⟨d.toArray⟩)) (first | exact ⟨hb2.drew, hc3⟩ | exact ⟨hbx, HGS.out _ hbx⟩)
          (first
            | (go_at_call 38; refine (HWI.out _ (by first | assumption | exact And.left (by assumption))).mono ?_; rintro e wx ⟨rfl, hbx⟩))
        all_goals
          go_wp2
          refine ⟨⟨k + 1, by omega, by go_num, by rw [HFT.out, HSA.out], by rw [HST.out], HF2.out, .inr (by rw [HST.out]; omega), hbx⟩, by simp only [intOf]; omega⟩
    · have hge : ¬ (k : Int) < (C.length : Int) := by omega
      have hF2 : F = C := by rw [hfa, show C.take k = C from List.take_of_length_le (by omega), List.drop_eq_nil_of_le (by omega)]; simp [fitC]
      have HF2 := Lib.hid hF2
      rw [show C.take k = C from List.take_of_length_le (by omega)]
      clear hfa hF2 hle
      go_wp2
      go_ret2
      exact ⟨ret_si (by rw [HF2.out]) (by rw [HF2.out]), hb1.trans (hbw.mono hb1.size)⟩
end Go.Proofs.YtmgakdbcgdhpaaaDoor
