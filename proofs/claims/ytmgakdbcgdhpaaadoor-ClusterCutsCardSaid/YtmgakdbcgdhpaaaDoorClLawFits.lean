/-
  The law ClusterFits, walked.
-/
import Derived.Test.YtmgakdbcgdhpaaaDoorClLaws
namespace Go.Proofs.YtmgakdbcgdhpaaaDoor
open Go.RowKit
set_option linter.unusedVariables false

/-- A call that gives x and turns nothing that lay when it began. -/
def Con2 (w0 : World) (f : Nat) (args : Array Value) (x : Value) : Prop := ∀ w', Below w0.heap.size w0 w' → Calls Tryd.prog f args w' fun e w'' => e = .returned x ∧ Below w'.heap.size w' w''
/-- What Cut gives, as far as the law reads it: how many there are, and (if k is less) the text at place k. -/
def CutR (w0 : World) (m k : Nat) (d : ByteArray) (e : Ending) (w' : World) : Prop :=
  ∃ A c, e = .returned (.slice A m c) ∧ Below w0.heap.size w0 w' ∧ (k < m → ∃ g, A = some ⟨g, 0, none⟩ ∧ g < w'.heap.size ∧ w'.cell? ⟨g, k, none⟩ = some (.string d))

set_option maxRecDepth 100000 in
set_option maxHeartbeats 4000000 in
theorem fits_core (s : ByteArray) (hs : s.size ≤ maxLen) (l a : List UInt8) (most n : Int) (m k : Nat) (d : ByteArray) (v : Int) (w : World)
    (HL : Hid (l = s.data.toList.take 600)) (h0 : -9223372036854775808 ≤ most) (h1 : most ≤ 9223372036854775807) (hn0 : 0 ≤ n) (hn3 : n ≤ 1200) (hnm : n ≤ most ∨ n = 0) (hkm : k ≤ m) (hml : m ≤ 600)
    (HF1 : Hid (Con w 46 #[.string ⟨l.toArray⟩, .int .i64 most] (.tuple #[.string ⟨a.toArray⟩, .int .i64 n])))
    (HRF : Hid (Con w 47 #[.string ⟨l.toArray⟩, .int .i64 most] (.tuple #[.string ⟨a.toArray⟩, .int .i64 n])))
    (HCO : Hid (Con w 39 #[.string ⟨a.toArray⟩] (.int .i64 n)))
    (HCN : Hid (Con2 w 34 #[.string ⟨a.toArray⟩] (.int .i64 k)))
    (HCT : Hid (∀ w', Below w.heap.size w w' → Calls Tryd.prog 33 #[.string ⟨l.toArray⟩] w' (CutR w m k d)))
    (HWK : Hid (k < m → Con w 37 #[.string d] (.int .i64 v))) (HV : Hid (k < m → most - n < v))
    (HAW : Hid (Con w 41 #[] (.bool true))) :
    Calls Tryd.prog 9 #[.string s, .int .i64 most] w fun e w' => e = .returned (.bool true) ∧ Below w.heap.size w w' := by
  have hmu : -9223372036854775808 ≤ most - n := by omega
  have hmu2 : most - n ≤ 9223372036854775807 := by omega
  have hcase : most < 0 ∨ most = 0 ∨ 0 < most := by omega
  rcases hcase with hm | hm | hm
  · obtain rfl : n = 0 := by omega
    have hm2 : ¬ 0 < most := by omega
    have hm3 : ¬ 0 ≤ most := by omega
    clear hnm
    rcases Nat.lt_or_ge k m with hk | hk
    · have HW := Lib.hid (HWK.out hk)
      have hgt := HV.out hk
      have hki : (k : Int) < (m : Int) := by omega
      have hkd : ((k : Int) == (m : Int)) = false := by simp; omega
      have HK := Lib.hid hk
      clear hkm hk HWK HV
      go_enter Tryd.func9, Tryd.ntmps9
      go_wp2_with (fail)
      refine (cut3_any s w hs).mono ?_
      rintro e w' ⟨rfl, rfl⟩
      rw [← HL.out]
      have hb := Below.refl w.heap.size w
      go_wp2_with (first
        | (go_at_call 46; refine (HF1.out _ hb).mono ?_; clear hb; rintro e wx ⟨rfl, hb⟩)
        | (go_at_call 47; refine (HRF.out _ hb).mono ?_; clear hb; rintro e wx ⟨rfl, hb⟩)
        | (go_at_call 39; refine (HCO.out _ hb).mono ?_; clear hb; rintro e wx ⟨rfl, hb⟩)
        | (go_at_call 33; refine (HCT.out _ hb).mono ?_; rintro e wy ⟨A, c, rfl, hb2, hg⟩; obtain ⟨g, rfl, hgl, hgc⟩ := hg HK.out; have hkm : k < m := HK.out; clear hg hb)
        | (go_at_call 34; refine (HCN.out _ hb2).mono ?_; rintro e wz ⟨rfl, hb3⟩; have hgz := (hb3.cell (p := ⟨g, k, none⟩) hgl).trans hgc; have hb4 := hb2.trans (hb3.mono hb2.size))
        | (go_at_call 37; refine (HW.out _ hb4).mono ?_; rintro e wq ⟨rfl, hb5⟩)
        | (go_at_call 41; refine (HAW.out _ hb5).mono ?_; rintro e wr ⟨rfl, hb6⟩))
      all_goals
        go_ret
        exact ⟨ret_bool (by first | rfl | simp), hb6⟩
    · obtain rfl : k = m := by omega
      clear hkm hk HWK HV
      go_enter Tryd.func9, Tryd.ntmps9
      go_wp2_with (fail)
      refine (cut3_any s w hs).mono ?_
      rintro e w' ⟨rfl, rfl⟩
      rw [← HL.out]
      have hb := Below.refl w.heap.size w
      go_wp2_with (first
        | (go_at_call 46; refine (HF1.out _ hb).mono ?_; clear hb; rintro e wx ⟨rfl, hb⟩)
        | (go_at_call 47; refine (HRF.out _ hb).mono ?_; clear hb; rintro e wx ⟨rfl, hb⟩)
        | (go_at_call 39; refine (HCO.out _ hb).mono ?_; clear hb; rintro e wx ⟨rfl, hb⟩)
        | (go_at_call 33; refine (HCT.out _ hb).mono ?_; rintro e wy ⟨A, c, rfl, hb2, hg⟩; clear hg hb)
        | (go_at_call 34; refine (HCN.out _ hb2).mono ?_; rintro e wz ⟨rfl, hb3⟩; have hb4 := hb2.trans (hb3.mono hb2.size))
        | (go_at_call 41; refine (HAW.out _ hb4).mono ?_; rintro e wr ⟨rfl, hb6⟩))
      all_goals
        go_ret
        exact ⟨ret_bool (by first | rfl | simp), hb6⟩
  · subst hm
    obtain rfl : n = 0 := by omega
    clear hnm
    rcases Nat.lt_or_ge k m with hk | hk
    · have HW := Lib.hid (HWK.out hk)
      have hgt := HV.out hk
      have hki : (k : Int) < (m : Int) := by omega
      have hkd : ((k : Int) == (m : Int)) = false := by simp; omega
      have HK := Lib.hid hk
      clear hkm hk HWK HV
      go_enter Tryd.func9, Tryd.ntmps9
      go_wp2_with (fail)
      refine (cut3_any s w hs).mono ?_
      rintro e w' ⟨rfl, rfl⟩
      rw [← HL.out]
      have hb := Below.refl w.heap.size w
      go_wp2_with (first
        | (go_at_call 46; refine (HF1.out _ hb).mono ?_; clear hb; rintro e wx ⟨rfl, hb⟩)
        | (go_at_call 47; refine (HRF.out _ hb).mono ?_; clear hb; rintro e wx ⟨rfl, hb⟩)
        | (go_at_call 39; refine (HCO.out _ hb).mono ?_; clear hb; rintro e wx ⟨rfl, hb⟩)
        | (go_at_call 33; refine (HCT.out _ hb).mono ?_; rintro e wy ⟨A, c, rfl, hb2, hg⟩; obtain ⟨g, rfl, hgl, hgc⟩ := hg HK.out; have hkm : k < m := HK.out; clear hg hb)
        | (go_at_call 34; refine (HCN.out _ hb2).mono ?_; rintro e wz ⟨rfl, hb3⟩; have hgz := (hb3.cell (p := ⟨g, k, none⟩) hgl).trans hgc; have hb4 := hb2.trans (hb3.mono hb2.size))
        | (go_at_call 37; refine (HW.out _ hb4).mono ?_; rintro e wq ⟨rfl, hb5⟩)
        | (go_at_call 41; refine (HAW.out _ hb5).mono ?_; rintro e wr ⟨rfl, hb6⟩))
      all_goals
        go_ret
        exact ⟨ret_bool (by first | rfl | simp), hb6⟩
    · obtain rfl : k = m := by omega
      clear hkm hk HWK HV
      go_enter Tryd.func9, Tryd.ntmps9
      go_wp2_with (fail)
      refine (cut3_any s w hs).mono ?_
      rintro e w' ⟨rfl, rfl⟩
      rw [← HL.out]
      have hb := Below.refl w.heap.size w
      go_wp2_with (first
        | (go_at_call 46; refine (HF1.out _ hb).mono ?_; clear hb; rintro e wx ⟨rfl, hb⟩)
        | (go_at_call 47; refine (HRF.out _ hb).mono ?_; clear hb; rintro e wx ⟨rfl, hb⟩)
        | (go_at_call 39; refine (HCO.out _ hb).mono ?_; clear hb; rintro e wx ⟨rfl, hb⟩)
        | (go_at_call 33; refine (HCT.out _ hb).mono ?_; rintro e wy ⟨A, c, rfl, hb2, hg⟩; clear hg hb)
        | (go_at_call 34; refine (HCN.out _ hb2).mono ?_; rintro e wz ⟨rfl, hb3⟩; have hb4 := hb2.trans (hb3.mono hb2.size))
        | (go_at_call 41; refine (HAW.out _ hb4).mono ?_; rintro e wr ⟨rfl, hb6⟩))
      all_goals
        go_ret
        exact ⟨ret_bool (by first | rfl | simp), hb6⟩
  · have hle : ¬ most < n := by omega
    have hm2 : ¬ most < 0 := by omega
    have hm3 : ¬ most ≤ 0 := by omega
    have hm4 : 0 ≤ most := by omega
    clear hnm
    rcases Nat.lt_or_ge k m with hk | hk
    · have HW := Lib.hid (HWK.out hk)
      have hgt := HV.out hk
      have hki : (k : Int) < (m : Int) := by omega
      have hkd : ((k : Int) == (m : Int)) = false := by simp; omega
      have HK := Lib.hid hk
      clear hkm hk HWK HV
      go_enter Tryd.func9, Tryd.ntmps9
      go_wp2_with (fail)
      refine (cut3_any s w hs).mono ?_
      rintro e w' ⟨rfl, rfl⟩
      rw [← HL.out]
      have hb := Below.refl w.heap.size w
      go_wp2_with (first
        | (go_at_call 46; refine (HF1.out _ hb).mono ?_; clear hb; rintro e wx ⟨rfl, hb⟩)
        | (go_at_call 47; refine (HRF.out _ hb).mono ?_; clear hb; rintro e wx ⟨rfl, hb⟩)
        | (go_at_call 39; refine (HCO.out _ hb).mono ?_; clear hb; rintro e wx ⟨rfl, hb⟩)
        | (go_at_call 33; refine (HCT.out _ hb).mono ?_; rintro e wy ⟨A, c, rfl, hb2, hg⟩; obtain ⟨g, rfl, hgl, hgc⟩ := hg HK.out; have hkm : k < m := HK.out; clear hg hb)
        | (go_at_call 34; refine (HCN.out _ hb2).mono ?_; rintro e wz ⟨rfl, hb3⟩; have hgz := (hb3.cell (p := ⟨g, k, none⟩) hgl).trans hgc; have hb4 := hb2.trans (hb3.mono hb2.size))
        | (go_at_call 37; refine (HW.out _ hb4).mono ?_; rintro e wq ⟨rfl, hb5⟩)
        | (go_at_call 41; refine (HAW.out _ hb5).mono ?_; rintro e wr ⟨rfl, hb6⟩))
      all_goals
        go_ret
        exact ⟨ret_bool (by first | rfl | simp), hb6⟩
    · obtain rfl : k = m := by omega
      clear hkm hk HWK HV
      go_enter Tryd.func9, Tryd.ntmps9
      go_wp2_with (fail)
      refine (cut3_any s w hs).mono ?_
      rintro e w' ⟨rfl, rfl⟩
      rw [← HL.out]
      have hb := Below.refl w.heap.size w
      go_wp2_with (first
        | (go_at_call 46; refine (HF1.out _ hb).mono ?_; clear hb; rintro e wx ⟨rfl, hb⟩)
        | (go_at_call 47; refine (HRF.out _ hb).mono ?_; clear hb; rintro e wx ⟨rfl, hb⟩)
        | (go_at_call 39; refine (HCO.out _ hb).mono ?_; clear hb; rintro e wx ⟨rfl, hb⟩)
        | (go_at_call 33; refine (HCT.out _ hb).mono ?_; rintro e wy ⟨A, c, rfl, hb2, hg⟩; clear hg hb)
        | (go_at_call 34; refine (HCN.out _ hb2).mono ?_; rintro e wz ⟨rfl, hb3⟩; have hb4 := hb2.trans (hb3.mono hb2.size))
        | (go_at_call 41; refine (HAW.out _ hb4).mono ?_; rintro e wr ⟨rfl, hb6⟩))
      all_goals
        go_ret
        exact ⟨ret_bool (by first | rfl | simp), hb6⟩

set_option maxRecDepth 100000 in
set_option maxHeartbeats 1000000 in
theorem clusterFits_walk (s : ByteArray) (hs : s.size ≤ maxLen) (most : Int) (h0 : -9223372036854775808 ≤ most) (h1 : most ≤ 9223372036854775807) (w : World) (hT : Tabs w) :
    Calls Tryd.prog 9 #[.string s, .int .i64 most] w fun e w' => e = .returned (.bool true) ∧ Below w.heap.size w w' := by
  obtain ⟨l, hl⟩ : ∃ l, l = s.data.toList.take 600 := ⟨_, rfl⟩
  have hll : l.length ≤ 600 := by rw [hl]; exact List.length_take_le _ _
  have hld : (⟨l.toArray⟩ : ByteArray).data.toList = l := rfl
  have hlz : (⟨l.toArray⟩ : ByteArray).size ≤ 10000 := by rw [size_of]; omega
  have hwf := cls_wf (rs_isR l)
  have hcl := cls_len l
  have hf1 := Con.of hT (fun w' hw => cfit_any ⟨l.toArray⟩ hlz most h0 h1 w' hw)
  have hrf := Con.of hT (fun w' hw => rfit_any3 ⟨l.toArray⟩ hlz most h0 h1 w')
  have hct : ∀ w', Below w.heap.size w w' → _ := fun w' hb => ccut_any ⟨l.toArray⟩ (by omega) w' (hT.below hb)
  rw [hld, fitR_eq most hwf] at hf1 hrf
  simp only at hct
  have haw := Con.of hT (fun w' hw => awake3_any w' hw)
  generalize cls (rs l) = C at hwf hcl hf1 hrf hct
  have hpre := fitC_pre most C 0
  have hFw : ∀ c ∈ fitC most 0 C, wf c := fun c hc => hwf c (hpre.subset hc)
  have hFle := fitC_le most C 0
  have hFn := fitC_next most C 0
  have hFl := hpre.length_le
  have hbd := sumC_bd (fitC most 0 C)
  have hfl := flat_len hFw
  have hrsF : cls (rs (eb (fitC most 0 C).flatten)) = fitC most 0 C := by rw [rs_eb (flat_isR hFw), cls_flat hFw]
  generalize fitC most 0 C = F at hpre hFw hFle hFn hFl hbd hfl hrsF hf1 hrf
  have hsz : (⟨(eb F.flatten).toArray⟩ : ByteArray).size ≤ 1000000 := by rw [size_of]; omega
  have hco := Con.of hT (fun w' hw => ccols_any ⟨(eb F.flatten).toArray⟩ hsz w' hw)
  have hcn : Con2 w 34 #[.string ⟨(eb F.flatten).toArray⟩] (.int .i64 (cls (rs (⟨(eb F.flatten).toArray⟩ : ByteArray).data.toList)).length) := fun w' hb => ccount_any ⟨(eb F.flatten).toArray⟩ hsz w' (hT.below hb)
  rw [show (⟨(eb F.flatten).toArray⟩ : ByteArray).data.toList = eb F.flatten from rfl, hrsF] at hco hcn
  have hnm : sumC F ≤ most ∨ sumC F = 0 := by
    rcases hFle with h | h
    · right; rw [h]; rfl
    · left; omega
  have hn0 := hbd.1
  have hn3 : sumC F ≤ 1200 := by have := hbd.2; omega
  have hC6 : C.length ≤ 600 := by omega
  generalize eb F.flatten = a at hf1 hrf hco hcn
  generalize sumC F = n at hf1 hrf hco hFn hnm hn0 hn3
  rcases Nat.lt_or_ge F.length C.length with hk | hk
  · have hw := hwf C[F.length] (List.getElem_mem hk)
    have hv : most < 0 + n + wc C[F.length] := hFn hk
    have hdl := wf_len hw
    have hdw : fw (rs (eb C[F.length])) = wc C[F.length] := by rw [rs_wf hw, fw_wf hw]
    have hcell : ∀ (w' : World) (base c : Nat) (A : Option Addr), OR w' base 9 A C.length c (sv (C.map eb)) → ∃ g, A = some ⟨g, 0, none⟩ ∧ g < w'.heap.size ∧ w'.cell? ⟨g, F.length, none⟩ = some (.string ⟨(eb C[F.length]).toArray⟩) := fun w' base c A h => by
      obtain ⟨g, hA, _, hc, hgl⟩ := sv_cell h hk
      exact ⟨g, hA, hgl, hc⟩
    generalize eb C[F.length] = d at hdl hdw hcell
    generalize wc C[F.length] = v at hv hdw
    have hds : (⟨d.toArray⟩ : ByteArray).size ≤ 1000000 := by rw [size_of]; omega
    have hwd : Con w 37 #[.string ⟨d.toArray⟩] (.int .i64 v) := by
      rw [← hdw]
      exact Con.of hT (fun w' hw' => cwidth_any ⟨d.toArray⟩ hds w' hw')
    refine fits_core s hs l a most n C.length F.length ⟨d.toArray⟩ v w hl h0 h1 hn0 hn3 hnm hFl hC6 hf1 hrf hco hcn ?_ (fun _ => hwd) (fun _ => by omega) haw
    intro w' hb
    refine (hct w' hb).mono ?_
    rintro e w'' ⟨A, c, he, hO, hb2⟩
    exact ⟨A, c, he, hb.trans (hb2.mono hb.size), fun _ => hcell w'' _ c A hO⟩
  · refine fits_core s hs l a most n C.length F.length ⟨#[]⟩ 0 w hl h0 h1 hn0 hn3 hnm hFl hC6 hf1 hrf hco hcn ?_ (fun h => absurd h (by omega)) (fun h => absurd h (by omega)) haw
    intro w' hb
    refine (hct w' hb).mono ?_
    rintro e w'' ⟨A, c, he, hO, hb2⟩
    exact ⟨A, c, he, hb.trans (hb2.mono hb.size), fun h => absurd h (by omega)⟩
end Go.Proofs.YtmgakdbcgdhpaaaDoor
