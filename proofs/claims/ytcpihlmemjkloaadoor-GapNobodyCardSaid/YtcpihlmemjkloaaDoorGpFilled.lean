/-
  Walk: the laws' buffer (filled).
-/
import Derived.Test.YtcpihlmemjkloaaDoorGpAwake
namespace Go.Proofs.YtcpihlmemjkloaaDoor
open Go.RowKit
set_option linter.unusedVariables false
set_option linter.unusedSimpArgs false

theorem gisC_wf {c : List Int} (h : wf c) : isC (eb c) = true := by
  unfold isC
  rw [rs_wf h, cls_one h]
  simp
/-- the clusters of the text that the laws look at -/
def cutL (s : ByteArray) : List (List UInt8) := (cls (rs (s.data.toList.take 200))).map eb
theorem cutL_is (s : ByteArray) : ∀ c ∈ cutL s, isC c = true := fun c hc => by
  obtain ⟨d, hd, rfl⟩ := List.mem_map.1 hc
  exact gisC_wf (cls_wf (rs_isR _) d hd)
theorem cutL_len (s : ByteArray) : (cutL s).length ≤ 200 := by
  unfold cutL
  rw [List.length_map]
  have := cls_len (s.data.toList.take 200)
  rw [List.length_take] at this
  omega
theorem gex_take (s : ByteArray) (k : Nat) : s.extract 0 k = ⟨(s.data.toList.take k).toArray⟩ := by
  apply ByteArray.ext
  apply Array.ext'
  rw [Lib.extract_data]
  simp
/-- what filled hands back -/
def FilP (w : World) (s : ByteArray) (a : Int) (e : Ending) (w' : World) : Prop :=
  ∃ g A n C f t, e = .returned (.pointer (some ⟨g, 0, none⟩)) ∧ GpAt w' w.heap.size g A n C 300 f t ((cutL s).take (clampN a (cutL s).length)) ((cutL s).drop (clampN a (cutL s).length)) ∧ Below w.heap.size w w'
set_option maxRecDepth 100000 in
set_option maxHeartbeats 4000000 in
theorem filled_any (s : ByteArray) (hs : s.size ≤ maxLen) (a : Int) (w : World) (hT : Tabs w) :
    Calls Tryd.prog 7 #[.string s, .int .i64 a] w (FilP w s a) := by
  unfold maxLen at hs
  have hll := cutL_len s
  have his := cutL_is s
  have HT := Lib.hid hT
  unfold FilP
  by_cases h2 : s.size ≤ 200
  · have h2i : ¬ ((s.size : Int) > 200) := by omega
    have hcut : ∀ w1, Calls Tryd.prog 17 #[.string s] w1 fun e w' => ∃ A c, e = .returned (.slice A (cutL s).length c) ∧ OR w' w1.heap.size 9 A (cutL s).length c (sv (cutL s)) ∧ Below w1.heap.size w1 w' := fun w1 => by
      have h := rcut_any s (by omega) w1
      unfold cutL
      rw [List.take_of_length_le (by simpa using h2), List.length_map]
      exact h
    generalize cutL s = L at *
    obtain ⟨m, hm⟩ : ∃ m, m = L.length := ⟨_, rfl⟩
    rw [← hm] at hcut hll
    have CUT := Lib.hid hcut
    have HM := Lib.hid hm
    have HIS := Lib.hid his
    clear hcut hm his hT
    go_enter Tryd.func7, Tryd.ntmps7
    go_wp2_with (fail)
    refine (gnew_ok 300 (by omega) (by omega) w).mono ?_
    rintro e w1 ⟨g, rfl, hg1, hb1⟩
    have HG1 := Lib.hid hg1
    have HB1 := Lib.hid hb1
    clear hg1 hb1
    go_wp2_with (fail)
    refine (CUT.out w1).mono ?_
    rintro e w2 ⟨A2, c2, rfl, ho2, hb2⟩
    have HG2 := Lib.hid (HG1.out.below hb2)
    have HB2 := Lib.hid (HB1.out.trans (hb2.mono HB1.out.size))
    have hgl : g < w1.heap.size := HG1.out.head.lt
    have hins := ginsert_ok HG2.out (HT.out.below HB2.out) L A2 m c2 HM.out (by omega) ho2.sl (fun b off e => by have := (ho2.blk_lt b (by rw [e]; rfl)).1; omega) (fun c hc => by have := isC_len (HIS.out c hc); omega) HIS.out (by have e0 : ln ([] : List (List UInt8)) [] = 0 := rfl; rw [e0]; omega)
    have HINS := Lib.hid hins
    have hA2 : ∀ k, GpOwn g none k → w.heap.size ≤ k := fun k hk => (HG2.out.own_lt k hk).1
    have HA2 := Lib.hid hA2
    clear ho2 hb2 hgl hins hA2
    go_wp2_with (fail)
    refine HINS.out.mono ?_
    rintro e w3 ⟨rfl, A3, n3, C3, t3, hg3, hc3, hA3⟩
    have HG3 : Hid (GpAt w3 w.heap.size g A3 n3 C3 300 L.length t3 L []) := Lib.hid (by have := hg3; rw [List.nil_append] at this; exact this)
    have HB3 := Lib.hid (HB2.out.trans (hc3.below HB2.out.size HA2.out))
    clear hg3 hc3 hA3
    go_wp2_with (fail)
    refine (gmove_any HG3.out a).mono ?_
    rintro e w4 ⟨rfl, ⟨f4, t4, hg4⟩, hc4⟩
    have HG4 := Lib.hid hg4
    have HB4 := Lib.hid (HB3.out.trans (hc4.below HB3.out.size (fun k hk => (HG3.out.own_lt k hk).1)))
    clear hg4 hc4
    go_wp2_with (fail)
    go_ret
    have h := HG4.out
    rw [List.append_nil, show ln L [] = L.length from rfl] at h
    exact ⟨g, A3, n3, C3, f4, t4, rfl, h, HB4.out⟩
  · have h2i : ((s.size : Int) > 200) := by omega
    have hcut : ∀ w1, Calls Tryd.prog 17 #[.string (s.extract 0 200)] w1 fun e w' => ∃ A c, e = .returned (.slice A (cutL s).length c) ∧ OR w' w1.heap.size 9 A (cutL s).length c (sv (cutL s)) ∧ Below w1.heap.size w1 w' := fun w1 => by
      have h := rcut_any ⟨(s.data.toList.take 200).toArray⟩ (by rw [size_of, List.length_take]; omega) w1
      unfold cutL
      rw [gex_take, List.length_map]
      exact h
    generalize cutL s = L at *
    obtain ⟨m, hm⟩ : ∃ m, m = L.length := ⟨_, rfl⟩
    rw [← hm] at hcut hll
    have CUT := Lib.hid hcut
    have HM := Lib.hid hm
    have HIS := Lib.hid his
    clear hcut hm his hT
    go_enter Tryd.func7, Tryd.ntmps7
    go_wp2_with (fail)
    refine (gnew_ok 300 (by omega) (by omega) w).mono ?_
    rintro e w1 ⟨g, rfl, hg1, hb1⟩
    have HG1 := Lib.hid hg1
    have HB1 := Lib.hid hb1
    clear hg1 hb1
    go_wp2_with (fail)
    refine (CUT.out w1).mono ?_
    rintro e w2 ⟨A2, c2, rfl, ho2, hb2⟩
    have HG2 := Lib.hid (HG1.out.below hb2)
    have HB2 := Lib.hid (HB1.out.trans (hb2.mono HB1.out.size))
    have hgl : g < w1.heap.size := HG1.out.head.lt
    have hins := ginsert_ok HG2.out (HT.out.below HB2.out) L A2 m c2 HM.out (by omega) ho2.sl (fun b off e => by have := (ho2.blk_lt b (by rw [e]; rfl)).1; omega) (fun c hc => by have := isC_len (HIS.out c hc); omega) HIS.out (by have e0 : ln ([] : List (List UInt8)) [] = 0 := rfl; rw [e0]; omega)
    have HINS := Lib.hid hins
    have hA2 : ∀ k, GpOwn g none k → w.heap.size ≤ k := fun k hk => (HG2.out.own_lt k hk).1
    have HA2 := Lib.hid hA2
    clear ho2 hb2 hgl hins hA2
    go_wp2_with (fail)
    refine HINS.out.mono ?_
    rintro e w3 ⟨rfl, A3, n3, C3, t3, hg3, hc3, hA3⟩
    have HG3 : Hid (GpAt w3 w.heap.size g A3 n3 C3 300 L.length t3 L []) := Lib.hid (by have := hg3; rw [List.nil_append] at this; exact this)
    have HB3 := Lib.hid (HB2.out.trans (hc3.below HB2.out.size HA2.out))
    clear hg3 hc3 hA3
    go_wp2_with (fail)
    refine (gmove_any HG3.out a).mono ?_
    rintro e w4 ⟨rfl, ⟨f4, t4, hg4⟩, hc4⟩
    have HG4 := Lib.hid hg4
    have HB4 := Lib.hid (HB3.out.trans (hc4.below HB3.out.size (fun k hk => (HG3.out.own_lt k hk).1)))
    clear hg4 hc4
    go_wp2_with (fail)
    go_ret
    have h := HG4.out
    rw [List.append_nil, show ln L [] = L.length from rfl] at h
    exact ⟨g, A3, n3, C3, f4, t4, rfl, h, HB4.out⟩
end Go.Proofs.YtcpihlmemjkloaaDoor
