/-
  The laws ClusterJoins, ClusterCleans, ClusterFits, walked.
-/
import Derived.Test.YtmgakdbcgdhpaaaDoorClAwake
namespace Go.Proofs.YtmgakdbcgdhpaaaDoor
open Go.RowKit
set_option linter.unusedVariables false

/-- A call that gives x and turns nothing that lay in w0. -/
def Con (w0 : World) (f : Nat) (args : Array Value) (x : Value) : Prop := ∀ w', Below w0.heap.size w0 w' → Calls Tryd.prog f args w' fun e w'' => e = .returned x ∧ Below w0.heap.size w0 w''
theorem Con.of {w0 : World} {f : Nat} {args : Array Value} {x : Value} (hT : Tabs w0) (h : ∀ w', Tabs w' → Calls Tryd.prog f args w' fun e w'' => e = .returned x ∧ Below w'.heap.size w' w'') : Con w0 f args x := fun w' hb =>
  (h w' (hT.below hb)).mono fun e w'' ⟨he, hb2⟩ => ⟨he, hb.trans (hb2.mono hb.size)⟩

theorem isC_inv {l : List UInt8} (h : isC l = true) : ∃ c, wf c ∧ eb c = l := by
  unfold isC at h
  split at h
  · cases h
  · next c cs hc => exact ⟨c, cls_wf (rs_isR l) c (by rw [hc]; simp), by simpa using h⟩
theorem isC_wf {c : List Int} (h : wf c) : isC (eb c) = true := by
  unfold isC
  rw [rs_wf h, cls_one h]
  simp
theorem joinB_is (l : List UInt8) (r : Int) (h : (joinB l r).2 = true) : isC (joinB l r).1 = true := by
  unfold joinB at h ⊢
  split at h
  · next hc =>
    rw [if_pos hc]
    obtain ⟨h1, h2, h3⟩ := hc
    obtain ⟨c, hw, rfl⟩ := isC_inv h1
    have hm := mk_isR h2
    obtain ⟨b, ms, rfl, hb, hms, hl, hR⟩ := hw
    have hw2 : wf (b :: ms ++ [r]) := by
      refine ⟨b, ms ++ [r], rfl, hb, ?_, by rw [eb_snoc, List.length_append]; exact h3, ?_⟩
      · intro m hm'
        rcases List.mem_append.1 hm' with h | h
        · exact hms m h
        · simp at h; subst h; exact hm.2
      · intro x hx
        rcases List.mem_append.1 hx with h | h
        · exact hR x h
        · simp at h; subst h; exact hm.1
    have := isC_wf hw2
    rw [eb_snoc] at this
    exact this
  · cases h

set_option maxRecDepth 100000 in
set_option maxHeartbeats 2000000 in
theorem clusterJoins_walk (s : ByteArray) (hs : s.size ≤ maxLen) (r : Int) (w : World) (hT : Tabs w) :
    Calls Tryd.prog 10 #[.string s, .int .i32 r] w fun e w' => e = .returned (.bool true) ∧ Below w.heap.size w w' := by
  obtain ⟨l, hl⟩ : ∃ l, l = s.data.toList.take 600 := ⟨_, rfl⟩
  have hll : l.length ≤ 600 := by rw [hl]; exact List.length_take_le _ _
  have HL := Lib.hid hl
  have hj := Con.of hT (fun w' hw => cjoin_any l (by omega) r w' hw)
  have hrj := Con.of hT (fun w' hw => rjoin_any l (by omega) r w')
  have hjl : (joinB l r).1.length ≤ 700 := by
    unfold joinB
    split
    · next h => simp; have := h.2.2; omega
    · simp; omega
  have his := Con.of hT (fun w' hw => cis_any ⟨(joinB l r).1.toArray⟩ (by rw [size_of]; omega) w' hw)
  rw [show (⟨(joinB l r).1.toArray⟩ : ByteArray).data.toList = (joinB l r).1 from rfl] at his
  have haw := Con.of hT (fun w' hw => awake3_any w' hw)
  have hji := joinB_is l r
  generalize (joinB l r).1 = a at hj hrj his hji
  generalize (joinB l r).2 = b at hj hrj hji
  have HJ := Lib.hid hj
  have HRJ := Lib.hid hrj
  have HAW := Lib.hid haw
  clear hl hj hrj haw hjl
  cases b
  · clear his hji
    go_enter Tryd.func10, Tryd.ntmps10
    go_wp2_with (fail)
    refine (cut3_any s w hs).mono ?_
    rintro e w' ⟨rfl, rfl⟩
    rw [← HL.out]
    have hb := Below.refl w.heap.size w
    go_wp2_with (first
      | (go_at_call 48; refine (HJ.out _ hb).mono ?_; clear hb; rintro e wx ⟨rfl, hb⟩)
      | (go_at_call 49; refine (HRJ.out _ hb).mono ?_; clear hb; rintro e wx ⟨rfl, hb⟩)
      | (go_at_call 41; refine (HAW.out _ hb).mono ?_; clear hb; rintro e wx ⟨rfl, hb⟩))
    go_ret
    exact ⟨ret_bool (by first | rfl | simp), hb⟩
  · rw [hji rfl] at his
    have HIS := Lib.hid his
    clear his hji
    go_enter Tryd.func10, Tryd.ntmps10
    go_wp2_with (fail)
    refine (cut3_any s w hs).mono ?_
    rintro e w' ⟨rfl, rfl⟩
    rw [← HL.out]
    have hb := Below.refl w.heap.size w
    go_wp2_with (first
      | (go_at_call 48; refine (HJ.out _ hb).mono ?_; clear hb; rintro e wx ⟨rfl, hb⟩)
      | (go_at_call 49; refine (HRJ.out _ hb).mono ?_; clear hb; rintro e wx ⟨rfl, hb⟩)
      | (go_at_call 35; refine (HIS.out _ hb).mono ?_; clear hb; rintro e wx ⟨rfl, hb⟩)
      | (go_at_call 41; refine (HAW.out _ hb).mono ?_; clear hb; rintro e wx ⟨rfl, hb⟩))
    go_ret
    exact ⟨ret_bool (by first | rfl | simp), hb⟩

theorem cleanB_cleanB (l : List UInt8) : cleanB (cleanB l) = cleanB l := by
  have hw := cls_wf (rs_isR l)
  unfold cleanB
  rw [rs_eb (flat_isR hw), cls_flat hw]

set_option maxRecDepth 100000 in
set_option maxHeartbeats 2000000 in
theorem clusterCleans_walk (s : ByteArray) (hs : s.size ≤ maxLen) (w : World) (hT : Tabs w) :
    Calls Tryd.prog 8 #[.string s] w fun e w' => e = .returned (.bool true) ∧ Below w.heap.size w w' := by
  obtain ⟨l, hl⟩ : ∃ l, l = s.data.toList.take 600 := ⟨_, rfl⟩
  have hll : l.length ≤ 600 := by rw [hl]; exact List.length_take_le _ _
  have HL := Lib.hid hl
  have hld : (⟨l.toArray⟩ : ByteArray).data.toList = l := rfl
  have hlz : (⟨l.toArray⟩ : ByteArray).size ≤ 10000 := by rw [size_of]; omega
  have hwf := cls_wf (rs_isR l)
  have hcl := cls_len l
  have hfl := flat_len hwf
  have hcc := cleanB_cleanB l
  have hc1 := Con.of hT (fun w' hw => cclean_any ⟨l.toArray⟩ (by omega) w' hw)
  have hrc := Con.of hT (fun w' hw => rclean_any ⟨l.toArray⟩ hlz w')
  have hf1 := Con.of hT (fun w' hw => cflat_any ⟨l.toArray⟩ hlz w' hw)
  have hrf := Con.of hT (fun w' hw => rflat_any ⟨l.toArray⟩ hlz w')
  have hct : ∀ w', Below w.heap.size w w' → _ := fun w' hb => ccut_any ⟨l.toArray⟩ (by omega) w' (hT.below hb)
  rw [hld] at hc1 hrc hf1 hrf
  simp only at hct
  have haw := Con.of hT (fun w' hw => awake3_any w' hw)
  have hbl : (cleanB l).length ≤ 40000 := by unfold cleanB; omega
  have hc2 := Con.of hT (fun w' hw => cclean_any ⟨(cleanB l).toArray⟩ (by rw [size_of]; omega) w' hw)
  rw [show (⟨(cleanB l).toArray⟩ : ByteArray).data.toList = cleanB l from rfl, hcc] at hc2
  have hbe : eb (cls (rs l)).flatten = cleanB l := rfl
  generalize cleanB l = b at hc1 hrc hc2 hbl hbe
  generalize flatB l = fl at hf1 hrf
  generalize cls (rs l) = C at hwf hcl hct hbe
  have hCl : C.length ≤ 600 := by omega
  have HC1 := Lib.hid hc1
  have HRC := Lib.hid hrc
  have HC2 := Lib.hid hc2
  have HF1 := Lib.hid hf1
  have HRF := Lib.hid hrf
  have HCT := Lib.hid hct
  have HAW := Lib.hid haw
  have HWF := Lib.hid hwf
  have HBE := Lib.hid hbe
  clear hl hc1 hrc hc2 hf1 hrf hct haw hwf hbe hcc hld hlz hfl hcl hbl
  go_enter Tryd.func8, Tryd.ntmps8
  go_wp2_with (fail)
  refine (cut3_any s w hs).mono ?_
  rintro e w' ⟨rfl, rfl⟩
  rw [← HL.out]
  have hb := Below.refl w.heap.size w
  go_wp2_with (fail)
  refine (HC1.out _ hb).mono ?_
  clear hb
  rintro e w1 ⟨rfl, hb⟩
  go_wp2_with (fail)
  refine (HCT.out _ hb).mono ?_
  rintro e w2 ⟨A, c, rfl, hO, hb2⟩
  have hbx := hb.trans (hb2.mono hb.size)
  have HO := Lib.hid hO
  clear hO hb hb2
  go_wp2
  go_loop [4, 14] (fun v4 v14 => ∃ k : Nat, k ≤ C.length ∧ v14 = .int .i64 k ∧ v4 = .string ⟨(eb (C.take k).flatten).toArray⟩) (fun _ v14 => C.length - (intOf v14).toNat)
  case atStart => exact ⟨0, by omega, rfl, rfl⟩
  case round =>
    obtain ⟨k, hk, rfl, rfl⟩ := hrel
    by_cases hlt : k < C.length
    · have hlt' : (k : Int) < (C.length : Int) := by omega
      obtain ⟨g, rfl, _, hc, hgl⟩ := sv_cell HO.out hlt
      have hft := flat_take hlt
      have hdl := wf_len (HWF.out C[k] (List.getElem_mem hlt))
      have hpl := flat_len (cs := C.take k) (fun c hc => HWF.out c (List.mem_of_mem_take hc))
      have hkl : (C.take k).length ≤ k := List.length_take_le _ _
      have hpl2 : (eb (C.take k).flatten).length ≤ 640000 := by omega
      clear hpl hkl
      generalize eb (C.take k).flatten = p at hft hpl2 ⊢
      generalize eb C[k] = d at hft hc hdl
      have hsa := str_add p d
      have HSA := Lib.hid hsa
      have HFT := Lib.hid hft
      clear hft hsa
      go_wp2
      go_round
      case rel => exact ⟨k + 1, by omega, by go_num, by rw [HFT.out, HSA.out]⟩
      case measure => simp [intOf]; omega
    · have hge : ¬ (k : Int) < (C.length : Int) := by omega
      rw [show C.take k = C from List.take_of_length_le (by omega), HBE.out]
      clear hlt
      go_wp2_with (fail)
      refine (HRC.out _ hbx).mono ?_
      rintro e w3 ⟨rfl, hb3⟩
      go_wp2_with (first
        | (go_at_call 44; refine (HF1.out _ hb3).mono ?_; rintro e w4 ⟨rfl, hb4⟩)
        | (go_at_call 45; refine (HRF.out _ hb4).mono ?_; rintro e w5 ⟨rfl, hb5⟩)
        | (go_at_call 42; refine (HC2.out _ hb5).mono ?_; rintro e w6 ⟨rfl, hb6⟩)
        | (go_at_call 41; refine (HAW.out _ hb6).mono ?_; rintro e w7 ⟨rfl, hb7⟩))
      go_ret
      exact ⟨ret_bool (by first | rfl | simp), hb7⟩
end Go.Proofs.YtmgakdbcgdhpaaaDoor
