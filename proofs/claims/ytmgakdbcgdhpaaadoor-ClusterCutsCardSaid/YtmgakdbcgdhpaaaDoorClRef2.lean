/-
  Walks: the reference's Clean, Flat, Width, Columns, Is, Join, Fit, SameAll.
-/
import Derived.Test.YtmgakdbcgdhpaaaDoorClRef
import Derived.Test.YtmgakdbcgdhpaaaDoorClFlat
import Derived.Deep.RegionHeld3
import Derived.Deep.QuietTactic
import Derived.BigQuiet
import Derived.WalkSmall
namespace Go.Proofs.YtmgakdbcgdhpaaaDoor
open Go.RowKit
set_option linter.unusedVariables false

theorem flat_take {cs : List (List Int)} {k : Nat} (h : k < cs.length) : eb (cs.take (k + 1)).flatten = eb (cs.take k).flatten ++ eb cs[k] := by
  rw [List.take_succ_eq_append_getElem h, List.flatten_append, eb_append]; simp
theorem wf_len {c : List Int} (h : wf c) : (eb c).length ≤ 64 := by obtain ⟨_, _, _, _, _, hl, _⟩ := h; exact hl
theorem flat_len {cs : List (List Int)} (h : ∀ c ∈ cs, wf c) : (eb cs.flatten).length ≤ 64 * cs.length := by
  induction cs with
  | nil => simp [eb]
  | cons c cs ih =>
    have h1 := ih (fun d hd => h d (by simp [hd]))
    have h2 := wf_len (h c (by simp))
    rw [List.flatten_cons, eb_append, List.length_append, List.length_cons]
    omega
theorem cls_len (l : List UInt8) : (cls (rs l)).length ≤ l.length := by
  have h1 := run_count (rs l)
  have h2 : (rs l).length ≤ l.length := by unfold rs; rw [List.length_map]; exact rnsOf_le _
  have h3 : cls (rs l) = fin (run (rs l)) := rfl
  rw [h3]; omega
theorem sumC_take {cs : List (List Int)} {k : Nat} (h : k < cs.length) : sumC (cs.take (k + 1)) = sumC (cs.take k) + wc cs[k] := by
  rw [List.take_succ_eq_append_getElem h, sumC_snoc]
theorem sv_cell {w : World} {base n c : Nat} {A : Option Addr} {C : List (List Int)} (h : OR w base 9 A n c (sv (C.map eb))) {k : Nat} (hk : k < C.length) : ∃ g, A = some ⟨g, 0, none⟩ ∧ base ≤ g ∧ w.cell? ⟨g, k, none⟩ = some (.string ⟨(eb C[k]).toArray⟩) ∧ g < w.heap.size := by
  obtain ⟨g, hA, hb, hc, _⟩ := h.cell (j := k) (u := .string ⟨(eb C[k]).toArray⟩) (by rw [sv_get (by simpa using hk)]; simp)
  exact ⟨g, hA, hb, hc, (h.blk_lt g (by rw [hA]; rfl)).2⟩

set_option maxRecDepth 100000 in
set_option maxHeartbeats 2000000 in
theorem rclean_any (s : ByteArray) (hs : s.size ≤ 10000) (w : World) :
    Calls Tryd.prog 43 #[.string s] w fun e w' => e = .returned (.string ⟨(cleanB s.data.toList).toArray⟩) ∧ Below w.heap.size w w' := by
  unfold cleanB
  have hcut := rcut_any s hs w
  have hwf := cls_wf (rs_isR s.data.toList)
  have hlc : (cls (rs s.data.toList)).length ≤ 10000 := by have := cls_len s.data.toList; have h3 : s.data.toList.length = s.size := rfl; omega
  generalize cls (rs s.data.toList) = C at hcut hwf hlc ⊢
  generalize hE : eb C.flatten = E
  have HE := Lib.hid hE
  have HCUT := Lib.hid hcut
  have HWF := Lib.hid hwf
  clear hE hcut hwf
  go_enter Tryd.func43, Tryd.ntmps43
  go_wp2_with (fail)
  refine HCUT.out.mono ?_
  rintro e w1 ⟨A, c, rfl, hO, hb1⟩
  have HO := Lib.hid hO
  clear hO
  go_wp2
  go_loop [3, 5] (fun v3 v5 => ∃ k : Nat, k ≤ C.length ∧ v5 = .int .i64 k ∧ v3 = .string ⟨(eb (C.take k).flatten).toArray⟩) (fun _ v5 => C.length - (intOf v5).toNat)
  case atStart => exact ⟨0, by omega, rfl, rfl⟩
  case round =>
    obtain ⟨k, hk, rfl, rfl⟩ := hrel
    by_cases hlt : k < C.length
    · have hlt' : (k : Int) < (C.length : Int) := by omega
      obtain ⟨g, rfl, _, hc, hgl⟩ := sv_cell HO.out hlt
      have hft := flat_take hlt
      have hdl := wf_len (HWF.out C[k] (List.getElem_mem hlt))
      have hpl := flat_len (cs := C.take k) (fun c hc => HWF.out c (List.mem_of_mem_take hc))
      have hkl : (C.take k).length ≤ k := List.length_take_le _ _
      have hpl2 : (eb (C.take k).flatten).length ≤ 640000 := by omega
      clear hpl hkl
      generalize eb (C.take k).flatten = p at hft hpl2 ⊢
      generalize eb C[k] = d at hft hc hdl
      have hsa := str_add p d
      have HSA := Lib.hid hsa
      have HFT := Lib.hid hft
      clear hft hsa
      go_wp2
      go_round
      case rel => exact ⟨k + 1, by omega, by go_num, by rw [HFT.out, HSA.out]⟩
      case measure => simp [intOf]; omega
    · have hge : ¬ (k : Int) < (C.length : Int) := by omega
      rw [show C.take k = C from List.take_of_length_le (by omega), HE.out]
      go_wp2
      go_ret
      exact ⟨rfl, hb1⟩

set_option maxRecDepth 100000 in
set_option maxHeartbeats 2000000 in
theorem rflat_any (s : ByteArray) (hs : s.size ≤ 10000) (w : World) :
    Calls Tryd.prog 45 #[.string s] w fun e w' => e = .returned (.string ⟨(flatB s.data.toList).toArray⟩) ∧ Below w.heap.size w w' := by
  obtain ⟨c, w1, hcv, hc1, hc2, hw, hb1, hz1⟩ := run_bytes_wr w s (by simp only [maxLen]; omega)
  generalize hL : s.data.toList = L at hw
  have hLs : L.length = s.size := by rw [← hL]; rfl
  have HL := Lib.hid hL
  have HLS := Lib.hid hLs
  have HW := Lib.hid hw
  clear hL hLs hw hc1 hc2
  go_enter Tryd.func45, Tryd.ntmps45
  go_wp2
  clear hcv
  go_loopw [4] (fun i wr => ∃ k : Nat, k ≤ s.size ∧ i = .int .i64 k ∧ Wr wr w.heap.size (mix L k) ∧ Below w.heap.size w wr ∧ w1.heap.size ≤ wr.heap.size) (fun i _ => s.size - (intOf i).toNat)
  case atStart => exact ⟨0, by omega, rfl, by rw [mix_zero]; exact HW.out, hb1, Nat.le_refl _⟩
  case round =>
    obtain ⟨k, hk, rfl, hwr, hbw, hzz⟩ := hrel
    have HWR := Lib.hid hwr
    by_cases hlt : k < s.size
    · have hkl : k < L.length := by have := HLS.out; omega
      have hlt' : (k : Int) < (s.size : Int) := by omega
      have hcell := hwr.1 k (.int .u8 L[k].toNat) (by simp only [bv, List.getElem?_map, mix_at L k hkl]; rfl)
      have hfz := hwr.2 k (by rw [mix_length]; exact hkl)
      have hno := fl1_no L[k]
      have hyes := fl1_yes L[k]
      have hkeep := mix_keep L k hkl
      have hsucc := mix_succ L k hkl
      have hset := hwr.set k (by rw [mix_length]; exact hkl) 32
      generalize L[k] = b at hcell hno hyes hkeep hsucc
      have HNO := Lib.hid hno
      have HYES := Lib.hid hyes
      have HKE := Lib.hid hkeep
      have HSU := Lib.hid hsucc
      have HSE := Lib.hid hset
      clear hno hyes hkeep hsucc hset hwr
      by_cases h9 : (b.toNat : Int) = 9
      · have HS2 : Hid (mix L (k + 1) = (mix L k).set k 32) := by rw [HSU.out, HYES.out (.inl h9)]; simp [Hid]
        rw [h9] at hcell
        clear h9
        go_wp2
        go_roundw
        case rel => exact ⟨k + 1, by omega, by go_num, by rw [HS2.out]; exact HSE.out, hbw.setCell (p := ⟨w.heap.size, k, none⟩) (Nat.le_refl _) _, by have := (KeepsWalks.setCell wr ⟨w.heap.size, k, none⟩ (.int .u8 32)).size; omega⟩
        case measure => simp [intOf]; omega
      · have hd9 : ((b.toNat : Int) == 9) = false := by simp; omega
        by_cases h10 : (b.toNat : Int) = 10
        · have HS2 : Hid (mix L (k + 1) = (mix L k).set k 32) := by rw [HSU.out, HYES.out (.inr (.inl h10))]; simp [Hid]
          rw [h10] at hcell
          clear h10 h9 hd9
          go_wp2
          go_roundw
          case rel => exact ⟨k + 1, by omega, by go_num, by rw [HS2.out]; exact HSE.out, hbw.setCell (p := ⟨w.heap.size, k, none⟩) (Nat.le_refl _) _, by have := (KeepsWalks.setCell wr ⟨w.heap.size, k, none⟩ (.int .u8 32)).size; omega⟩
          case measure => simp [intOf]; omega
        · have hd10 : ((b.toNat : Int) == 10) = false := by simp; omega
          by_cases h13 : (b.toNat : Int) = 13
          · have HS2 : Hid (mix L (k + 1) = (mix L k).set k 32) := by rw [HSU.out, HYES.out (.inr (.inr h13))]; simp [Hid]
            rw [h13] at hcell
            clear h13 h10 h9 hd9 hd10
            go_wp2
            go_roundw
            case rel => exact ⟨k + 1, by omega, by go_num, by rw [HS2.out]; exact HSE.out, hbw.setCell (p := ⟨w.heap.size, k, none⟩) (Nat.le_refl _) _, by have := (KeepsWalks.setCell wr ⟨w.heap.size, k, none⟩ (.int .u8 32)).size; omega⟩
            case measure => simp [intOf]; omega
          · have hd13 : ((b.toNat : Int) == 13) = false := by simp; omega
            have HS2 : Hid (mix L (k + 1) = mix L k) := HKE.out (HNO.out h9 h10 h13)
            clear h13 h10 h9
            go_wp2
            go_roundw
            case rel => exact ⟨k + 1, by omega, by go_num, by rw [HS2.out]; exact HWR.out, hbw, hzz⟩
            case measure => simp [intOf]; omega
    · have hge : ¬ (k : Int) < (s.size : Int) := by omega
      rw [mix_end L k (by have := HLS.out; omega)] at hwr
      have hcv2 := run_str_sl wr (w.heap.size + 1) (some ⟨w.heap.size, 0, none⟩) s.size c (L.map fl1) hwr.sl (by have := HLS.out; simp; omega)
      have hsz2 : (⟨(L.map fl1).toArray⟩ : ByteArray).size ≤ 10000 := by rw [size_mk]; have := HLS.out; simp; omega
      clear hwr HWR
      go_wp2_with (go_at_call 43; refine (rclean_any _ hsz2 _).mono ?_; rintro e w2 ⟨rfl, hb2⟩)
      go_ret
      exact ⟨rfl, hbw.trans (hb2.mono hbw.size)⟩

theorem head_rns {c : List Int} (h : wf c) : ∃ x R, rnsOf (eb c) = x :: R ∧ ofI x.2 = wc c := by
  have h1 := rs_wf h
  obtain ⟨b, ms, rfl, _⟩ := h
  unfold rs at h1
  cases hr : rnsOf (eb (b :: ms)) with
  | nil => rw [hr] at h1; cases h1
  | cons x R =>
    rw [hr] at h1
    simp only [List.map_cons] at h1
    injection h1 with h1 _
    exact ⟨x, R, rfl, by rw [h1]; rfl⟩

set_option maxRecDepth 100000 in
set_option maxHeartbeats 2000000 in
theorem rwidth_any (s : ByteArray) (hs : s.size ≤ 10000) (w : World) :
    Calls Tryd.prog 38 #[.string s] w fun e w' => e = .returned (.int .i64 (fw (rs s.data.toList))) ∧ Below w.heap.size w w' := by
  rw [← fw_cls (rs_isR s.data.toList)]
  have hcut := rcut_any s hs w
  have hwf := cls_wf (rs_isR s.data.toList)
  generalize cls (rs s.data.toList) = C at hcut hwf ⊢
  have HCUT := Lib.hid hcut
  have HWF := Lib.hid hwf
  clear hcut hwf
  cases C with
  | nil =>
    have h0 : wc (([] : List (List Int)).headD []) = 0 := wc_nil
    rw [h0]
    clear h0
    go_enter Tryd.func38, Tryd.ntmps38
    go_wp2_with (fail)
    refine HCUT.out.mono ?_
    rintro e w1 ⟨A, c, rfl, hO, hb1⟩
    clear hO
    go_wp2
    go_ret
    exact ⟨rfl, hb1⟩
  | cons d C =>
    have hd := HWF.out d (by simp)
    obtain ⟨x, R, hR, hx⟩ := head_rns hd
    have hdl : (eb d).length ≤ 64 := by obtain ⟨_, _, _, _, _, hl, _⟩ := hd; exact hl
    show Calls _ _ _ _ fun e w' => e = .returned (.int .i64 (wc d)) ∧ _
    rw [← hx]
    clear hx hd
    generalize hE : eb d = E at hR hdl
    have HE := Lib.hid hE
    have HR := Lib.hid hR
    have hsE := size_of E
    have HSE := Lib.hid hsE
    clear hE hR hsE
    generalize hC : (d :: C).length = m at HCUT
    have hm : m = C.length + 1 := by rw [← hC]; rfl
    have hm0 : ((m : Int) == 0) = false := by simp; omega
    have hm1 : 0 < m := by omega
    have hm2 : (0 : Int) < m := by omega
    clear hm hC
    go_enter Tryd.func38, Tryd.ntmps38
    go_wp2_with (fail)
    refine HCUT.out.mono ?_
    rintro e w1 ⟨A, c, rfl, hO, hb1⟩
    obtain ⟨g, rfl, _, hc, hgl⟩ := sv_cell hO (k := 0) (by simp)
    simp only [List.getElem_cons_zero, HE.out] at hc
    obtain ⟨cp, fr, hcv, hge, hmx⟩ := run_bytes_str w1 ⟨E.toArray⟩
    have hmx' := hmx (by rw [HSE.out]; simp only [maxLen]; omega)
    have hSl := sl_bytesRow w1.drew ⟨E.toArray⟩ cp 5 fr
    have HGE := Lib.hid hge
    have HMX := Lib.hid hmx'
    have HSl := Lib.hid hSl
    clear hO hge hmx hmx' hSl
    go_wp2_with (fail)
    refine (runes_any _ _ cp E _ HSE.out (by omega) HGE.out HMX.out (by have := HSl.out.more (B' := (w1.drew.alloc (.cells (bytesRow ⟨E.toArray⟩ cp) 5 fr)).heap.size) (by simp); exact this)).mono ?_
    rintro e w2 ⟨A1, c1, A2, c2, rfl, h1, h2, hb2⟩
    rw [HR.out] at h1 ⊢
    have hb3 : Below w.heap.size w w2 := (hb1.drew.alloc hb1.size _).trans (hb2.mono (by have := hb1.size; simp; omega))
    obtain ⟨g1, rfl, _, hc1, _⟩ := h1.cell (j := 0) (u := .int .i32 x.2) rfl
    have hl1 : 0 < (x :: R).length := by simp
    generalize (x :: R).length = q at hl1 ⊢
    generalize (rnsOf E).length = q2
    have hl2 : (0 : Int) < q := by omega
    clear h1 h2 hcv
    go_wp2_with (go_at_call 12; refine (rof_any _ _).mono ?_; rintro e w3 ⟨rfl, hb4⟩)
    go_ret
    exact ⟨rfl, hb3.trans (hb4.mono hb3.size)⟩

set_option maxRecDepth 100000 in
set_option maxHeartbeats 2000000 in
theorem rcols_any (s : ByteArray) (hs : s.size ≤ 10000) (w : World) :
    Calls Tryd.prog 40 #[.string s] w fun e w' => e = .returned (.int .i64 (sumC (cls (rs s.data.toList)))) ∧ Below w.heap.size w w' := by
  have hcut := rcut_any s hs w
  have hwf := cls_wf (rs_isR s.data.toList)
  have hlc : (cls (rs s.data.toList)).length ≤ 10000 := by
    have h1 := run_count (rs s.data.toList)
    have h2 : (rs s.data.toList).length ≤ s.size := by unfold rs; rw [List.length_map]; exact rnsOf_le _
    have h3 : cls (rs s.data.toList) = fin (run (rs s.data.toList)) := rfl
    rw [h3]; omega
  generalize cls (rs s.data.toList) = C at hcut hwf hlc ⊢
  have HCUT := Lib.hid hcut
  have HWF := Lib.hid hwf
  clear hcut hwf
  go_enter Tryd.func40, Tryd.ntmps40
  go_wp2_with (fail)
  refine HCUT.out.mono ?_
  rintro e w1 ⟨A, c, rfl, hO, hb1⟩
  have HO := Lib.hid hO
  clear hO
  go_wp2
  go_loopw [4, 5] (fun v4 v5 wr => ∃ k : Nat, k ≤ C.length ∧ v5 = .int .i64 k ∧ v4 = .int .i64 (sumC (C.take k)) ∧ Below w1.heap.size w1 wr) (fun _ v5 _ => C.length - (intOf v5).toNat)
  case atStart => exact ⟨0, by omega, rfl, rfl, Below.refl _ _⟩
  case round =>
    obtain ⟨k, hk, rfl, rfl, hbw⟩ := hrel
    by_cases hlt : k < C.length
    · have hlt' : (k : Int) < (C.length : Int) := by omega
      obtain ⟨g, rfl, _, hc, hgl⟩ := sv_cell HO.out hlt
      have hc' := (hbw.cell (p := ⟨g, k, none⟩) hgl).trans hc
      have hft := sumC_take hlt
      have hwk := HWF.out C[k] (List.getElem_mem hlt)
      have hfk : fw (rs (eb C[k])) = wc C[k] := by rw [rs_wf hwk, fw_wf hwk]
      have hkl : (eb C[k]).length ≤ 64 := by obtain ⟨_, _, _, _, _, hl, _⟩ := hwk; exact hl
      have hw2 := wc_01 C[k]
      have hbd := sumC_bd (C.take k)
      have hlk : (C.take k).length ≤ k := List.length_take_le _ _
      generalize sumC (C.take k) = p at hft hbd ⊢
      generalize wc C[k] = v at hft hfk hw2
      generalize eb C[k] = d at hc' hc hfk hkl
      have hd1 : (⟨d.toArray⟩ : ByteArray).data.toList = d := rfl
      have hd2 : (⟨d.toArray⟩ : ByteArray).size ≤ 10000 := by rw [size_of]; omega
      have HFK := Lib.hid hfk
      have HFT := Lib.hid hft
      have HD := Lib.hid hd1
      clear hft hfk hc hwk hd1
      go_wp2_with (go_at_call 38; refine (rwidth_any _ hd2 _).mono ?_; rintro e w2 ⟨rfl, hb2⟩; rw [HD.out, HFK.out])
      go_roundw
      case rel => exact ⟨k + 1, by omega, by go_num, by rw [HFT.out], hbw.trans (hb2.mono hbw.size)⟩
      case measure => simp [intOf]; omega
    · have hge : ¬ (k : Int) < (C.length : Int) := by omega
      rw [show C.take k = C from List.take_of_length_le (by omega)]
      go_wp2
      go_ret
      exact ⟨rfl, hb1.trans (hbw.mono hb1.size)⟩

theorem isC_two {l : List UInt8} {c d : List Int} {C : List (List Int)} (h : cls (rs l) = c :: d :: C) : isC l = false := by
  unfold isC
  rw [h]
  simp only
  have hw := cls_wf (rs_isR l) c (by rw [h]; simp)
  cases he : (eb c == l) with
  | false => rfl
  | true =>
    have he' : eb c = l := by simpa using he
    have h1 := cls_one hw
    rw [← rs_wf hw, he', h] at h1
    simp at h1

set_option maxRecDepth 100000 in
set_option maxHeartbeats 2000000 in
theorem ris_any (l : List UInt8) (hs : l.length ≤ 10000) (w : World) :
    Calls Tryd.prog 36 #[.string ⟨l.toArray⟩] w fun e w' => e = .returned (.bool (isC l)) ∧ Below w.heap.size w w' := by
  have hcut := rcut_any ⟨l.toArray⟩ (by rw [size_of]; exact hs) w
  rw [show (⟨l.toArray⟩ : ByteArray).data.toList = l from rfl] at hcut
  have htwo := fun c d C => isC_two (l := l) (c := c) (d := d) (C := C)
  have hone : ∀ c, cls (rs l) = [c] → isC l = (eb c == l) := fun c hc => by unfold isC; rw [hc]
  have hnil : cls (rs l) = [] → isC l = false := fun hc => by unfold isC; rw [hc]
  generalize cls (rs l) = C at hcut htwo hone hnil
  generalize isC l = v at htwo hone hnil ⊢
  have HCUT := Lib.hid hcut
  clear hcut
  match C with
  | [] =>
    have hv := hnil rfl
    subst hv
    clear htwo hone hnil
    go_enter Tryd.func36, Tryd.ntmps36
    go_wp2_with (fail)
    refine HCUT.out.mono ?_
    rintro e w1 ⟨A, c, rfl, hO, hb1⟩
    clear hO
    go_wp2
    go_ret
    exact ⟨rfl, hb1⟩
  | [c] =>
    have hv := hone c rfl
    have HV := Lib.hid hv
    clear htwo hone hnil hv
    go_enter Tryd.func36, Tryd.ntmps36
    go_wp2_with (fail)
    refine HCUT.out.mono ?_
    rintro e w1 ⟨A, cc, rfl, hO, hb1⟩
    obtain ⟨g, rfl, _, hc, hgl⟩ := sv_cell hO (k := 0) (by simp)
    simp only [List.getElem_cons_zero] at hc
    clear hO
    go_wp2
    go_ret
    refine ⟨ret_bool ?_, hb1⟩
    rw [HV.out]
    try simp [ByteArray.toList_eq]
  | c :: d :: C' =>
    have hv := htwo c d C' rfl
    subst hv
    clear htwo hone hnil
    generalize hC : (c :: d :: C').length = m at HCUT
    have hm : m = C'.length + 2 := by rw [← hC]; rfl
    have hm1 : ((m : Int) == 1) = false := by simp; omega
    clear hm hC
    go_enter Tryd.func36, Tryd.ntmps36
    go_wp2_with (fail)
    refine HCUT.out.mono ?_
    rintro e w1 ⟨A, cc, rfl, hO, hb1⟩
    clear hO
    go_wp2
    go_ret
    exact ⟨rfl, hb1⟩
end Go.Proofs.YtmgakdbcgdhpaaaDoor
