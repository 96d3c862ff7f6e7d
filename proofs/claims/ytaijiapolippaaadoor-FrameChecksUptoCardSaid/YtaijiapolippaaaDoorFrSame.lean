/-
  Walks: slices.EqualFunc at rows of cells; the program's Same of two frames.
-/
import Derived.Test.YtaijiapolippaaaDoorFrRefG
namespace Go.Proofs.YtaijiapolippaaaDoor
open Go.RowKit Go.Sort
set_option linter.unusedVariables false
set_option linter.unusedSimpArgs false

set_option maxRecDepth 100000 in
set_option maxHeartbeats 8000000 in
theorem eqf_any {w : World} {D D' : Nat → Prop} {A B : Option Addr} {c d : Nat} {L L' : List (List Cl)} (hA : RfAt w D A c L) (hB : RfAt w D' B d L') (hs : ∀ l ∈ L, l.length ≤ 100000) (hs' : ∀ l ∈ L', l.length ≤ 100000) (h5 : L.length ≤ 100000) (h5' : L'.length ≤ 100000) :
    Calls Tryd.prog 69 #[.slice A L.length c, .slice B L'.length d, .func (.func 70) #[] #[]] w fun e w' => e = .returned (.bool (decide (L = L'))) ∧ Below w.heap.size w w' := by
  obtain ⟨r, hr⟩ : ∃ r, r = decide (L = L') := ⟨_, rfl⟩
  rw [← hr]
  have HR := Lib.hid hr
  have HA := Lib.hid hA
  have HB := Lib.hid hB
  have HS := Lib.hid hs
  have HS' := Lib.hid hs'
  clear hr hA hB hs hs'
  by_cases e1 : L.length = L'.length
  case neg =>
    have e1' : ¬ (L.length : Int) = L'.length := by omega
    go_enter Tryd.func69, Tryd.ntmps69
    go_wp2
    go_ret
    exact ⟨by rw [HR.out, decide_eq_false (fun h => e1 (by rw [h]))]; rfl, Below.refl _ _⟩
  obtain ⟨n, hn⟩ : ∃ n, n = L.length := ⟨_, rfl⟩
  rw [← e1, ← hn]
  have HN := Lib.hid hn
  have HE := Lib.hid e1
  rw [← hn] at h5
  clear hn e1
  go_enter Tryd.func69, Tryd.ntmps69
  go_wp2
  go_loopw [17] (fun i wr => ∃ k : Nat, i = .int .i64 k ∧ k ≤ n ∧ L.take k = L'.take k ∧ Below w.heap.size w wr) (fun i _ => n - (intOf i).toNat)
  case atStart => exact ⟨0, rfl, by omega, rfl, Below.refl _ _⟩
  case round =>
    obtain ⟨k, rfl, hk, htk, hbel⟩ := hrel
    have HBE := Lib.hid hbel
    clear hbel
    by_cases hlt : k < n
    · have hki : (k : Int) < n := by omega
      have hlt1 : k < L.length := by have := HN.out; omega
      have hlt2 : k < L'.length := by have := HN.out; have := HE.out; omega
      have hl : L[k]? = some L[k] := List.getElem?_eq_getElem hlt1
      have hl' : L'[k]? = some L'[k] := List.getElem?_eq_getElem hlt2
      have hm := HS.out _ (List.getElem_mem hlt1)
      have hm' := HS'.out _ (List.getElem_mem hlt2)
      have htk1 : L.take (k + 1) = L.take k ++ [L[k]] := List.take_succ_eq_append_getElem hlt1
      have htk2 : L'.take (k + 1) = L'.take k ++ [L'[k]] := List.take_succ_eq_append_getElem hlt2
      generalize L[k] = l at hl hm htk1
      generalize L'[k] = l' at hl' hm' htk2
      obtain ⟨ba, oa, Ai, ci, rfl, hba, hca, _, hsa⟩ := (HA.out.below HBE.out).at_ hl
      obtain ⟨bb, ob, Bi, di, rfl, hbb, hcb, _, hsb⟩ := (HB.out.below HBE.out).at_ hl'
      have hq := equal_any l l' l.length l'.length Ai Bi ci di wr rfl rfl hm hm' wr.heap.size wr.heap.size hsa.sl hsb.sl (Nat.le_refl _) (Nat.le_refl _)
      obtain ⟨v, hv⟩ : ∃ v, v = decide (l = l') := ⟨_, rfl⟩
      rw [← hv] at hq
      have HQ := Lib.hid hq
      have HTK := Lib.hid htk
      have HT1 := Lib.hid htk1
      have HT2 := Lib.hid htk2
      have HV := Lib.hid hv
      have HL := Lib.hid hl
      have HL' := Lib.hid hl'
      clear hm hm' hsa hsb hba hbb htk htk1 htk2 hv hq hl hl'
      cases v
      · have hne : l ≠ l' := by simpa using HV.out.symm
        have HF := Lib.hid (show r = false by
          rw [HR.out, decide_eq_false (fun h => hne (by
            have h1 := HL.out
            rw [h, HL'.out] at h1
            exact (Option.some.inj h1).symm))])
        clear hne
        go_wp2_with (go_at_call 70; refine HQ.out.mono ?_; rintro e w2 ⟨rfl, hb2⟩)
        go_ret
        exact ⟨by rw [HF.out]; rfl, HBE.out.trans (hb2.mono HBE.out.size)⟩
      · have heq : l = l' := by simpa using HV.out.symm
        have HEQ := Lib.hid heq
        clear heq
        go_wp2_with (go_at_call 70; refine HQ.out.mono ?_; rintro e w2 ⟨rfl, hb2⟩)
        go_roundw
        case rel => exact ⟨k + 1, by go_num, by omega, by rw [HT1.out, HT2.out, HTK.out, HEQ.out], HBE.out.trans (hb2.mono HBE.out.size)⟩
        case measure => simp [intOf]; omega
    · have hki : ¬ (k : Int) < n := by omega
      have HF := Lib.hid (show r = true by
        rw [HR.out]
        rw [List.take_of_length_le (by have := HN.out; omega), List.take_of_length_le (by have := HN.out; have := HE.out; omega)] at htk
        exact decide_eq_true htk)
      clear htk
      go_wp2
      go_ret
      exact ⟨by rw [HF.out]; rfl, HBE.out⟩
set_option maxRecDepth 100000 in
set_option maxHeartbeats 8000000 in
theorem fsame_any {w : World} {D D' : Nat → Prop} {A B : Option Addr} {c d : Nat} {L L' : List (List Cl)} (hA : RfAt w D A c L) (hB : RfAt w D' B d L') (row col row' col' : Int) (sn sn' : Bool) (hs : ∀ l ∈ L, l.length ≤ 100000) (hs' : ∀ l ∈ L', l.length ≤ 100000) (h5 : L.length ≤ 100000) (h5' : L'.length ≤ 100000) :
    Calls Tryd.prog 41 #[.agg #[.slice A L.length c, .int .i64 row, .int .i64 col, .bool sn], .agg #[.slice B L'.length d, .int .i64 row', .int .i64 col', .bool sn']] w fun e w' => e = .returned (.bool (decide (L = L' ∧ row = row' ∧ col = col' ∧ sn = sn'))) ∧ Below w.heap.size w w' := by
  obtain ⟨r, hr⟩ : ∃ r, r = decide (L = L' ∧ row = row' ∧ col = col' ∧ sn = sn') := ⟨_, rfl⟩
  rw [← hr]
  have HR := Lib.hid hr
  clear hr
  obtain ⟨W0, hW0⟩ : ∃ W0, W0 = (w.alloc (.cells #[.slice A L.length c, .int .i64 row, .int .i64 col, .bool sn] 74)).alloc (.cells #[.slice B L'.length d, .int .i64 row', .int .i64 col', .bool sn'] 74) := ⟨_, rfl⟩
  have hb0 : Below w.heap.size w W0 := by rw [hW0]; exact ((Below.refl _ w).alloc (Nat.le_refl _) _).alloc (by simp) _
  have HB0 := Lib.hid hb0
  have HQ := Lib.hid (fun (W : World) (hW : Below w.heap.size w W) => eqf_any (hA.below hW) (hB.below hW) hs hs' h5 h5')
  have hbb := fun W (h : W = W0) => (by rw [h]; exact hb0 : Below w.heap.size w W)
  rw [hW0] at hbb
  have HBB := Lib.hid hbb
  obtain ⟨v, hv⟩ : ∃ v, v = decide (L = L') := ⟨_, rfl⟩
  rw [← hv] at HQ
  have HV := Lib.hid hv
  clear hb0 hW0 HB0 hA hB hs hs' hbb hv
  by_cases e2 : row = row'
  case neg =>
    have HF := Lib.hid (show r = false by rw [HR.out, decide_eq_false (fun h => e2 h.2.1)])
    go_enter Tryd.func41, Tryd.ntmps41
    go_wp2
    go_ret
    exact ⟨by rw [HF.out]; rfl, HBB.out _ rfl⟩
  by_cases e3 : col = col'
  case neg =>
    have HF := Lib.hid (show r = false by rw [HR.out, decide_eq_false (fun h => e3 h.2.2.1)])
    have e3' : (col == col') = false := by simpa using e3
    subst e2
    go_enter Tryd.func41, Tryd.ntmps41
    go_wp2
    go_ret
    exact ⟨by rw [HF.out]; rfl, HBB.out _ rfl⟩
  by_cases e4 : sn = sn'
  case neg =>
    have e4' : (sn == sn') = false := by simpa using e4
    have HF := Lib.hid (show r = false by rw [HR.out, decide_eq_false (fun h => e4 h.2.2.2)])
    subst e2
    subst e3
    go_enter Tryd.func41, Tryd.ntmps41
    go_wp2
    go_ret
    exact ⟨by rw [HF.out]; rfl, HBB.out _ rfl⟩
  have HF := Lib.hid (show r = v by rw [HR.out, HV.out]; simp [e2, e3, e4])
  subst e2
  subst e3
  subst e4
  go_enter Tryd.func41, Tryd.ntmps41
  go_wp2_with (go_at_call 69; refine (HQ.out _ (HBB.out _ rfl)).mono ?_; rintro e w2 ⟨rfl, hb2⟩)
  go_ret
  exact ⟨by rw [HF.out]; rfl, (HBB.out _ rfl).trans (hb2.mono (HBB.out _ rfl).size)⟩
end Go.Proofs.YtaijiapolippaaaDoor
