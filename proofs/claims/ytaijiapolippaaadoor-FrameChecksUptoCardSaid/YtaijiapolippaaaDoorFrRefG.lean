/-
  Walks: the document's Same, of any two frames.
-/
import Derived.Test.YtaijiapolippaaaDoorFrFns
import Derived.Test.YtaijiapolippaaaDoorGfI
import Derived.Test.YtaijiapolippaaaDoorQuietB
import Derived.Outline
namespace Go.Proofs.YtaijiapolippaaaDoor
open Go.RowKit Go.Sort
set_option linter.unusedVariables false
set_option linter.unusedSimpArgs false

set_option maxRecDepth 100000 in
set_option maxHeartbeats 8000000 in
theorem rfsame_any {w : World} {D D' : Nat → Prop} {A B : Option Addr} {c d : Nat} {L L' : List (List Cl)} (hA : RfAt w D A c L) (hB : RfAt w D' B d L') (row col row' col' : Int) (sn sn' : Bool) (hs : ∀ l ∈ L, l.length ≤ 100000) (hs' : ∀ l ∈ L', l.length ≤ 100000) (h5 : L.length ≤ 100000) (h5' : L'.length ≤ 100000) :
    Calls Tryd.prog 42 #[.agg #[.slice A L.length c, .int .i64 row, .int .i64 col, .bool sn], .agg #[.slice B L'.length d, .int .i64 row', .int .i64 col', .bool sn']] w fun e w' => e = .returned (.bool (decide (L = L' ∧ row = row' ∧ col = col' ∧ sn = sn'))) ∧ Below w.heap.size w w' := by
  obtain ⟨r, hr⟩ : ∃ r, r = decide (L = L' ∧ row = row' ∧ col = col' ∧ sn = sn') := ⟨_, rfl⟩
  rw [← hr]
  have HR := Lib.hid hr
  clear hr
  obtain ⟨W0, hW0⟩ : ∃ W0, W0 = (w.alloc (.cells #[.slice A L.length c, .int .i64 row, .int .i64 col, .bool sn] 74)).alloc (.cells #[.slice B L'.length d, .int .i64 row', .int .i64 col', .bool sn'] 74) := ⟨_, rfl⟩
  have hb0 : Below w.heap.size w W0 := by rw [hW0]; exact ((Below.refl _ w).alloc (Nat.le_refl _) _).alloc (by simp) _
  have f1 : Blk W0 w.heap.size 74 [.slice A L.length c, .int .i64 row, .int .i64 col, .bool sn] := by rw [hW0]; exact (Blk.new w _ [.slice A L.length c, .int .i64 row, .int .i64 col, .bool sn]).alloc _
  have f2 : Blk W0 (w.heap.size + 1) 74 [.slice B L'.length d, .int .i64 row', .int .i64 col', .bool sn'] := by
    have := Blk.new (w.alloc (.cells #[.slice A L.length c, .int .i64 row, .int .i64 col, .bool sn] 74)) 74 [.slice B L'.length d, .int .i64 row', .int .i64 col', .bool sn']
    rw [hW0]
    simpa using this
  have a0 : W0.cell? ⟨w.heap.size, 0, none⟩ = some (.slice A L.length c) := f1.cell 0
  have a1 : W0.cell? ⟨w.heap.size, 1, none⟩ = some (.int .i64 row) := f1.cell 1
  have a2 : W0.cell? ⟨w.heap.size, 2, none⟩ = some (.int .i64 col) := f1.cell 2
  have a3 : W0.cell? ⟨w.heap.size, 3, none⟩ = some (.bool sn) := f1.cell 3
  have b0 : W0.cell? ⟨w.heap.size + 1, 0, none⟩ = some (.slice B L'.length d) := f2.cell 0
  have b1 : W0.cell? ⟨w.heap.size + 1, 1, none⟩ = some (.int .i64 row') := f2.cell 1
  have b2 : W0.cell? ⟨w.heap.size + 1, 2, none⟩ = some (.int .i64 col') := f2.cell 2
  have b3 : W0.cell? ⟨w.heap.size + 1, 3, none⟩ = some (.bool sn') := f2.cell 3
  have HA := Lib.hid (hA.below hb0)
  have HB := Lib.hid (hB.below hb0)
  have HB0 := Lib.hid hb0
  have HW0 := Lib.hid hW0
  have HS := Lib.hid hs
  have HS' := Lib.hid hs'
  have hl0 : w.heap.size + 1 < W0.heap.size := f2.lt
  clear hA hB hb0 hW0 hs hs' f1 f2
  go_enter Tryd.func42, Tryd.ntmps42
  go_upto_region 1 with (fail)
  rw [← HW0.out]
  by_cases e1 : L.length = L'.length
  case neg =>
    have e1' : ¬ (L.length : Int) = L'.length := by omega
    go_wp2_with (fail)
    go_ret
    exact ⟨by rw [HR.out, decide_eq_false (fun h => e1 (by rw [h.1]))]; rfl, HB0.out⟩
  by_cases e2 : row = row'
  case neg =>
    have e1' : (L.length : Int) = L'.length := by omega
    go_wp2_with (fail)
    go_ret
    exact ⟨by rw [HR.out, decide_eq_false (fun h => e2 h.2.1)]; rfl, HB0.out⟩
  by_cases e3 : col = col'
  case neg =>
    have e1' : (L.length : Int) = L'.length := by omega
    subst e2
    go_wp2_with (fail)
    go_ret
    exact ⟨by rw [HR.out, decide_eq_false (fun h => e3 h.2.2.1)]; rfl, HB0.out⟩
  by_cases e4 : sn = sn'
  case neg =>
    have e1' : (L.length : Int) = L'.length := by omega
    have e4' : (sn == sn') = false := by simpa using e4
    subst e2
    subst e3
    go_wp2_with (fail)
    go_ret
    exact ⟨by rw [HR.out, decide_eq_false (fun h => e4 h.2.2.2)]; rfl, HB0.out⟩
  subst e2
  subst e3
  subst e4
  rw [← e1] at b0
  go_wp2_with (fail)
  go_loopw [5] (fun i wr => ∃ k : Nat, i = .int .i64 k ∧ k ≤ L.length ∧ L.take k = L'.take k ∧ Below W0.heap.size W0 wr) (fun i _ => L.length - (intOf i).toNat)
  case atStart => exact ⟨0, rfl, by omega, rfl, Below.refl _ _⟩
  case round =>
    obtain ⟨k, rfl, hk, htk, hbel⟩ := hrel
    have z0 : wr.cell? ⟨w.heap.size, 0, none⟩ = some (.slice A L.length c) := (hbel.cell (p := ⟨w.heap.size, 0, none⟩) (by show w.heap.size < _; omega)).trans a0
    have z1 : wr.cell? ⟨w.heap.size + 1, 0, none⟩ = some (.slice B L.length d) := (hbel.cell (p := ⟨w.heap.size + 1, 0, none⟩) hl0).trans b0
    have HBE := Lib.hid hbel
    clear hbel a0 a1 a2 a3 b0 b1 b2 b3
    by_cases hlt : k < L.length
    · have hki : (k : Int) < L.length := by omega
      have hlt' : k < L'.length := by omega
      have hl : L[k]? = some L[k] := List.getElem?_eq_getElem hlt
      have hl' : L'[k]? = some L'[k] := List.getElem?_eq_getElem hlt'
      have hm := HS.out _ (List.getElem_mem hlt)
      have hm' := HS'.out _ (List.getElem_mem hlt')
      have htk1 : L.take (k + 1) = L.take k ++ [L[k]] := List.take_succ_eq_append_getElem hlt
      have htk2 : L'.take (k + 1) = L'.take k ++ [L'[k]] := List.take_succ_eq_append_getElem hlt'
      generalize L[k] = l at hl hm htk1
      generalize L'[k] = l' at hl' hm' htk2
      obtain ⟨ba, oa, Ai, ci, rfl, hba, hca, _, hsa⟩ := (HA.out.below HBE.out).at_ hl
      obtain ⟨bb, ob, Bi, di, rfl, hbb, hcb, _, hsb⟩ := (HB.out.below HBE.out).at_ hl'
      have c0 := cell_regrown z0
      have c1 := cell_regrown z1
      have c2 := cell_regrown hca
      have c3 := cell_regrown hcb
      have Q1 := fun dd os => Calls.regrown_of (same_any l l' l.length l'.length Ai Bi ci di (grow (redrawn wr dd) os) rfl rfl hm hm' wr.heap.size wr.heap.size (hsa.sl.below (below_regrown wr dd os)) (hsb.sl.below (below_regrown wr dd os)) (below_regrown wr dd os).size (below_regrown wr dd os).size)
      obtain ⟨v, hv⟩ : ∃ v, v = decide (l = l') := ⟨_, rfl⟩
      rw [← hv] at Q1
      have Q1 := Lib.hid Q1
      have HTK := Lib.hid htk
      have HT1 := Lib.hid htk1
      have HT2 := Lib.hid htk2
      have HV := Lib.hid hv
      clear hm hm' hsa hsb hca hcb hba hbb htk htk1 htk2 hv
      go_wp2_with (fail)
      clear z0 z1
      refine region_below0 (by kernel_rfl) (by kernel_rfl) ?_
      repeat (first
        | go_big_quiet_step (with_reducible exact Q1.out _ _)
        | quiet_step (with_reducible exact Q1.out _ _))
      refine wpQuiet_nil ?_
      intro _ hw'
      obtain ⟨⟨dq, osq⟩, hw''⟩ := hw'
      subst hw''
      have hb2 := HBE.out.trans ((below_regrown wr dq osq).mono HBE.out.size)
      clear c0 c1 c2 c3
      generalize grow (redrawn wr dq) osq = w5 at hb2 ⊢
      cases v
      · have hne : l ≠ l' := by simpa using HV.out.symm
        go_wp2
        go_ret
        refine ⟨?_, HB0.out.trans (hb2.mono HB0.out.size)⟩
        rw [HR.out, decide_eq_false (fun h => hne (by
          have h1 := h.1
          subst h1
          rw [hl] at hl'
          exact Option.some.inj hl'))]
        rfl
      · have heq : l = l' := by simpa using HV.out.symm
        go_wp2
        go_roundw
        case rel => exact ⟨k + 1, by go_num, by omega, by rw [HT1.out, HT2.out, HTK.out, heq], hb2⟩
        case measure => simp [intOf]; omega
    · have hki : ¬ (k : Int) < L.length := by omega
      have hfull : L = L' := by
        rw [List.take_of_length_le (by omega), List.take_of_length_le (by omega)] at htk
        exact htk
      go_wp2
      go_ret
      exact ⟨by rw [HR.out, decide_eq_true (by simp [hfull])]; rfl, HB0.out.trans (HBE.out.mono HB0.out.size)⟩
end Go.Proofs.YtaijiapolippaaaDoor
