/-
  Walks: isValid, Check.
-/
import Derived.Test.YtaijiapolippaaaDoorFrValid
namespace Go.Proofs.YtaijiapolippaaaDoor
open Go.RowKit Go.Sort
set_option linter.unusedVariables false
set_option linter.unusedSimpArgs false

/-- may a frame be? -/
def fvalB (L : List (List Cl)) (row col : Int) : Bool := match L with
  | [] => false
  | l0 :: _ => fsizeB l0.length L.length && (fwithB row L.length && (fwithB col l0.length && L.all (fun l => decide (l.length = l0.length) && rowA none l)))

set_option maxRecDepth 100000 in
set_option maxHeartbeats 8000000 in
theorem fvalid_any {w : World} {D : Nat → Prop} {A : Option Addr} {c : Nat} {L : List (List Cl)} (h : RfAt w D A c L) (row col : Int) (sn : Bool) (hs : ∀ l ∈ L, l.length ≤ 100000 ∧ ∀ x ∈ l, x.s.length ≤ 2000000) (h5 : L.length ≤ 100000) (hT : Tabs w) :
    Calls Tryd.prog 67 #[.agg #[.slice A L.length c, .int .i64 row, .int .i64 col, .bool sn]] w fun e w' => e = .returned (.bool (fvalB L row col)) ∧ Below w.heap.size w w' := by
  rcases L with _ | ⟨l0, L'⟩
  · go_enter Tryd.func67, Tryd.ntmps67
    go_wp2
    go_ret
    exact ⟨rfl, (Below.refl _ w).alloc (Nat.le_refl _) _⟩
  · obtain ⟨L, hL⟩ : ∃ L, L = l0 :: L' := ⟨_, rfl⟩
    have hv : fvalB L row col = (fsizeB l0.length L.length && (fwithB row L.length && (fwithB col l0.length && L.all (fun l => decide (l.length = l0.length) && rowA none l)))) := by rw [hL]; rfl
    rw [← hL] at h hs h5 ⊢
    have h0 : L[0]? = some l0 := by rw [hL]; rfl
    have hl1 : 0 < L.length := by rw [hL]; simp
    rw [hv]
    clear hv hL
    obtain ⟨W0, hW0⟩ : ∃ W0, W0 = w.alloc (.cells #[.slice A L.length c, .int .i64 row, .int .i64 col, .bool sn] 74) := ⟨_, rfl⟩
    have hb0 : Below w.heap.size w W0 := by rw [hW0]; exact (Below.refl _ w).alloc (Nat.le_refl _) _
    have hB := Blk.new w 74 [.slice A L.length c, .int .i64 row, .int .i64 col, .bool sn]
    have e0 : w.alloc (.cells #[.slice A L.length c, .int .i64 row, .int .i64 col, .bool sn] 74) = W0 := hW0.symm
    have z0 : W0.cell? ⟨w.heap.size, 0, none⟩ = some (.slice A L.length c) := by rw [hW0]; exact hB.cell 0
    have z1 : W0.cell? ⟨w.heap.size, 1, none⟩ = some (.int .i64 row) := by rw [hW0]; exact hB.cell 1
    have z2 : W0.cell? ⟨w.heap.size, 2, none⟩ = some (.int .i64 col) := by rw [hW0]; exact hB.cell 2
    have hR := h.below hb0
    obtain ⟨b, off, A0, c0, rfl, hbb, hc0, _⟩ := hR.at_ h0
    rw [Nat.add_zero] at hc0
    obtain ⟨v1, h1⟩ : ∃ v, v = fsizeB l0.length L.length := ⟨_, rfl⟩
    obtain ⟨v2, h2⟩ : ∃ v, v = fwithB row L.length := ⟨_, rfl⟩
    obtain ⟨v3, h3⟩ : ∃ v, v = fwithB col l0.length := ⟨_, rfl⟩
    rw [← h1, ← h2, ← h3]
    have H1 := Lib.hid h1
    have H2 := Lib.hid h2
    have H3 := Lib.hid h3
    have HW0 := Lib.hid hW0
    have HB0 := Lib.hid hb0
    have HR := Lib.hid hR
    have HS := Lib.hid hs
    have HT := Lib.hid (hT.below hb0)
    have HL0 := Lib.hid h0
    clear h1 h2 h3 hW0 hb0 hR hs hT h hB e0 h0
    cases v1
    · go_enter Tryd.func67, Tryd.ntmps67
      go_wp2_with (fail)
      rw [← HW0.out]
      go_quiet (fail)
      go_wp2_with (first
      | (go_at_call 99; refine (fsize_any _ _ _).mono ?_; rintro e w' ⟨rfl, rfl⟩; rw [← H1.out])
      | (go_at_call 100; refine (fwith_any _ _ _).mono ?_; rintro e w' ⟨rfl, rfl⟩; first | rw [← H2.out] | rw [← H3.out]))
      go_ret
      exact ⟨ret_bool (by simp), below_dN HB0.out _⟩
    cases v2
    · go_enter Tryd.func67, Tryd.ntmps67
      go_wp2_with (fail)
      rw [← HW0.out]
      go_quiet (fail)
      go_wp2_with (first
      | (go_at_call 99; refine (fsize_any _ _ _).mono ?_; rintro e w' ⟨rfl, rfl⟩; rw [← H1.out])
      | (go_at_call 100; refine (fwith_any _ _ _).mono ?_; rintro e w' ⟨rfl, rfl⟩; first | rw [← H2.out] | rw [← H3.out]))
      go_ret
      exact ⟨ret_bool (by simp), below_dN HB0.out _⟩
    cases v3
    · go_enter Tryd.func67, Tryd.ntmps67
      go_wp2_with (fail)
      rw [← HW0.out]
      go_quiet (fail)
      go_wp2_with (first
      | (go_at_call 99; refine (fsize_any _ _ _).mono ?_; rintro e w' ⟨rfl, rfl⟩; rw [← H1.out])
      | (go_at_call 100; refine (fwith_any _ _ _).mono ?_; rintro e w' ⟨rfl, rfl⟩; first | rw [← H2.out] | rw [← H3.out]))
      go_ret
      exact ⟨ret_bool (by simp), below_dN HB0.out _⟩
    · obtain ⟨R, hRR⟩ : ∃ R, R = L.all (fun l => decide (l.length = l0.length) && rowA none l) := ⟨_, rfl⟩
      simp only [Bool.true_and]
      rw [← hRR]
      have HRR := Lib.hid hRR
      clear hRR
      go_enter Tryd.func67, Tryd.ntmps67
      go_wp2_with (fail)
      rw [← HW0.out]
      go_quiet (fail)
      go_wp2_with (first
      | (go_at_call 99; refine (fsize_any _ _ _).mono ?_; rintro e w' ⟨rfl, rfl⟩; rw [← H1.out])
      | (go_at_call 100; refine (fwith_any _ _ _).mono ?_; rintro e w' ⟨rfl, rfl⟩; first | rw [← H2.out] | rw [← H3.out]))
      go_loopw [6, 40] (fun v6 i wr => ∃ k : Nat, i = .int .i64 k ∧ k ≤ L.length ∧ (∀ j l, j < k → L[j]? = some l → l.length = l0.length ∧ rowA none l = true) ∧ Below W0.heap.size W0 wr) (fun _ i _ => L.length - (intOf i).toNat)
      case atStart => exact ⟨0, rfl, by omega, fun j l hj => by omega, below_drewN W0 _⟩
      case round =>
        obtain ⟨k, rfl, hk, hall, hbel⟩ := hrel
        have HALL := Lib.hid hall
        have HBE := Lib.hid hbel
        clear hall hbel
        by_cases hlt : k < L.length
        · have hki : (k : Int) < L.length := by omega
          have hx : L[k]? = some L[k] := List.getElem?_eq_getElem hlt
          have hm := HS.out _ (List.getElem_mem hlt)
          generalize L[k] = l at hx hm
          obtain ⟨b', off', Al, cl, e, hbb', hcl, ⟨hn1, hn2⟩, hsd⟩ := HR.out.at_ hx
          injection e with e
          injection e with eb eo
          subst eb eo
          have hcr : wr.cell? ⟨b, off + k, none⟩ = some (.slice Al l.length cl) := (HBE.out.cell (p := ⟨b, off + k, none⟩) hbb).trans hcl
          have hsl := hsd.sl.below HBE.out
          have HSL := Lib.hid hsl
          have HX := Lib.hid hx
          have HM := Lib.hid hm
          have HN2 := Lib.hid hn2
          have hww : Below w.heap.size w wr := HB0.out.trans (HBE.out.mono HB0.out.size)
          have HWW := Lib.hid hww
          have hnot : ∀ u : List Cl, L[k]? = some u → (decide (u.length = l0.length) && rowA none u) = false → R = false := fun u hu hf => by
            rw [HRR.out, List.all_eq_false]
            exact ⟨u, List.mem_of_getElem? hu, by simp [hf]⟩
          have HNOT := Lib.hid hnot
          clear hx hm hcl hn1 hn2 hsd hsl hww hnot hbb'
          by_cases hw : l.length = l0.length
          · obtain ⟨va, hva⟩ : ∃ v, v = rowA none l := ⟨_, rfl⟩
            have HVA := Lib.hid hva
            have HW := Lib.hid hw
            have hwi : ((l.length : Int) != (l0.length : Int)) = false := by simp; omega
            clear hva hw
            cases va
            · go_wp2_with (go_at_call 101; refine (frow_any l l.length cl W0.heap.size Al wr rfl HM.out.1 HN2.out HM.out.2 HSL.out HBE.out.size (HT.out.below HBE.out)).mono ?_; rintro e w4 ⟨rfl, hb4⟩; rw [← HVA.out])
              go_ret
              exact ⟨ret_bool (HNOT.out _ HX.out (by rw [← HVA.out]; simp)).symm, HWW.out.trans (hb4.mono HWW.out.size)⟩
            · go_wp2_with (go_at_call 101; refine (frow_any l l.length cl W0.heap.size Al wr rfl HM.out.1 HN2.out HM.out.2 HSL.out HBE.out.size (HT.out.below HBE.out)).mono ?_; rintro e w4 ⟨rfl, hb4⟩; rw [← HVA.out])
              go_roundw
              case rel =>
                refine ⟨k + 1, by go_num, by omega, fun j u hj hu => ?_, HBE.out.trans (hb4.mono HBE.out.size)⟩
                by_cases hjk : j = k
                · subst hjk
                  have := HX.out
                  rw [hu] at this
                  injection this with this
                  subst this
                  exact ⟨HW.out, HVA.out.symm⟩
                · exact HALL.out j u (by omega) hu
              case measure => simp [intOf]; omega
          · have hwi : ((l.length : Int) != (l0.length : Int)) = true := by simp; omega
            have HW := Lib.hid hw
            clear hw
            go_wp2
            go_ret
            exact ⟨ret_bool (HNOT.out _ HX.out (by simp [HW.out])).symm, HWW.out⟩
        · have hki : ¬ (k : Int) < L.length := by omega
          go_wp2
          go_ret
          refine ⟨ret_bool ?_, HB0.out.trans (HBE.out.mono HB0.out.size)⟩
          symm
          rw [HRR.out, List.all_eq_true]
          intro u hu
          obtain ⟨j, hj⟩ := List.getElem?_of_mem hu
          have := HALL.out j u (by have := (List.getElem?_eq_some_iff.1 hj).1; omega) hj
          simp [this.1, this.2]

set_option maxRecDepth 100000 in
set_option maxHeartbeats 1000000 in
theorem fcheck_any {w : World} {D : Nat → Prop} {A : Option Addr} {c : Nat} {L : List (List Cl)} (h : RfAt w D A c L) (row col : Int) (sn : Bool) (hs : ∀ l ∈ L, l.length ≤ 100000 ∧ ∀ x ∈ l, x.s.length ≤ 2000000) (h5 : L.length ≤ 100000) (hT : Tabs w) :
    Calls Tryd.prog 39 #[.agg #[.slice A L.length c, .int .i64 row, .int .i64 col, .bool sn]] w fun e w' => e = .returned (.int .i64 (if fvalB L row col = true then 0 else 90)) ∧ Below w.heap.size w w' := by
  have hb0 : Below w.heap.size w (w.alloc (.cells #[.slice A L.length c, .int .i64 row, .int .i64 col, .bool sn] 74)) := (Below.refl _ w).alloc (Nat.le_refl _) _
  have HC := Lib.hid (fvalid_any (h.below hb0) row col sn hs h5 (hT.below hb0))
  have HB0 := Lib.hid hb0
  generalize fvalB L row col = v at HC ⊢
  clear h hs h5 hT hb0
  cases v
  all_goals
    go_enter Tryd.func39, Tryd.ntmps39
    go_wp2_with (go_at_call 67; refine HC.out.mono ?_; rintro e w4 ⟨rfl, hb4⟩)
    go_ret
    exact ⟨rfl, HB0.out.trans (hb4.mono HB0.out.size)⟩
/-- A grid's rows whose cells may be are a frame's. -/
theorem fvalB_of {L : List (List Cl)} {W : Nat} {row col : Int} (hwd : ∀ (i : Nat) l, L[i]? = some l → l.length = W ∧ Wf l) (ho : OkL L) (w1 : 1 ≤ W) (w5 : W ≤ 500) (h1 : 1 ≤ L.length) (h5 : L.length ≤ 60) (hr : 0 ≤ row ∧ row < L.length) (hc : 0 ≤ col ∧ col < W) : fvalB L row col = true := by
  rcases L with _ | ⟨l0, L'⟩
  · simp at h1
  · have h0 := (hwd 0 l0 rfl).1
    simp only [fvalB, Bool.and_eq_true, List.all_eq_true, decide_eq_true_eq]
    refine ⟨?_, ?_, ?_, fun l hl => ?_⟩
    · unfold fsizeB; simp only [decide_eq_true_eq]; omega
    · unfold fwithB; simp only [decide_eq_true_eq]; omega
    · unfold fwithB; simp only [decide_eq_true_eq]; omega
    · obtain ⟨i, hi⟩ := List.getElem?_of_mem hl
      have := hwd i l hi
      exact ⟨by rw [this.1, h0], rowA_of this.2 (ho l hl)⟩
end Go.Proofs.YtaijiapolippaaaDoor
