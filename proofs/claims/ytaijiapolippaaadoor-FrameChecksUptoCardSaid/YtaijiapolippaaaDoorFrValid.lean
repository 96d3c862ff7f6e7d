/-
  Walks: isRow, isValid, Check.
-/
import Derived.Test.YtaijiapolippaaaDoorFrFns
import Derived.Test.YtaijiapolippaaaDoorGfI
import Derived.IntWalk
import Derived.Outline
namespace Go.Proofs.YtaijiapolippaaaDoor
open Go.RowKit Go.Sort
set_option linter.unusedVariables false
set_option linter.unusedSimpArgs false

theorem i64w {x : Int} (h0 : -9223372036854775808 ≤ x) (h1 : x ≤ 9223372036854775807) : IntKind.i64.wrap x = x := by
  rw [IntKind.wrap_i64]; omega
theorem begB_pos {l : List Cl} {t : Cl} (h : begB l t = true) : 0 < l.length := by
  cases l with
  | nil => simp [begB] at h
  | cons d l => simp
set_option maxRecDepth 100000 in
set_option maxHeartbeats 8000000 in
theorem frow_any (l : List Cl) (n c B : Nat) (A : Option Addr) (w : World) (hn : n = l.length) (h5 : n ≤ 100000) (hnc : n ≤ c) (hs : ∀ x ∈ l, x.s.length ≤ 2000000) (hA : Sl w B A (rc l)) (hB : B ≤ w.heap.size) (hT : Tabs w) :
    Calls Tryd.prog 101 #[.slice A n c] w fun e w' => e = .returned (.bool (rowA none l)) ∧ Below w.heap.size w w' := by
  obtain ⟨R, hR⟩ : ∃ R, R = rowA none l := ⟨_, rfl⟩
  rw [← hR]
  have HR := Lib.hid hR
  have HN := Lib.hid hn
  have HS := Lib.hid hs
  have HA := Lib.hid (hA.more hB)
  have HT := Lib.hid hT
  clear hR hn hs hA hT
  go_enter Tryd.func101, Tryd.ntmps101
  go_wp2
  go_loopw [3] (fun i wr => ∃ k : Nat, i = .int .i64 k ∧ k ≤ n ∧ rowA none (l.drop k) = R ∧ Below w.heap.size w wr) (fun i _ => n - (intOf i).toNat)
  case atStart => exact ⟨0, rfl, by omega, HR.out.symm, Below.refl _ _⟩
  case round =>
    obtain ⟨k, rfl, hk, hrk, hbel⟩ := hrel
    have HRK := Lib.hid hrk
    have HBE := Lib.hid hbel
    clear hrk hbel
    by_cases hlt : k < n
    · have hki : (k : Int) < n := by omega
      have hkl : k < l.length := by have := HN.out; omega
      have hx : l[k]? = some l[k] := List.getElem?_eq_getElem hkl
      have hd : l.drop k = l[k] :: l.drop (k + 1) := List.drop_eq_getElem_cons hkl
      have hxs := HS.out _ (List.getElem_mem hkl)
      generalize l[k] = x at hx hd hxs
      obtain ⟨b, off, rfl, hbb, hcx⟩ := HA.out.open_ (by rw [rc_length]; omega)
      have hrg : wr.rangeAt b (off + k * 7) x.cells := fun j v hv => by
        rw [Nat.add_assoc]
        exact (HBE.out.cell (p := ⟨b, off + (k * 7 + j), none⟩) hbb).trans (hcx _ v (rc_get hx hv))
      have hc0 : cellOk x = true → x.w = 1 ∨ x.w = 2 := cellOk_w
      obtain ⟨v1, hv1⟩ : ∃ v, v = cellOk x := ⟨_, rfl⟩
      have QC := fun W (hW : Tabs W) => fcell_any x hxs W hW
      rw [← hv1] at QC hc0
      have hrd : rowA none (x :: l.drop (k + 1)) = R := by rw [← hd]; exact HRK.out
      simp only [rowA] at hrd
      rw [← hv1] at hrd
      have HV1 := Lib.hid hv1
      have HRD := Lib.hid hrd
      have HRG := Lib.hid hrg
      have HX := Lib.hid hx
      have HXS := Lib.hid hxs
      have HCX := Lib.hid hcx
      have HBB := Lib.hid hbb
      have HN0 := Lib.hid (Blk.new wr 123 czero.cells)
      have hSL : ∀ W, Below w.heap.size w W → Sl W w.heap.size (some ⟨b, off, none⟩) (rc l) := fun W hW => HA.out.below hW
      have HSL := Lib.hid hSL
      have hbx : ∀ j v, x.cells[j]? = some v → ∀ W, Below w.heap.size w W → W.cell? ⟨b, off + k * 7 + j, none⟩ = some v := fun j v hv W hW => by
        rw [Nat.add_assoc]
        exact (hW.cell (p := ⟨b, off + (k * 7 + j), none⟩) hbb).trans (hcx _ v (rc_get hx hv))
      have HBX := Lib.hid hbx
      clear hx hd hxs hcx hrg hkl hbb hv1 hrd hSL hbx
      obtain ⟨s, m, ⟨yb, yu, yi, yf, yg⟩⟩ := x
      simp only [Cl.cells] at QC HN0 HRG HBX
      have e1 : IntKind.i64.wrap ((k : Int) + 1) = (k : Int) + 1 := i64w (by omega) (by omega)
      have e2 : (0 : Int) ≤ (k : Int) + 1 := by omega
      have e3 : ((k : Int) + 1).toNat = k + 1 := by omega
      have e4 : k + 1 ≤ n := by omega
      have hvA : rowA (some ⟨yb, yu, yi, yf, yg⟩) (l.drop (k + 1)) = (begB (l.drop (k + 1)) (tail_ ⟨yb, yu, yi, yf, yg⟩) && rowA none (l.drop (k + 1 + 1))) := by
        unfold begB
        rw [show l.drop (k + 1 + 1) = (l.drop (k + 1)).tail by simp]
        cases l.drop (k + 1) with
        | nil => simp [rowA]
        | cons d t => simp [rowA]
      have HVA := Lib.hid hvA
      clear hvA
      cases v1
      · clear e1 e2 e3 e4
        go_wp2_with (first
          | ((with_reducible refine at_dst 19 ?_); refine wpList_load_mid rfl _ _ rfl b (off + k * 7) rfl _ _ HRG.out Tryd.underlying123 rfl cl_size ?_)
          | ((with_reducible refine at_store 4 ?_); refine wpList_store_blk rfl _ _ _ rfl rfl wr.heap.size 0 _ _ (Cl.cells ⟨s, m, ⟨yb, yu, yi, yf, yg⟩⟩) rfl rfl HN0.out (by simp [Cl.len]) cl_size (Cl.one _) ?_; intro w2 hn2 hg2))
        have hn3 : Blk w2 wr.heap.size 123 (Cl.cells ⟨s, m, ⟨yb, yu, yi, yf, yg⟩⟩) := hn2
        have hb2 : Below w.heap.size w w2 := HBE.out.trans ((((Below.refl _ wr).alloc (Nat.le_refl _) _).grown hg2 (by simp) (fun j hj => by injection hj with hj; omega)).mono HBE.out.size)
        have x0 := cell_regrown (hn3.cell 0)
        have x1 := cell_regrown (hn3.cell 1)
        have x2 := cell_regrown (hn3.cell 2)
        have x3 := cell_regrown (hn3.cell 3)
        have x4 := cell_regrown (hn3.cell 4)
        have x5 := cell_regrown (hn3.cell 5)
        have x6 := cell_regrown (hn3.cell 6)
        have hbel : ∀ d os, Below w.heap.size w (grow (redrawn w2 d) os) := fun d os => hb2.trans ((below_regrown w2 d os).mono hb2.size)
        have Q1 := fun d os => Calls.regrown_of (QC (grow (redrawn w2 d) os) (HT.out.below (hbel d os)))
        have Q1 := Lib.hid Q1
        have HBEL := Lib.hid hbel
        clear hn2 hn3 hg2 hb2 hbel QC
        refine region_below0 (by kernel_rfl) (by kernel_rfl) ?_
        repeat (first
          | go_big_quiet_step (with_reducible exact Q1.out _ _)
          | quiet_step (with_reducible exact Q1.out _ _))
        refine wpQuiet_nil ?_
        intro _ hw'
        obtain ⟨⟨dq, osq⟩, hw''⟩ := hw'
        subst hw''
        have HBQ := Lib.hid (HBEL.out dq osq)
        clear x0 x1 x2 x3 x4 x5 x6 HBEL
        generalize grow (redrawn w2 dq) osq = w3 at HBQ ⊢
        go_wp2
        go_ret
        exact ⟨ret_bool (by have := HRD.out; simpa using this), HBQ.out⟩

      · have hm12 := hc0 rfl
        simp only at hm12
        have HG0 := Lib.hid (HBX.out 1 _ rfl)
        clear hc0
        rcases hm12 with rfl | rfl
        · clear e1 e2 e3 e4
          go_wp2_with (first
            | ((with_reducible refine at_dst 19 ?_); refine wpList_load_mid rfl _ _ rfl b (off + k * 7) rfl _ _ HRG.out Tryd.underlying123 rfl cl_size ?_)
            | ((with_reducible refine at_store 4 ?_); refine wpList_store_blk rfl _ _ _ rfl rfl wr.heap.size 0 _ _ (Cl.cells ⟨s, 1, ⟨yb, yu, yi, yf, yg⟩⟩) rfl rfl HN0.out (by simp [Cl.len]) cl_size (Cl.one _) ?_; intro w2 hn2 hg2))
          have hn3 : Blk w2 wr.heap.size 123 (Cl.cells ⟨s, 1, ⟨yb, yu, yi, yf, yg⟩⟩) := hn2
          have hb2 : Below w.heap.size w w2 := HBE.out.trans ((((Below.refl _ wr).alloc (Nat.le_refl _) _).grown hg2 (by simp) (fun j hj => by injection hj with hj; omega)).mono HBE.out.size)
          have x0 := cell_regrown (hn3.cell 0)
          have x1 := cell_regrown (hn3.cell 1)
          have x2 := cell_regrown (hn3.cell 2)
          have x3 := cell_regrown (hn3.cell 3)
          have x4 := cell_regrown (hn3.cell 4)
          have x5 := cell_regrown (hn3.cell 5)
          have x6 := cell_regrown (hn3.cell 6)
          have hbel : ∀ d os, Below w.heap.size w (grow (redrawn w2 d) os) := fun d os => hb2.trans ((below_regrown w2 d os).mono hb2.size)
          have Q1 := fun d os => Calls.regrown_of (QC (grow (redrawn w2 d) os) (HT.out.below (hbel d os)))
          have Q1 := Lib.hid Q1
          have HBEL := Lib.hid hbel
          clear hn2 hn3 hg2 hb2 hbel QC
          refine region_below0 (by kernel_rfl) (by kernel_rfl) ?_
          repeat (first
            | go_big_quiet_step (with_reducible exact Q1.out _ _)
            | quiet_step (with_reducible exact Q1.out _ _))
          refine wpQuiet_nil ?_
          intro _ hw'
          obtain ⟨⟨dq, osq⟩, hw''⟩ := hw'
          subst hw''
          have HBQ := Lib.hid (HBEL.out dq osq)
          clear x0 x1 x2 x3 x4 x5 x6 HBEL
          generalize grow (redrawn w2 dq) osq = w3 at HBQ ⊢
          have hgw := HG0.out w3 HBQ.out
          go_wp2
          go_roundw
          case rel => exact ⟨k + 1, by go_num, by omega, by have := HRD.out; simpa using this, HBQ.out⟩
          case measure => simp [intOf]; omega

        · have hrd := HRD.out
          simp only [if_true, Bool.true_and] at hrd
          rw [HVA.out] at hrd
          obtain ⟨vb, hvb⟩ : ∃ v, v = begB (l.drop (k + 1)) (tail_ ⟨yb, yu, yi, yf, yg⟩) := ⟨_, rfl⟩
          rw [← hvb] at hrd
          have HRD := Lib.hid hrd
          clear hrd
          have hsd := fun W (hW : Below w.heap.size w W) => (HSL.out W hW).drop (k := (k + 1) * 7) (cap := c * 7) (by rw [rc_length]; have := HN.out; omega)
          rw [rc_drop] at hsd
          have HVB := Lib.hid hvb
          by_cases hcap : c = k + 1
          · have hnil : l.drop (k + 1) = [] := List.drop_eq_nil_of_le (by have := HN.out; omega)
            obtain rfl : n = k + 1 := by omega
            subst hcap
            have hvf : vb = false := by rw [HVB.out, hnil]; rfl
            have hrf := HRD.out
            rw [hvf] at hrf
            have HRF := Lib.hid hrf
            clear hsd hvb hvf hrf hnil
            go_wp2_with (first
              | ((with_reducible refine at_dst 19 ?_); refine wpList_load_mid rfl _ _ rfl b (off + k * 7) rfl _ _ HRG.out Tryd.underlying123 rfl cl_size ?_)
              | ((with_reducible refine at_store 4 ?_); refine wpList_store_blk rfl _ _ _ rfl rfl wr.heap.size 0 _ _ (Cl.cells ⟨s, 2, ⟨yb, yu, yi, yf, yg⟩⟩) rfl rfl HN0.out (by simp [Cl.len]) cl_size (Cl.one _) ?_; intro w2 hn2 hg2))
            have hn3 : Blk w2 wr.heap.size 123 (Cl.cells ⟨s, 2, ⟨yb, yu, yi, yf, yg⟩⟩) := hn2
            have hb2 : Below w.heap.size w w2 := HBE.out.trans ((((Below.refl _ wr).alloc (Nat.le_refl _) _).grown hg2 (by simp) (fun j hj => by injection hj with hj; omega)).mono HBE.out.size)
            have x0 := cell_regrown (hn3.cell 0)
            have x1 := cell_regrown (hn3.cell 1)
            have x2 := cell_regrown (hn3.cell 2)
            have x3 := cell_regrown (hn3.cell 3)
            have x4 := cell_regrown (hn3.cell 4)
            have x5 := cell_regrown (hn3.cell 5)
            have x6 := cell_regrown (hn3.cell 6)
            have hbel : ∀ d os, Below w.heap.size w (grow (redrawn w2 d) os) := fun d os => hb2.trans ((below_regrown w2 d os).mono hb2.size)
            have Q1 := fun d os => Calls.regrown_of (QC (grow (redrawn w2 d) os) (HT.out.below (hbel d os)))
            have Q2 := fun d os => Calls.regrown_of (fbegins_any [] (tail_ ⟨yb, yu, yi, yf, yg⟩) 0 0 w.heap.size (some ⟨b, off, none⟩) (grow (redrawn w2 d) os) rfl (by omega) .empty (Nat.le_trans (by have := hb2.size; omega) (below_regrown w2 d os).size))
            rw [show begB [] (tail_ ⟨yb, yu, yi, yf, yg⟩) = false from rfl] at Q2
            simp only [Cl.cells, tail_] at Q2
            have Q2 := Lib.hid Q2
            have Q1 := Lib.hid Q1
            have HBEL := Lib.hid hbel
            clear hn2 hn3 hg2 hb2 hbel QC
            refine region_below0 (by kernel_rfl) (by kernel_rfl) ?_
            repeat (first
              | go_big_quiet_step (first | with_reducible exact Q1.out _ _ | with_reducible exact Q2.out _ _)
              | quiet_step (first | with_reducible exact Q1.out _ _ | with_reducible exact Q2.out _ _))
            refine wpQuiet_nil ?_
            intro _ hw'
            obtain ⟨⟨dq, osq⟩, hw''⟩ := hw'
            subst hw''
            have HBQ := Lib.hid (HBEL.out dq osq)
            clear x0 x1 x2 x3 x4 x5 x6 HBEL
            generalize grow (redrawn w2 dq) osq = w3 at HBQ ⊢
            go_wp2
            go_ret
            exact ⟨ret_bool (by have := HRF.out; simpa using this), HBQ.out⟩

          · have hsd' := fun W (hW : Below w.heap.size w W) => (hsd W hW)
            simp only [show ¬ c * 7 = (k + 1) * 7 by omega, if_false] at hsd'
            have HSD := Lib.hid hsd'
            clear hsd hsd' hvb
            go_wp2_with (first
              | ((with_reducible refine at_dst 19 ?_); refine wpList_load_mid rfl _ _ rfl b (off + k * 7) rfl _ _ HRG.out Tryd.underlying123 rfl cl_size ?_)
              | ((with_reducible refine at_store 4 ?_); refine wpList_store_blk rfl _ _ _ rfl rfl wr.heap.size 0 _ _ (Cl.cells ⟨s, 2, ⟨yb, yu, yi, yf, yg⟩⟩) rfl rfl HN0.out (by simp [Cl.len]) cl_size (Cl.one _) ?_; intro w2 hn2 hg2))
            have hn3 : Blk w2 wr.heap.size 123 (Cl.cells ⟨s, 2, ⟨yb, yu, yi, yf, yg⟩⟩) := hn2
            have hb2 : Below w.heap.size w w2 := HBE.out.trans ((((Below.refl _ wr).alloc (Nat.le_refl _) _).grown hg2 (by simp) (fun j hj => by injection hj with hj; omega)).mono HBE.out.size)
            have x0 := cell_regrown (hn3.cell 0)
            have x1 := cell_regrown (hn3.cell 1)
            have x2 := cell_regrown (hn3.cell 2)
            have x3 := cell_regrown (hn3.cell 3)
            have x4 := cell_regrown (hn3.cell 4)
            have x5 := cell_regrown (hn3.cell 5)
            have x6 := cell_regrown (hn3.cell 6)
            have hbel : ∀ d os, Below w.heap.size w (grow (redrawn w2 d) os) := fun d os => hb2.trans ((below_regrown w2 d os).mono hb2.size)
            have Q1 := fun d os => Calls.regrown_of (QC (grow (redrawn w2 d) os) (HT.out.below (hbel d os)))
            have Q2 := fun d os => Calls.regrown_of (fbegins_any (l.drop (k + 1)) (tail_ ⟨yb, yu, yi, yf, yg⟩) (n - (k + 1)) (c - (k + 1)) w.heap.size (some ⟨b, off + (k + 1) * 7, none⟩) (grow (redrawn w2 d) os) (by rw [List.length_drop]; have := HN.out; omega) (by omega) (HSD.out _ (hbel d os)) (Nat.le_trans (by have := hb2.size; omega) (below_regrown w2 d os).size))
            rw [← HVB.out] at Q2
            simp only [Cl.cells, tail_] at Q2
            have Q2 := Lib.hid Q2
            cases vb
            · have Q1 := Lib.hid Q1
              have HBEL := Lib.hid hbel
              clear hn2 hn3 hg2 hb2 hbel QC
              refine region_below0 (by kernel_rfl) (by kernel_rfl) ?_
              repeat (first
                | go_big_quiet_step (first | with_reducible exact Q1.out _ _ | with_reducible exact Q2.out _ _)
                | quiet_step (first | with_reducible exact Q1.out _ _ | with_reducible exact Q2.out _ _))
              refine wpQuiet_nil ?_
              intro _ hw'
              obtain ⟨⟨dq, osq⟩, hw''⟩ := hw'
              subst hw''
              have HBQ := Lib.hid (HBEL.out dq osq)
              clear x0 x1 x2 x3 x4 x5 x6 HBEL
              generalize grow (redrawn w2 dq) osq = w3 at HBQ ⊢
              go_wp2
              go_ret
              exact ⟨ret_bool (by have := HRD.out; simpa using this), HBQ.out⟩
            · have Q1 := Lib.hid Q1
              have HBEL := Lib.hid hbel
              clear hn2 hn3 hg2 hb2 hbel QC
              refine region_below0 (by kernel_rfl) (by kernel_rfl) ?_
              repeat (first
                | go_big_quiet_step (first | with_reducible exact Q1.out _ _ | with_reducible exact Q2.out _ _)
                | quiet_step (first | with_reducible exact Q1.out _ _ | with_reducible exact Q2.out _ _))
              refine wpQuiet_nil ?_
              intro _ hw'
              obtain ⟨⟨dq, osq⟩, hw''⟩ := hw'
              subst hw''
              have HBQ := Lib.hid (HBEL.out dq osq)
              clear x0 x1 x2 x3 x4 x5 x6 HBEL
              generalize grow (redrawn w2 dq) osq = w3 at HBQ ⊢
              have hgw := HG0.out w3 HBQ.out
              have hk2 : k + 2 ≤ n := by have := begB_pos HVB.out.symm; rw [List.length_drop] at this; have := HN.out; omega
              go_wp2
              go_roundw
              case rel => exact ⟨k + 2, by go_num, by omega, by have := HRD.out; simpa using this, HBQ.out⟩
              case measure => simp [intOf]; omega

    · have hki : ¬ (k : Int) < n := by omega
      obtain rfl : k = n := by omega
      go_wp2
      go_ret
      exact ⟨ret_bool (by have := HRK.out; rw [List.drop_eq_nil_of_le (by have := HN.out; omega)] at this; exact this), HBE.out⟩
end Go.Proofs.YtaijiapolippaaaDoor
