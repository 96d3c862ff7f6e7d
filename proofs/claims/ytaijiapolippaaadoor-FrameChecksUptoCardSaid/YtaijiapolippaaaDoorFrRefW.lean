/-
  Walks: the document's whole: may a row be?
-/
import Derived.Test.YtaijiapolippaaaDoorFrCheck
import Derived.Test.YtaijiapolippaaaDoorFrRefC
import Derived.Test.YtaijiapolippaaaDoorFrRefG
import Derived.Test.YtaijiapolippaaaDoorGfS
import Derived.Test.YtaijiapolippaaaDoorQuietB
import Derived.Test.YtaijiapolippaaaDoorGfG
namespace Go.Proofs.YtaijiapolippaaaDoor
open Go.RowKit Go.Sort
set_option linter.unusedVariables false
set_option linter.unusedSimpArgs false

/-- what the cell ahead asks of the next one -/
def opA (l : List Cl) : Nat → Option Sty
  | 0 => none
  | k + 1 => match l[k]? with
    | some d => if d.w = 2 then some d.y else none
    | none => none
theorem sty_guard : Tryd.prog.eqGuardType Tryd.prog.depth 121 = false := by kernel_rfl
theorem opA_ways {l : List Cl} {k : Nat} (h : k < l.length) : (k = 0 ∧ opA l k = none) ∨ (∃ (k' : Nat) (p : Cl), k = k' + 1 ∧ l[k']? = some p ∧ ((p.w ≠ 2 ∧ opA l k = none) ∨ (p.w = 2 ∧ opA l k = some p.y))) := by
  cases k with
  | zero => exact .inl ⟨rfl, rfl⟩
  | succ k =>
    right
    have hk : l[k]? = some l[k] := List.getElem?_eq_getElem (by omega)
    refine ⟨k, l[k], rfl, hk, ?_⟩
    have e : opA l (k + 1) = if l[k].w = 2 then some l[k].y else none := by simp only [opA, hk]
    rw [e]
    by_cases hw : l[k].w = 2
    · exact .inr ⟨hw, if_pos hw⟩
    · exact .inl ⟨hw, if_neg hw⟩
theorem opA_succ {l : List Cl} {k : Nat} {x : Cl} (h : l[k]? = some x) : opA l (k + 1) = if x.w = 2 then some x.y else none := by simp only [opA, h]
theorem empty_bytes {s : List UInt8} (h : s ≠ []) : ¬ (⟨s.toArray⟩ : ByteArray) = ⟨#[]⟩ := fun e => by
  injection e with e
  simp at e
  exact h e

theorem rwidth_l (s : List UInt8) (hs : s.length ≤ 2000000) (w : World) :
    Calls Tryd.prog 104 #[.string ⟨s.toArray⟩] w fun e w' => e = .returned (.int .i64 (fw (rs s))) ∧ Below w.heap.size w w' := rwidth_any ⟨s.toArray⟩ (by show s.toArray.size ≤ _; simpa using hs) w
set_option maxRecDepth 100000 in
set_option maxHeartbeats 16000000 in
theorem rwhole_any (l : List Cl) (n c B : Nat) (A : Option Addr) (w : World) (hn : n = l.length) (h5 : n ≤ 100000) (hs : ∀ x ∈ l, x.s.length ≤ 2000000) (hA : Sl w B A (rc l)) (hB : B ≤ w.heap.size) :
    Calls Tryd.prog 68 #[.slice A n c] w fun e w' => e = .returned (.bool (rowA none l)) ∧ Below w.heap.size w w' := by
  obtain ⟨R, hR⟩ : ∃ R, R = rowA none l := ⟨_, rfl⟩
  rw [← hR]
  have HR := Lib.hid hR
  have HN := Lib.hid hn
  have HS := Lib.hid hs
  have HA := Lib.hid (hA.more hB)
  clear hR hn hs hA
  go_enter Tryd.func68, Tryd.ntmps68
  go_wp2
  go_loopw [3] (fun i wr => ∃ k : Nat, i = .int .i64 k ∧ k ≤ n ∧ rowA (opA l k) (l.drop k) = R ∧ (∀ y, opA l k = some y → styB y = true ∧ k < n) ∧ Below w.heap.size w wr) (fun i _ => n - (intOf i).toNat)
  case atStart =>
    refine ⟨0, rfl, by omega, HR.out.symm, ?_, Below.refl _ _⟩
    intro y h
    cases h
  case round =>
    obtain ⟨k, rfl, hk, hrk, hop, hbel⟩ := hrel
    have HBE := Lib.hid hbel
    clear hbel
    by_cases hlt : k < n
    · have hki : (k : Int) < n := by omega
      have hkl : k < l.length := by have := HN.out; omega
      have hx : l[k]? = some l[k] := List.getElem?_eq_getElem hkl
      have hd : l.drop k = l[k] :: l.drop (k + 1) := List.drop_eq_getElem_cons hkl
      have hxs := HS.out _ (List.getElem_mem hkl)
      generalize l[k] = x at hx hd hxs
      obtain ⟨b, off, rfl, hbb, hcx⟩ := HA.out.open_ (by rw [rc_length]; omega)
      have hrg : wr.rangeAt b (off + k * 7) x.cells := fun j v hv => by
        rw [Nat.add_assoc]
        exact (HBE.out.cell (p := ⟨b, off + (k * 7 + j), none⟩) hbb).trans (hcx _ v (rc_get hx hv))
      have hways := opA_ways hkl
      have hsucc := opA_succ hx
      rw [hd] at hrk
      have hcel : ∀ (k' : Nat) (p : Cl), l[k']? = some p → ∀ j v, p.cells[j]? = some v → ∀ W, Below w.heap.size w W → W.cell? ⟨b, off + k' * 7 + j, none⟩ = some v := fun k' p hp j v hv W hW => by
        rw [Nat.add_assoc]
        exact (hW.cell (p := ⟨b, off + (k' * 7 + j), none⟩) hbb).trans (hcx _ v (rc_get hp hv))
      have HRG := Lib.hid hrg
      have HCEL := Lib.hid hcel
      have HN0 := Lib.hid (Blk.new wr 123 czero.cells)
      have HSUC := Lib.hid hsucc
      clear hx hd hcx hrg hbb hsucc hcel
      obtain ⟨s, m, ⟨yb, yu, yi, yf, yg⟩⟩ := x
      have QC := fun W => rcolours_any ⟨yb, yu, yi, yf, yg⟩ W
      obtain ⟨v0, hv0⟩ : ∃ v, v = styB ⟨yb, yu, yi, yf, yg⟩ := ⟨_, rfl⟩
      rw [← hv0] at QC
      have HRK := Lib.hid hrk
      have HOP := Lib.hid hop
      have HV0 := Lib.hid hv0
      simp only [Cl.cells] at HN0 HRG
      simp only [Sty.cells] at QC
      have QC := Lib.hid QC
      have hr5 : ∀ (W : World) (g : Nat), Blk W g 123 (Cl.cells ⟨s, m, ⟨yb, yu, yi, yf, yg⟩⟩) → W.rangeAt g 2 [.bool yb, .bool yu, .bool yi, .int .i64 yf, .int .i64 yg] := fun W g h => h.range 2 _ (fun j v hv => by
        have hj : j < 5 := (List.getElem?_eq_some_iff.1 hv).1
        match j, hj with
        | 0, _ => exact hv
        | 1, _ => exact hv
        | 2, _ => exact hv
        | 3, _ => exact hv
        | 4, _ => exact hv)
      have HR5 := Lib.hid hr5
      have QI := Lib.hid (fun W => ris_any s hxs W)
      have QW := Lib.hid (fun W => rwidth_l s hxs W)
      clear hrk hop hv0 hr5
      go_upto_region 5 with (first
        | ((with_reducible refine at_dst 15 ?_); refine wpList_load_mid rfl _ _ rfl b (off + k * 7) rfl _ _ HRG.out Tryd.underlying123 rfl cl_size ?_)
        | ((with_reducible refine at_store 4 ?_); refine wpList_store_blk rfl _ _ _ rfl rfl wr.heap.size 0 _ _ (Cl.cells ⟨s, m, ⟨yb, yu, yi, yf, yg⟩⟩) rfl rfl HN0.out (by simp [Cl.len]) cl_size (Cl.one _) ?_; intro w2 hn2 hg2))
      have hn3 : Blk w2 wr.heap.size 123 (Cl.cells ⟨s, m, ⟨yb, yu, yi, yf, yg⟩⟩) := hn2
      have hb2 : Below w.heap.size w w2 := HBE.out.trans ((((Below.refl _ wr).alloc (Nat.le_refl _) _).grown hg2 (by simp) (fun j hj => by injection hj with hj; omega)).mono HBE.out.size)
      have HN3 := Lib.hid hn3
      have HB2 := Lib.hid hb2
      clear hn2 hg2 hn3 hb2
      cases v0
      · have hfin : R = false := by
          have h := HRK.out
          have hs0 := HV0.out
          generalize opA l k = P at h HOP
          cases P with
          | none =>
            simp only [rowA] at h
            have : cellOk ⟨s, m, ⟨yb, yu, yi, yf, yg⟩⟩ = false := by unfold cellOk; simp only; rw [← hs0]; rfl
            rw [this] at h
            exact h.symm
          | some y =>
            simp only [rowA] at h
            rw [decide_eq_false (fun e => by
              have := (HOP.out y rfl).1
              rw [← (show (⟨yb, yu, yi, yf, yg⟩ : Sty) = y from by injection e), ← hs0] at this
              cases this)] at h
            exact h.symm
        have HF := Lib.hid hfin
        clear hfin hways
        go_wp2_with (first
          | ((with_reducible refine at_dst 17 ?_); refine wpList_load_mid rfl _ _ rfl wr.heap.size 2 rfl _ _ (HR5.out _ _ HN3.out) Tryd.underlying121 rfl sty_size ?_)
          | (go_at_call 102; refine (QC.out _).mono ?_; rintro e w3 ⟨rfl, hb3⟩))
        go_ret
        exact ⟨by rw [HF.out]; rfl, HB2.out.trans (hb3.mono HB2.out.size)⟩
      · have HST : Hid (styB ⟨yb, yu, yi, yf, yg⟩ = true) := Lib.hid HV0.out.symm
        go_upto_region 7 with (first
          | ((with_reducible refine at_dst 17 ?_); refine wpList_load_mid rfl _ _ rfl wr.heap.size 2 rfl _ _ (HR5.out _ _ HN3.out) Tryd.underlying121 rfl sty_size ?_)
          | (go_at_call 102; refine (QC.out _).mono ?_; rintro e w3 ⟨rfl, hb3⟩))
        have HN4 := Lib.hid (HN3.out.below hb3 HN3.out.lt)
        have HB3 := Lib.hid (HB2.out.trans (hb3.mono HB2.out.size))
        clear hb3
        rcases hways with ⟨hk0, hp⟩ | ⟨k', p, hkk, hpk, ⟨hw, hp⟩ | ⟨hw, hp⟩⟩
        · have hk0' : ¬ (0 : Int) < (k : Int) := by omega
          go_upto_region 11 with (fail)
          have hrk := HRK.out
          rw [hp] at hrk
          simp only [rowA, cellOk] at hrk
          rw [HST.out] at hrk
          simp only [Bool.true_and] at hrk
          have x0 := cell_regrown (HN4.out.cell 0)
          have x1 := cell_regrown (HN4.out.cell 1)
          simp only [Cl.cells, List.getElem?_cons_zero, List.getElem?_cons_succ] at x0 x1
          have Q1 := fun d os => Calls.regrown_of (QI.out (grow (redrawn w3 d) os))
          have Q2 := fun d os => Calls.regrown_of (QW.out (grow (redrawn w3 d) os))
          generalize isC s = v2 at Q1 hrk
          generalize fw (rs s) = v3 at Q2 hrk
          have Q1 := Lib.hid Q1
          have Q2 := Lib.hid Q2
          cases v2
          case' false =>
            have HF := Lib.hid (show R = false by rw [← hrk]; rfl)
            clear hrk
            refine region_below0 (by kernel_rfl) (by kernel_rfl) ?_
            repeat (first
              | go_big_quiet_step (first | with_reducible exact Q1.out _ _ | with_reducible exact Q2.out _ _)
              | quiet_step (first | with_reducible exact Q1.out _ _ | with_reducible exact Q2.out _ _))
            refine wpQuiet_nil ?_
            intro _ hw'
            obtain ⟨⟨dq, osq⟩, hw''⟩ := hw'
            subst hw''
            have HBQ := Lib.hid (HB3.out.trans ((below_regrown w3 dq osq).mono HB3.out.size))
            clear x0 x1
            generalize grow (redrawn w3 dq) osq = w4 at HBQ ⊢
            go_wp2
            go_ret
            exact ⟨by rw [HF.out]; rfl, HBQ.out⟩
          by_cases hm : m = v3
          case neg =>
            have HF := Lib.hid (show R = false by rw [← hrk, decide_eq_false hm]; rfl)
            clear hrk
            refine region_below0 (by kernel_rfl) (by kernel_rfl) ?_
            repeat (first
              | go_big_quiet_step (first | with_reducible exact Q1.out _ _ | with_reducible exact Q2.out _ _)
              | quiet_step (first | with_reducible exact Q1.out _ _ | with_reducible exact Q2.out _ _))
            refine wpQuiet_nil ?_
            intro _ hw'
            obtain ⟨⟨dq, osq⟩, hw''⟩ := hw'
            subst hw''
            have HBQ := Lib.hid (HB3.out.trans ((below_regrown w3 dq osq).mono HB3.out.size))
            clear x0 x1
            generalize grow (redrawn w3 dq) osq = w4 at HBQ ⊢
            go_wp2
            go_ret
            exact ⟨by rw [HF.out]; rfl, HBQ.out⟩
          rw [decide_eq_true hm] at hrk
          subst hm
          simp only [Bool.true_and] at hrk
          by_cases hm2 : m = 2
          case neg =>
            rw [if_neg hm2] at hrk
            have hsu := HSUC.out
            rw [if_neg hm2] at hsu
            have HSU := Lib.hid hsu
            have HRN := Lib.hid hrk
            clear hrk hsu
            refine region_below0 (by kernel_rfl) (by kernel_rfl) ?_
            repeat (first
              | go_big_quiet_step (first | with_reducible exact Q1.out _ _ | with_reducible exact Q2.out _ _)
              | quiet_step (first | with_reducible exact Q1.out _ _ | with_reducible exact Q2.out _ _))
            refine wpQuiet_nil ?_
            intro _ hw'
            obtain ⟨⟨dq, osq⟩, hw''⟩ := hw'
            subst hw''
            have HBQ := Lib.hid (HB3.out.trans ((below_regrown w3 dq osq).mono HB3.out.size))
            clear x0 x1
            generalize grow (redrawn w3 dq) osq = w4 at HBQ ⊢
            go_wp2
            go_roundw
            case rel => exact ⟨k + 1, by go_num, by omega, by rw [HSU.out]; exact HRN.out, (fun y h => by rw [HSU.out] at h; cases h), HBQ.out⟩
            case measure => simp [intOf]; omega
          rw [if_pos hm2] at hrk
          subst hm2
          by_cases hkn : (k : Int) = (n : Int) - 1
          case pos =>
            rw [List.drop_eq_nil_of_le (by have := HN.out; omega)] at hrk
            have HF := Lib.hid (show R = false by rw [← hrk]; rfl)
            clear hrk
            refine region_below0 (by kernel_rfl) (by kernel_rfl) ?_
            repeat (first
              | go_big_quiet_step (first | with_reducible exact Q1.out _ _ | with_reducible exact Q2.out _ _)
              | quiet_step (first | with_reducible exact Q1.out _ _ | with_reducible exact Q2.out _ _))
            refine wpQuiet_nil ?_
            intro _ hw'
            obtain ⟨⟨dq, osq⟩, hw''⟩ := hw'
            subst hw''
            have HBQ := Lib.hid (HB3.out.trans ((below_regrown w3 dq osq).mono HB3.out.size))
            clear x0 x1
            generalize grow (redrawn w3 dq) osq = w4 at HBQ ⊢
            go_wp2
            go_ret
            exact ⟨by rw [HF.out]; rfl, HBQ.out⟩
          have hsu := HSUC.out
          rw [if_pos rfl] at hsu
          have HSU := Lib.hid hsu
          have HRN := Lib.hid hrk
          clear hrk hsu
          refine region_below0 (by kernel_rfl) (by kernel_rfl) ?_
          repeat (first
            | go_big_quiet_step (first | with_reducible exact Q1.out _ _ | with_reducible exact Q2.out _ _)
            | quiet_step (first | with_reducible exact Q1.out _ _ | with_reducible exact Q2.out _ _))
          refine wpQuiet_nil ?_
          intro _ hw'
          obtain ⟨⟨dq, osq⟩, hw''⟩ := hw'
          subst hw''
          have HBQ := Lib.hid (HB3.out.trans ((below_regrown w3 dq osq).mono HB3.out.size))
          clear x0 x1
          generalize grow (redrawn w3 dq) osq = w4 at HBQ ⊢
          go_wp2
          go_roundw
          case rel => exact ⟨k + 1, by go_num, by omega, by rw [HSU.out]; exact HRN.out, fun y h => by rw [HSU.out] at h; obtain rfl := Option.some.inj h; exact ⟨HST.out, by omega⟩, HBQ.out⟩
          case measure => simp [intOf]; omega
        · have e5 : (0 : Int) < (k : Int) := by omega
          have e1 : IntKind.i64.wrap ((k : Int) - 1) = (k' : Int) := by rw [i64w (by omega) (by omega)]; omega
          have e2 : (k' : Int) < n := by omega
          have y1 : w3.cell? ⟨b, off + k' * 7 + 1, none⟩ = some (.int .i64 p.w) := HCEL.out k' p hpk 1 _ rfl w3 HB3.out
          go_upto_region 11 with (fail)
          clear e5 e1 e2 y1
          have hrk := HRK.out
          rw [hp] at hrk
          simp only [rowA, cellOk] at hrk
          rw [HST.out] at hrk
          simp only [Bool.true_and] at hrk
          have x0 := cell_regrown (HN4.out.cell 0)
          have x1 := cell_regrown (HN4.out.cell 1)
          simp only [Cl.cells, List.getElem?_cons_zero, List.getElem?_cons_succ] at x0 x1
          have Q1 := fun d os => Calls.regrown_of (QI.out (grow (redrawn w3 d) os))
          have Q2 := fun d os => Calls.regrown_of (QW.out (grow (redrawn w3 d) os))
          generalize isC s = v2 at Q1 hrk
          generalize fw (rs s) = v3 at Q2 hrk
          have Q1 := Lib.hid Q1
          have Q2 := Lib.hid Q2
          cases v2
          case' false =>
            have HF := Lib.hid (show R = false by rw [← hrk]; rfl)
            clear hrk
            refine region_below0 (by kernel_rfl) (by kernel_rfl) ?_
            repeat (first
              | go_big_quiet_step (first | with_reducible exact Q1.out _ _ | with_reducible exact Q2.out _ _)
              | quiet_step (first | with_reducible exact Q1.out _ _ | with_reducible exact Q2.out _ _))
            refine wpQuiet_nil ?_
            intro _ hw'
            obtain ⟨⟨dq, osq⟩, hw''⟩ := hw'
            subst hw''
            have HBQ := Lib.hid (HB3.out.trans ((below_regrown w3 dq osq).mono HB3.out.size))
            clear x0 x1
            generalize grow (redrawn w3 dq) osq = w4 at HBQ ⊢
            go_wp2
            go_ret
            exact ⟨by rw [HF.out]; rfl, HBQ.out⟩
          by_cases hm : m = v3
          case neg =>
            have HF := Lib.hid (show R = false by rw [← hrk, decide_eq_false hm]; rfl)
            clear hrk
            refine region_below0 (by kernel_rfl) (by kernel_rfl) ?_
            repeat (first
              | go_big_quiet_step (first | with_reducible exact Q1.out _ _ | with_reducible exact Q2.out _ _)
              | quiet_step (first | with_reducible exact Q1.out _ _ | with_reducible exact Q2.out _ _))
            refine wpQuiet_nil ?_
            intro _ hw'
            obtain ⟨⟨dq, osq⟩, hw''⟩ := hw'
            subst hw''
            have HBQ := Lib.hid (HB3.out.trans ((below_regrown w3 dq osq).mono HB3.out.size))
            clear x0 x1
            generalize grow (redrawn w3 dq) osq = w4 at HBQ ⊢
            go_wp2
            go_ret
            exact ⟨by rw [HF.out]; rfl, HBQ.out⟩
          rw [decide_eq_true hm] at hrk
          subst hm
          simp only [Bool.true_and] at hrk
          by_cases hm2 : m = 2
          case neg =>
            rw [if_neg hm2] at hrk
            have hsu := HSUC.out
            rw [if_neg hm2] at hsu
            have HSU := Lib.hid hsu
            have HRN := Lib.hid hrk
            clear hrk hsu
            refine region_below0 (by kernel_rfl) (by kernel_rfl) ?_
            repeat (first
              | go_big_quiet_step (first | with_reducible exact Q1.out _ _ | with_reducible exact Q2.out _ _)
              | quiet_step (first | with_reducible exact Q1.out _ _ | with_reducible exact Q2.out _ _))
            refine wpQuiet_nil ?_
            intro _ hw'
            obtain ⟨⟨dq, osq⟩, hw''⟩ := hw'
            subst hw''
            have HBQ := Lib.hid (HB3.out.trans ((below_regrown w3 dq osq).mono HB3.out.size))
            clear x0 x1
            generalize grow (redrawn w3 dq) osq = w4 at HBQ ⊢
            go_wp2
            go_roundw
            case rel => exact ⟨k + 1, by go_num, by omega, by rw [HSU.out]; exact HRN.out, (fun y h => by rw [HSU.out] at h; cases h), HBQ.out⟩
            case measure => simp [intOf]; omega
          rw [if_pos hm2] at hrk
          subst hm2
          by_cases hkn : (k : Int) = (n : Int) - 1
          case pos =>
            rw [List.drop_eq_nil_of_le (by have := HN.out; omega)] at hrk
            have HF := Lib.hid (show R = false by rw [← hrk]; rfl)
            clear hrk
            refine region_below0 (by kernel_rfl) (by kernel_rfl) ?_
            repeat (first
              | go_big_quiet_step (first | with_reducible exact Q1.out _ _ | with_reducible exact Q2.out _ _)
              | quiet_step (first | with_reducible exact Q1.out _ _ | with_reducible exact Q2.out _ _))
            refine wpQuiet_nil ?_
            intro _ hw'
            obtain ⟨⟨dq, osq⟩, hw''⟩ := hw'
            subst hw''
            have HBQ := Lib.hid (HB3.out.trans ((below_regrown w3 dq osq).mono HB3.out.size))
            clear x0 x1
            generalize grow (redrawn w3 dq) osq = w4 at HBQ ⊢
            go_wp2
            go_ret
            exact ⟨by rw [HF.out]; rfl, HBQ.out⟩
          have hsu := HSUC.out
          rw [if_pos rfl] at hsu
          have HSU := Lib.hid hsu
          have HRN := Lib.hid hrk
          clear hrk hsu
          refine region_below0 (by kernel_rfl) (by kernel_rfl) ?_
          repeat (first
            | go_big_quiet_step (first | with_reducible exact Q1.out _ _ | with_reducible exact Q2.out _ _)
            | quiet_step (first | with_reducible exact Q1.out _ _ | with_reducible exact Q2.out _ _))
          refine wpQuiet_nil ?_
          intro _ hw'
          obtain ⟨⟨dq, osq⟩, hw''⟩ := hw'
          subst hw''
          have HBQ := Lib.hid (HB3.out.trans ((below_regrown w3 dq osq).mono HB3.out.size))
          clear x0 x1
          generalize grow (redrawn w3 dq) osq = w4 at HBQ ⊢
          go_wp2
          go_roundw
          case rel => exact ⟨k + 1, by go_num, by omega, by rw [HSU.out]; exact HRN.out, fun y h => by rw [HSU.out] at h; obtain rfl := Option.some.inj h; exact ⟨HST.out, by omega⟩, HBQ.out⟩
          case measure => simp [intOf]; omega
        · have e5 : (0 : Int) < (k : Int) := by omega
          have e1 : IntKind.i64.wrap ((k : Int) - 1) = (k' : Int) := by rw [i64w (by omega) (by omega)]; omega
          have e2 : (k' : Int) < n := by omega
          have y1 : w3.cell? ⟨b, off + k' * 7 + 1, none⟩ = some (.int .i64 p.w) := HCEL.out k' p hpk 1 _ rfl w3 HB3.out
          rw [hw] at y1
          go_upto_region 9 with (fail)
          have x0 := cell_regrown (HN4.out.cell 0)
          have x1 := cell_regrown (HN4.out.cell 1)
          have x2 := cell_regrown (HN4.out.cell 2)
          have x3 := cell_regrown (HN4.out.cell 3)
          have x4 := cell_regrown (HN4.out.cell 4)
          have x5 := cell_regrown (HN4.out.cell 5)
          have x6 := cell_regrown (HN4.out.cell 6)
          simp only [Cl.cells, List.getElem?_cons_zero, List.getElem?_cons_succ] at x0 x1 x2 x3 x4 x5 x6
          have z2 := cell_regrown (HCEL.out k' p hpk 2 _ rfl w3 HB3.out)
          have z3 := cell_regrown (HCEL.out k' p hpk 3 _ rfl w3 HB3.out)
          have z4 := cell_regrown (HCEL.out k' p hpk 4 _ rfl w3 HB3.out)
          have z5 := cell_regrown (HCEL.out k' p hpk 5 _ rfl w3 HB3.out)
          have z6 := cell_regrown (HCEL.out k' p hpk 6 _ rfl w3 HB3.out)
          have hrk := HRK.out
          rw [hp] at hrk
          simp only [rowA] at hrk
          have hq := fun w => run_eq_sty 9998 yb yu yi p.y.b p.y.u p.y.i yf yg p.y.f p.y.g w
          simp only [Nat.reduceAdd] at hq
          have hg := sty_guard
          have het : decide ((⟨s, m, ⟨yb, yu, yi, yf, yg⟩⟩ : Cl) = tail_ p.y) = (decide (s = []) && (decide (m = 0) && decide (yb = p.y.b ∧ yu = p.y.u ∧ yi = p.y.i ∧ yf = p.y.f ∧ yg = p.y.g))) := by
            rw [Bool.eq_iff_iff]
            obtain ⟨ps, pw, ⟨pb, pu, pi, pf, pg⟩⟩ := p
            simp [tail_]
          rw [het] at hrk
          generalize decide (yb = p.y.b ∧ yu = p.y.u ∧ yi = p.y.i ∧ yf = p.y.f ∧ yg = p.y.g) = v4 at hq hrk
          clear het y1
          by_cases hs0 : s = []
          case neg =>
            have hs1 := empty_bytes hs0
            have HF := Lib.hid (show R = false by rw [← hrk, decide_eq_false hs0]; rfl)
            clear hrk
            refine region_below0 (by kernel_rfl) (by kernel_rfl) ?_
            repeat (first
              | go_big_quiet_step (fail)
              | quiet_step (fail))
            refine wpQuiet_nil ?_
            intro _ hw'
            obtain ⟨⟨dq, osq⟩, hw''⟩ := hw'
            subst hw''
            have HBQ := Lib.hid (HB3.out.trans ((below_regrown w3 dq osq).mono HB3.out.size))
            clear x0 x1 x2 x3 x4 x5 x6 z2 z3 z4 z5 z6
            generalize grow (redrawn w3 dq) osq = w4 at HBQ ⊢
            go_wp2
            go_ret
            exact ⟨by rw [HF.out]; rfl, HBQ.out⟩
          subst hs0
          by_cases hm0 : m = 0
          case neg =>
            have HF := Lib.hid (show R = false by rw [← hrk, decide_eq_false hm0]; simp)
            clear hrk
            refine region_below0 (by kernel_rfl) (by kernel_rfl) ?_
            repeat (first
              | go_big_quiet_step (fail)
              | quiet_step (fail))
            refine wpQuiet_nil ?_
            intro _ hw'
            obtain ⟨⟨dq, osq⟩, hw''⟩ := hw'
            subst hw''
            have HBQ := Lib.hid (HB3.out.trans ((below_regrown w3 dq osq).mono HB3.out.size))
            clear x0 x1 x2 x3 x4 x5 x6 z2 z3 z4 z5 z6
            generalize grow (redrawn w3 dq) osq = w4 at HBQ ⊢
            go_wp2
            go_ret
            exact ⟨by rw [HF.out]; rfl, HBQ.out⟩
          subst hm0
          simp only [decide_true, Bool.true_and] at hrk
          cases v4
          · have HF := Lib.hid (show R = false by rw [← hrk]; rfl)
            clear hrk
            refine region_below0 (by kernel_rfl) (by kernel_rfl) ?_
            repeat (first
              | go_big_quiet_step (fail)
              | quiet_step (fail))
            refine wpQuiet_nil ?_
            intro _ hw'
            obtain ⟨⟨dq, osq⟩, hw''⟩ := hw'
            subst hw''
            have HBQ := Lib.hid (HB3.out.trans ((below_regrown w3 dq osq).mono HB3.out.size))
            clear x0 x1 x2 x3 x4 x5 x6 z2 z3 z4 z5 z6
            generalize grow (redrawn w3 dq) osq = w4 at HBQ ⊢
            go_wp2
            go_ret
            exact ⟨by rw [HF.out]; rfl, HBQ.out⟩
          · have hsu := HSUC.out
            rw [if_neg (by omega)] at hsu
            have HSU := Lib.hid hsu
            have HRN := Lib.hid (show rowA none (l.drop (k + 1)) = R by rw [← hrk]; simp)
            clear hrk hsu
            refine region_below0 (by kernel_rfl) (by kernel_rfl) ?_
            repeat (first
              | go_big_quiet_step (fail)
              | quiet_step (fail))
            refine wpQuiet_nil ?_
            intro _ hw'
            obtain ⟨⟨dq, osq⟩, hw''⟩ := hw'
            subst hw''
            have HBQ := Lib.hid (HB3.out.trans ((below_regrown w3 dq osq).mono HB3.out.size))
            clear x0 x1 x2 x3 x4 x5 x6 z2 z3 z4 z5 z6
            generalize grow (redrawn w3 dq) osq = w4 at HBQ ⊢
            go_wp2
            go_roundw
            case rel => exact ⟨k + 1, by go_num, by omega, by rw [HSU.out]; exact HRN.out, (fun y h => by rw [HSU.out] at h; cases h), HBQ.out⟩
            case measure => simp [intOf]; omega
    · have hki : ¬ (k : Int) < n := by omega
      have hR : R = true := by
        rw [List.drop_eq_nil_of_le (by have := HN.out; omega)] at hrk
        cases hP : opA l k with
        | none => rw [hP] at hrk; rw [← hrk]; rfl
        | some y => have := (hop y hP).2; omega
      go_wp2
      go_ret
      exact ⟨rfl, HBE.out⟩
end Go.Proofs.YtaijiapolippaaaDoor
