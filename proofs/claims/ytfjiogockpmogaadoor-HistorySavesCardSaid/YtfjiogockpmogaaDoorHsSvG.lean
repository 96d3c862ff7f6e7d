/-
  Walk: Load of the document.
-/
import Derived.Test.YtfjiogockpmogaaDoorHsSvF
import Derived.Test.YtfjiogockpmogaaDoorHsSvL
import Derived.Test.YtfjiogockpmogaaDoorHsStep
import Derived.Test.YtfjiogockpmogaaDoorRegK2
import Derived.Test.YtfjiogockpmogaaDoorHsNewer
namespace Go.Proofs.YtfjiogockpmogaaDoor
open Go.RowKit Go.Shelf Go.Sort
set_option linter.unusedVariables false
set_option linter.unusedSimpArgs false
set_option maxRecDepth 100000

section
variable {P : Program} {ops : Array Oper} {Q : Exit → Act → World → Prop}
/-- A single append as one step, its run known. -/
theorem step_appK {o : Oper} {a : Act} {w : World} {K : Act → World → Prop} {E : Prop} (hgd : o.guard = none) (T U : TypeId) (s x : Operand)
    (ho : o.op = .call { callee := .builtin .append, args := #[s, x], argTypes := #[T, U] }) (vs vx v' : Value) (w' : World) (hs : a.eval s = vs) (hx : a.eval x = vx)
    (hrun : (Builtin.append_ #[T, U] o.type #[vs, vx]).run P w = .ok v' w') (h : K (a.put o.dst v') w') : if Region.wanted o (yielded ops a.tmps) = true then Oper.wp P o a w K Q else E := by
  have hw : Region.wanted o (yielded ops a.tmps) = true := by simp [Region.wanted, hgd]
  rw [if_pos hw]
  have hr : (execOp a.eval o).run P w = .ok (.value v') w' := by
    simp [execOp, ho, resolve, invoke, builtin, hs, hx, hrun, Result.andThen]
  unfold Oper.wp
  rw [hr]
  exact h
end
theorem nodup_snocH (M : List (List UInt8)) (x : List UInt8) : (M ++ [x]).Nodup ↔ M.Nodup ∧ x ∉ M := by
  rw [List.nodup_append]
  constructor
  · rintro ⟨h1, _, h3⟩
    exact ⟨h1, fun h => h3 x h x (by simp) rfl⟩
  · rintro ⟨h1, h2⟩
    exact ⟨h1, by simp, fun a ha b hb e => by simp at hb; subst hb; subst e; exact h2 ha⟩
theorem placeV_ge (L : List (List UInt8)) (s : List UInt8) : 0 ≤ placeV L s ↔ s ∈ L := by
  unfold placeV
  cases h : L.findIdx? (· == s) with
  | none =>
    rw [List.findIdx?_eq_none_iff] at h
    simp only
    constructor
    · intro h1; omega
    · intro h1; have := h s h1; simp at this
  | some i =>
    rw [List.findIdx?_eq_some_iff_getElem] at h
    obtain ⟨hi, he, _⟩ := h
    simp only
    constructor
    · intro _; have h2 : L[i] = s := by simpa using he
      rw [← h2]; exact List.getElem_mem _
    · intro _; omega
/-- stands a line twice? -/
def twB (M : List (List UInt8)) : Bool := !decide M.Nodup
theorem twB_snoc (M : List (List UInt8)) (x : List UInt8) : twB (M ++ [x]) = (twB M || decide (0 ≤ placeV M x)) := by
  unfold twB
  rw [Bool.eq_iff_iff]
  simp only [Bool.not_eq_true', decide_eq_false_iff_not, Bool.or_eq_true, decide_eq_true_eq]
  rw [nodup_snocH, placeV_ge]
  by_cases h : M.Nodup <;> by_cases h2 : x ∈ M <;> simp [h, h2]
/-- What the document's Load comes to. -/
def RLoadP (w : World) (most : Int) (s : List UInt8) (e : Ending) (w' : World) : Prop :=
  (ldC most s ≠ 0 ∧ e = .returned (.tuple #[.agg (rvC 0 none 0 0 none).toArray, .int .i64 (ldC most s)]) ∧ Below w.heap.size w w') ∨
  (ldC most s = 0 ∧ (∃ A n c, e = .returned (.tuple #[.agg (rvC most.toNat A n c none).toArray, .int .i64 0]) ∧ n = (lnsOf s).reverse.length ∧ Sl w' w'.heap.size A (sv (lnsOf s).reverse) ∧ n ≤ c ∧ ∀ k, blk A = some k → w.heap.size ≤ k ∧ k < w'.heap.size) ∧ Below w.heap.size w w')
def SBelG (k : Nat) (a b : World) : Prop := Below k a b
set_option maxHeartbeats 8000000 in
theorem rload_no (most : Int) (hm : ¬ (1 ≤ most ∧ most ≤ 256)) (s : List UInt8) (w : World) :
    Calls Tryd.prog 20 #[.int .i64 most, .string ⟨s.toArray⟩] w (RLoadP w most s) := by
  have HLD : Hid (ldC most s = 140) := Lib.hid (by unfold ldC; rw [if_pos hm])
  have HN := Lib.hid (fun V => rhnew_no most hm V)
  clear hm
  have z4 := Blk.new w 29 [.int .i64 0, .slice none 0 0, .bool false, .string ⟨#[]⟩, .string ⟨#[]⟩, .int .i64 0]
  have hb1 : Below w.heap.size w (w.alloc (.cells #[.int .i64 0, .slice none 0 0, .bool false, .string ⟨#[]⟩, .string ⟨#[]⟩, .int .i64 0] 29)) := (Below.refl _ w).alloc (Nat.le_refl _) _
  go_enter Tryd.func20, Tryd.ntmps20
  go_upto_region 1 with (fail)
  generalize w.alloc (.cells #[.int .i64 0, .slice none 0 0, .bool false, .string ⟨#[]⟩, .string ⟨#[]⟩, .int .i64 0] 29) = w1 at *
  have hlt4 := Blk.lt z4
  have Z4 := Lib.hid z4
  have HB1 := Lib.hid hb1
  clear z4 hb1
  go_wp2_with (fail)
  refine (HN.out w1).mono ?_
  rintro e w2 ⟨rfl, hb2⟩
  have Z42 := Lib.hid (Blk.below Z4.out hb2 hlt4)
  have HB2 := Lib.hid (HB1.out.trans (hb2.mono HB1.out.size))
  have hz2 : w.heap.size < w2.heap.size := by have := hb2.size; omega
  clear hb2 Z4 HB1 hlt4
  go_upto_region 3 with ((with_reducible refine at_store 6 ?_); refine wpList_store_blk rfl _ _ _ rfl rfl w2.heap.size 0 _ [.int .i64 0, .slice none 0 0, .bool false, .string ⟨#[]⟩, .string ⟨#[]⟩, .int .i64 0] (rvC 0 none 0 0 none) rfl rfl (Blk.new w2 _ _) (by simp [rvC, rwC]) rh_size (rvC_one _ _ _ _ none) ?_; intro w3 hn3 hg3)
  have hc3 := chg_of_grown hg3
  have z6 : Blk w3 w2.heap.size 29 [.int .i64 0, .slice none 0 0, .bool false, .string ⟨#[]⟩, .string ⟨#[]⟩, .int .i64 0] := hn3
  have hb3 : Below w2.heap.size w2 w3 := ((Below.refl _ w2).alloc (Nat.le_refl _) _).trans (hc3.below (by simp) (fun j hj => by unfold one at hj; omega))
  have Z43 := Lib.hid (Blk.below Z42.out hb3 hz2)
  have HB3 := Lib.hid (HB2.out.trans (hb3.mono HB2.out.size))
  have d0 := z6.cell 0
  have d1 := z6.cell 1
  have d2 := z6.cell 2
  have d3 := z6.cell 3
  have d4 := z6.cell 4
  have d5 := z6.cell 5
  simp only [List.getElem?_cons_succ, List.getElem?_cons_zero] at d0 d1 d2 d3 d4 d5
  clear hn3 hg3 hc3 hb3 z6
  go_wp2_with ((with_reducible refine at_store 4 ?_); refine wpList_store_blk rfl _ _ _ rfl rfl w.heap.size 0 _ [.int .i64 0, .slice none 0 0, .bool false, .string ⟨#[]⟩, .string ⟨#[]⟩, .int .i64 0] (rvC 0 none 0 0 none) rfl rfl Z43.out (by simp [rvC, rwC]) rh_size (rvC_one _ _ _ _ none) ?_; intro w6 hn6 hg6)
  have hc6 := chg_of_grown hg6
  have hn7 : Blk w6 w.heap.size 29 (rvC 0 none 0 0 none) := hn6
  refine bodyPost_ret (v := .tuple #[.agg (rvC 0 none 0 0 none).toArray, .int .i64 140]) (hsres_ct rfl rfl rfl (hn7.range 0 _ (fun j v hv => by simpa using hv)) Tryd.underlying29 rfl rh_size) rfl ?_
  exact .inl ⟨by rw [HLD.out]; decide, by rw [HLD.out], HB3.out.trans (hc6.below HB3.out.size (fun j hj => by unfold one at hj; omega))⟩
set_option maxHeartbeats 16000000 in
theorem rload_ok (m : Nat) (h1 : 1 ≤ m) (h2 : m ≤ 256) (s : List UInt8) (hs : s.length ≤ 1000000) (hx : ∀ x ∈ pcs s, x.length ≤ 1000) (w : World) :
    Calls Tryd.prog 20 #[.int .i64 m, .string ⟨s.toArray⟩] w (RLoadP w m s) := by
  have HN := Lib.hid (fun V => rhnew_ok m h1 h2 V)
  have HL := Lib.hid (fun V => rlines14_any s hs V)
  have hcnt := lns_count s
  have HXL : Hid (∀ l ∈ lnsOf s, l.length ≤ 1000) := Lib.hid (fun l hl => by
    have h3 : l ++ [10] ∈ pcs s := by
      unfold pcs
      exact List.mem_append_left _ (List.mem_map.2 ⟨l, hl, rfl⟩)
    have h4 := hx _ h3
    rw [List.length_append, List.length_singleton] at h4
    omega)
  have HLDC : Hid (ldC m s = if okS s = false then 7 else if ¬ (lnsOf s).Nodup then 1 else if (m : Int) < (lnsOf s).length then 3 else 0) := Lib.hid (by unfold ldC; rw [if_neg (by omega)])
  clear hx
  have z4 := Blk.new w 29 [.int .i64 0, .slice none 0 0, .bool false, .string ⟨#[]⟩, .string ⟨#[]⟩, .int .i64 0]
  have hb1 : Below w.heap.size w (w.alloc (.cells #[.int .i64 0, .slice none 0 0, .bool false, .string ⟨#[]⟩, .string ⟨#[]⟩, .int .i64 0] 29)) := (Below.refl _ w).alloc (Nat.le_refl _) _
  go_enter Tryd.func20, Tryd.ntmps20
  go_upto_region 1 with (fail)
  generalize w.alloc (.cells #[.int .i64 0, .slice none 0 0, .bool false, .string ⟨#[]⟩, .string ⟨#[]⟩, .int .i64 0] 29) = w1 at *
  have hlt4 := Blk.lt z4
  have Z4 := Lib.hid z4
  have HB1 := Lib.hid hb1
  clear z4 hb1
  go_wp2_with (fail)
  refine (HN.out w1).mono ?_
  rintro e w2 ⟨rfl, hb2⟩
  have Z42 := Lib.hid (Blk.below Z4.out hb2 hlt4)
  have HB2 := Lib.hid (HB1.out.trans (hb2.mono HB1.out.size))
  have hz2 : w.heap.size < w2.heap.size := by have := hb2.size; omega
  clear hb2 Z4 HB1 hlt4
  go_upto_region 4 with ((with_reducible refine at_store 6 ?_); refine wpList_store_blk rfl _ _ _ rfl rfl w2.heap.size 0 _ [.int .i64 0, .slice none 0 0, .bool false, .string ⟨#[]⟩, .string ⟨#[]⟩, .int .i64 0] (rvC m none 0 0 none) rfl rfl (Blk.new w2 _ _) (by simp [rvC, rwC]) rh_size (rvC_one _ _ _ _ none) ?_; intro w3 hn3 hg3)
  have hc3 := chg_of_grown hg3
  have z6 : Blk w3 w2.heap.size 29 [.int .i64 m, .slice none 0 0, .bool false, .string ⟨#[]⟩, .string ⟨#[]⟩, .int .i64 0] := hn3
  have hb3 : Below w2.heap.size w2 w3 := ((Below.refl _ w2).alloc (Nat.le_refl _) _).trans (hc3.below (by simp) (fun j hj => by unfold one at hj; omega))
  have Z43 := Lib.hid (Blk.below Z42.out hb3 hz2)
  have HB3 := Lib.hid (HB2.out.trans (hb3.mono HB2.out.size))
  have Z63 := Lib.hid z6
  have hlt6 : w2.heap.size < w3.heap.size := Blk.lt z6
  obtain ⟨b6, hb6⟩ : ∃ b6, b6 = w2.heap.size := ⟨_, rfl⟩
  rw [← hb6] at Z63 hlt6 hz2 ⊢
  clear hn3 hg3 hc3 hb3 z6 Z42 HB2 hb6
  go_upto_region 5 with (go_at_call 42; refine (HL.out w3).mono ?_; rintro e w4 ⟨A0, c0, rfl, hor, hb4⟩; have HOR := Lib.hid hor; have HB34 := Lib.hid hb4; clear hor hb4)
  have Z44 := Lib.hid (Blk.below Z43.out HB34.out (by omega))
  have Z64 := Lib.hid (Blk.below Z63.out HB34.out hlt6)
  have HB4 := Lib.hid (HB3.out.trans (HB34.out.mono HB3.out.size))
  have HS4 := Lib.hid HOR.out.sl
  have HLT := Lib.hid (fun g hg => HOR.out.blk_lt g hg)
  have hz4 : b6 < w4.heap.size := by have := HB34.out.size; omega
  have HCP := Lib.hid HOR.out.capH
  have HOK : Hid (okS s = ((rstOf s).isEmpty && (lnsOf s).all okL)) := Lib.hid (by unfold okS; cases rstOf s <;> rfl)
  have HMAY : Hid (∀ x ∈ lnsOf s, ∀ V, Calls Tryd.prog 43 #[.string ⟨x.toArray⟩] V fun e w' => e = .returned (.bool (okL x)) ∧ Below V.heap.size V w') := Lib.hid (fun x hx V => rmay2_any x (HXL.out x hx) V)
  obtain ⟨M, hM⟩ : ∃ M, M = lnsOf s := ⟨_, rfl⟩
  obtain ⟨n, hn⟩ : ∃ n, n = M.length := ⟨_, rfl⟩
  have hn1 : n ≤ 1000000 := by rw [hn, hM]; omega
  obtain ⟨b0, hb0⟩ : ∃ b0, b0 = (rstOf s).isEmpty := ⟨_, rfl⟩
  rw [← hM] at HOR HS4 HMAY HOK HLDC HCP ⊢
  rw [← hn] at HOR HCP HLDC ⊢
  rw [← hb0] at HOK ⊢
  have HM := Lib.hid hM
  have HNN := Lib.hid hn
  have hnc : n ≤ c0 := HCP.out.1
  clear hM hn hb0 hcnt Z43 Z63 HB3 HOR HL HN HB34 HXL HCP
  go_wp2_with (fail)
  go_loopw [9, 10, 11] (fun v9 v10 v11 wr => ∃ k : Nat, v11 = .int .i64 k ∧ k ≤ n ∧ v9 = .bool (b0 && (M.take k).all okL) ∧ v10 = .bool (twB (M.take k)) ∧ Below w4.heap.size w4 wr) (fun _ _ v _ => n - (intOf v).toNat)
  case atStart => exact ⟨0, rfl, by omega, by simp, by simp [twB], Below.refl _ _⟩
  case round =>
    obtain ⟨k, rfl, hk, rfl, rfl, hbr⟩ := hrel
    have HBr := Lib.hid hbr
    clear hbr
    by_cases hlt : k < n
    · have hki : (k : Int) < n := by omega
      have hkl : k < M.length := by have := HNN.out; omega
      obtain ⟨bb, off, hA, hbb, hcell0⟩ := hs_at HS4.out (List.getElem?_eq_getElem hkl)
      subst hA
      have hcell := (HBr.out.cell (p := ⟨bb, off + k, none⟩) hbb).trans hcell0
      have hsn : M.take (k + 1) = M.take k ++ [M[k]] := by rw [List.take_add_one, List.getElem?_eq_getElem hkl]; rfl
      have hmem : M[k] ∈ M := List.getElem_mem _
      generalize M[k] = x at hcell hsn hmem
      have hv9 : (b0 && (M.take (k + 1)).all okL) = ((b0 && (M.take k).all okL) && okL x) := by rw [hsn, List.all_append]; simp [Bool.and_assoc]
      have hv10 : twB (M.take (k + 1)) = (twB (M.take k) || decide (0 ≤ placeV (M.take k) x)) := by rw [hsn, twB_snoc]
      have HV9 := Lib.hid hv9
      have HV10 := Lib.hid hv10
      have HMX := Lib.hid (HMAY.out x hmem)
      have HPL : Hid (∀ V, Below w4.heap.size w4 V → Calls Tryd.prog 44 #[.slice (some ⟨bb, off, none⟩) k c0, .string ⟨x.toArray⟩] V fun e w' => e = .returned (.int .i64 (placeV (M.take k) x)) ∧ V = w') := Lib.hid (fun V hV => rplace_any (M.take k) x _ k c0 (by rw [List.length_take]; omega) (by omega) V (by rw [← sv_take]; exact ((HS4.out.below hV).more hV.size).take k))
      have E := fun V => hsl_h (some ⟨bb, off, none⟩) n c0 k (by omega) V
      clear hcell0 hsn hv9 hv10 hmem hkl
      generalize placeV (M.take k) x = pv at *
      generalize twB (M.take k) = tw at *
      generalize (b0 && (M.take k).all okL) = ok at *
      generalize okL x = okx at *
      cases ok <;> cases tw
      · have HBW := Lib.hid HBr.out
        have hcW := hcell
        go_wp2_with (fail)
        have P1 := Lib.hid (fun dd os => Calls.regrown_of (show Calls Tryd.prog 44 #[.slice (some ⟨bb, off, none⟩) k c0, .string ⟨x.toArray⟩] (grow (redrawn wr dd) os) (fun e wx => e = .returned (.int .i64 pv) ∧ Below (grow (redrawn wr dd) os).heap.size (grow (redrawn wr dd) os) wx) from
          (HPL.out _ (HBW.out.trans ((below_regrown wr dd os).mono HBW.out.size))).mono (by rintro e wx ⟨rfl, rfl⟩; exact ⟨rfl, Below.refl _ _⟩)))
        have r1 := cell_regrown (w := wr) hcW
        refine region_below0 (by kernel_rfl) (by kernel_rfl) ?_
        repeat (first
          | go_big_quiet_step (exact P1.out _ _)
          | quiet_step (exact P1.out _ _))
        refine wpQuiet_nil ?_
        intro _ hw'
        obtain ⟨⟨dq, osq⟩, hw''⟩ := hw'
        subst hw''
        have HBQ := Lib.hid (HBW.out.trans ((below_regrown wr dq osq).mono HBW.out.size))
        clear r1 E hcW hcell
        generalize grow (redrawn wr dq) osq = w6 at *
        go_wp2_with (fail)
        go_roundw
        case rel => exact ⟨k + 1, by go_num, by omega, by rw [HV9.out]; first | rfl | simp, by rw [HV10.out]; first | rfl | simp, HBQ.out⟩
        case measure => simp [intOf]; omega
      · have HBW := Lib.hid HBr.out
        have hcW := hcell
        go_wp2_with (fail)
        refine region_below0 (by kernel_rfl) (by kernel_rfl) ?_
        repeat (first
          | go_big_quiet_step (fail)
          | quiet_step (fail))
        refine wpQuiet_nil ?_
        intro _ hw'
        obtain ⟨⟨dq, osq⟩, hw''⟩ := hw'
        subst hw''
        have HBQ := Lib.hid (HBW.out.trans ((below_regrown wr dq osq).mono HBW.out.size))
        clear E hcW hcell
        generalize grow (redrawn wr dq) osq = w6 at *
        go_wp2_with (fail)
        go_roundw
        case rel => exact ⟨k + 1, by go_num, by omega, by rw [HV9.out]; first | rfl | simp, by rw [HV10.out]; first | rfl | simp, HBQ.out⟩
        case measure => simp [intOf]; omega
      · go_wp2_with (go_at_call 43; refine (HMX.out wr).mono ?_; rintro e w5 ⟨rfl, hb5⟩)
        have HBW := Lib.hid (HBr.out.trans (hb5.mono HBr.out.size))
        have hcW := (hb5.cell (p := ⟨bb, off + k, none⟩) (by have := HBr.out.size; simp; omega)).trans hcell
        clear hb5
        have P1 := Lib.hid (fun dd os => Calls.regrown_of (show Calls Tryd.prog 44 #[.slice (some ⟨bb, off, none⟩) k c0, .string ⟨x.toArray⟩] (grow (redrawn w5 dd) os) (fun e wx => e = .returned (.int .i64 pv) ∧ Below (grow (redrawn w5 dd) os).heap.size (grow (redrawn w5 dd) os) wx) from
          (HPL.out _ (HBW.out.trans ((below_regrown w5 dd os).mono HBW.out.size))).mono (by rintro e wx ⟨rfl, rfl⟩; exact ⟨rfl, Below.refl _ _⟩)))
        have r1 := cell_regrown (w := w5) hcW
        refine region_below0 (by kernel_rfl) (by kernel_rfl) ?_
        repeat (first
          | go_big_quiet_step (exact P1.out _ _)
          | quiet_step (exact P1.out _ _))
        refine wpQuiet_nil ?_
        intro _ hw'
        obtain ⟨⟨dq, osq⟩, hw''⟩ := hw'
        subst hw''
        have HBQ := Lib.hid (HBW.out.trans ((below_regrown w5 dq osq).mono HBW.out.size))
        clear r1 E hcW hcell
        generalize grow (redrawn w5 dq) osq = w6 at *
        go_wp2_with (fail)
        go_roundw
        case rel => exact ⟨k + 1, by go_num, by omega, by rw [HV9.out]; first | rfl | simp, by rw [HV10.out]; first | rfl | simp, HBQ.out⟩
        case measure => simp [intOf]; omega
      · go_wp2_with (go_at_call 43; refine (HMX.out wr).mono ?_; rintro e w5 ⟨rfl, hb5⟩)
        have HBW := Lib.hid (HBr.out.trans (hb5.mono HBr.out.size))
        have hcW := (hb5.cell (p := ⟨bb, off + k, none⟩) (by have := HBr.out.size; simp; omega)).trans hcell
        clear hb5
        refine region_below0 (by kernel_rfl) (by kernel_rfl) ?_
        repeat (first
          | go_big_quiet_step (fail)
          | quiet_step (fail))
        refine wpQuiet_nil ?_
        intro _ hw'
        obtain ⟨⟨dq, osq⟩, hw''⟩ := hw'
        subst hw''
        have HBQ := Lib.hid (HBW.out.trans ((below_regrown w5 dq osq).mono HBW.out.size))
        clear E hcW hcell
        generalize grow (redrawn w5 dq) osq = w6 at *
        go_wp2_with (fail)
        go_roundw
        case rel => exact ⟨k + 1, by go_num, by omega, by rw [HV9.out]; first | rfl | simp, by rw [HV10.out]; first | rfl | simp, HBQ.out⟩
        case measure => simp [intOf]; omega
    · have ek : k = n := by omega
      subst ek
      have hki : ¬ (k : Int) < k := by omega
      have e : M.take k = M := List.take_of_length_le (by have := HNN.out; omega)
      rw [e]
      clear e
      obtain ⟨n, hnk⟩ : ∃ n, n = k := ⟨_, rfl⟩
      subst hnk
      have HTW : Hid (twB M = true ↔ ¬ M.Nodup) := Lib.hid (by unfold twB; simp)
      have Z4r := Lib.hid (Blk.below Z44.out HBr.out (by omega))
      have HBR := Lib.hid (HB4.out.trans (HBr.out.mono HB4.out.size))
      generalize twB M = tw at *
      generalize (b0 && M.all okL) = ok at *
      cases ok
      · have HLD : Hid (ldC m s = 7) := Lib.hid (by rw [HLDC.out, if_pos HOK.out])
        go_wp2_with ((with_reducible refine at_store 4 ?_); refine wpList_store_blk rfl _ _ _ rfl rfl w.heap.size 0 _ [.int .i64 0, .slice none 0 0, .bool false, .string ⟨#[]⟩, .string ⟨#[]⟩, .int .i64 0] (rvC 0 none 0 0 none) rfl rfl Z4r.out (by simp [rvC, rwC]) rh_size (rvC_one _ _ _ _ none) ?_; intro w8 hn8 hg8)
        have hc8 := chg_of_grown hg8
        have hn9 : Blk w8 w.heap.size 29 (rvC 0 none 0 0 none) := hn8
        refine bodyPost_ret (v := .tuple #[.agg (rvC 0 none 0 0 none).toArray, .int .i64 7]) (hsres_ct rfl rfl rfl (hn9.range 0 _ (fun j v hv => by simpa using hv)) Tryd.underlying29 rfl rh_size) rfl ?_
        exact .inl ⟨by rw [HLD.out]; decide, by rw [HLD.out], HBR.out.trans (hc8.below HBR.out.size (fun j hj => by unfold one at hj; omega))⟩
      · cases tw
        · by_cases hmn : (m : Int) < n
          · have hmn2 : (n : Int) > m := hmn
            have HLD : Hid (ldC m s = 3) := Lib.hid (by rw [HLDC.out, if_neg (by rw [HOK.out]; decide), if_neg (by rw [← HTW.out]; decide), if_pos hmn])
            go_wp2_with ((with_reducible refine at_store 4 ?_); refine wpList_store_blk rfl _ _ _ rfl rfl w.heap.size 0 _ [.int .i64 0, .slice none 0 0, .bool false, .string ⟨#[]⟩, .string ⟨#[]⟩, .int .i64 0] (rvC 0 none 0 0 none) rfl rfl Z4r.out (by simp [rvC, rwC]) rh_size (rvC_one _ _ _ _ none) ?_; intro w8 hn8 hg8)
            have hc8 := chg_of_grown hg8
            have hn9 : Blk w8 w.heap.size 29 (rvC 0 none 0 0 none) := hn8
            refine bodyPost_ret (v := .tuple #[.agg (rvC 0 none 0 0 none).toArray, .int .i64 3]) (hsres_ct rfl rfl rfl (hn9.range 0 _ (fun j v hv => by simpa using hv)) Tryd.underlying29 rfl rh_size) rfl ?_
            exact .inl ⟨by rw [HLD.out]; decide, by rw [HLD.out], HBR.out.trans (hc8.below HBR.out.size (fun j hj => by unfold one at hj; omega))⟩
          · have hmn2 : ¬ (n : Int) > m := hmn
            have HLD : Hid (ldC m s = 0) := Lib.hid (by rw [HLDC.out, if_neg (by rw [HOK.out]; decide), if_neg (by rw [← HTW.out]; decide), if_neg hmn])
            have hnm : n ≤ m := by omega
            clear hmn HLDC HOK HTW HMAY
            go_wp2_with (fail)
            obtain ⟨w5, hw5⟩ : ∃ w5, w5 = wr := ⟨_, rfl⟩
            have Z45 : Hid (Blk w5 w.heap.size 29 [.int .i64 0, .slice none 0 0, .bool false, .string ⟨#[]⟩, .string ⟨#[]⟩, .int .i64 0]) := Lib.hid (by rw [hw5]; exact Z4r.out)
            have Z65 : Hid (Blk w5 b6 29 [.int .i64 m, .slice none 0 0, .bool false, .string ⟨#[]⟩, .string ⟨#[]⟩, .int .i64 0]) := Lib.hid (by rw [hw5]; exact Blk.below Z64.out HBr.out hz4)
            have HB5 : Hid (Below w.heap.size w w5) := Lib.hid (by rw [hw5]; exact HBR.out)
            have HS5 : Hid (Sl w5 w5.heap.size A0 (sv M)) := Lib.hid (by rw [hw5]; exact (HS4.out.below HBr.out).more HBr.out.size)
            have hz5 : b6 < w5.heap.size := by rw [hw5]; have := HBr.out.size; omega
            have HAP : Hid (∀ g, blk A0 = some g → g ≠ b6 ∧ g < w5.heap.size) := Lib.hid (fun g hg => by have h3 := HLT.out g hg; have h4 := HBr.out.size; rw [hw5]; exact ⟨by omega, by omega⟩)
            rw [← hw5]
            clear hw5 Z4r HBR HBr Z44 Z64 HB4 HS4 HLT hz4 hk
            go_loopw [12] (fun v wr => ∃ (j : Nat) (A : Option Addr) (c : Nat), v = .int .i64 ((n : Int) - 1 - j) ∧ j ≤ n ∧ OR wr w5.heap.size 9 A j c (sv (M.reverse.take j)) ∧ Blk wr b6 29 [.int .i64 m, .slice A j c, .bool false, .string ⟨#[]⟩, .string ⟨#[]⟩, .int .i64 0] ∧ Chg (one b6) w5 wr) (fun v _ => (intOf v + 1).toNat)
            case atStart => exact ⟨0, none, 0, by go_num, by omega, by rw [List.take_zero]; exact OR.none_ _ _ _, Z65.out, Chg.refl _ _⟩
            case round =>
              obtain ⟨j, A, c, rfl, hj, hor, hb6, hch⟩ := hrel
              have HOR := Lib.hid hor
              have Z6r := Lib.hid hb6
              have HC5 := Lib.hid hch
              clear hor hb6 hch
              by_cases hlt : j < n
              · have hge : (n : Int) - 1 - j ≥ 0 := by omega
                have hidx : (n : Int) - 1 - j = ((n - 1 - j : Nat) : Int) := by omega
                have hkl : n - 1 - j < M.length := by have := HNN.out; omega
                have hcS : Sl wr wr.heap.size A0 (sv M) := (HC5.out.sl HS5.out (Nat.le_refl _) (fun g off e => by unfold one; exact (HAP.out g (by rw [e]; rfl)).1)).more HC5.out.size
                obtain ⟨bb, off, hA, hbb, hcell⟩ := hs_at hcS (List.getElem?_eq_getElem hkl)
                have hbb5 : bb < w5.heap.size := (HAP.out bb (by rw [hA]; rfl)).2
                subst hA
                have hrv : M.reverse.take (j + 1) = M.reverse.take j ++ [M[n - 1 - j]] := by
                  rw [List.take_add_one]
                  have h3 : M.reverse[j]? = some M[n - 1 - j] := by
                    rw [List.getElem?_reverse (by have := HNN.out; omega)]
                    have h4 : M.length - 1 - j = n - 1 - j := by rw [← HNN.out]
                    rw [h4]
                    exact List.getElem?_eq_getElem hkl
                  rw [h3]; rfl
                generalize M[n - 1 - j] = x at hcell hrv
                have HRV := Lib.hid hrv
                clear hrv hcS hkl
                rw [hidx]
                have hp1 : n - 1 - j < n := by omega
                have hp2 : ((n - 1 - j : Nat) : Int) ≥ 0 := by omega
                generalize hpp : n - 1 - j = pp at *
                go_wp2_with (fail)
                have hbw : w5.heap.size ≤ wr.heap.size := HC5.out.size
                obtain ⟨A7, c7, w7, hrun, hO7, hg7, hat7⟩ := run_app Tryd.underlying27 str_info rfl (by omega) (wr.drew.alloc (.cells #[.string ⟨x.toArray⟩] 9)) 27 w5.heap.size A j c _ (HOR.out.drew.alloc _) (some ⟨wr.heap.size, 0, none⟩) 1 1 [.string ⟨x.toArray⟩] (wr.heap.size + 1) (Sl.new wr.drew #[.string ⟨x.toArray⟩] 9) rfl (fun e => by cases e) (by intro u hu; simp at hu; subst hu; rfl) (j + 1) rfl (by omega) (by simp; omega)
                have hb6 : Below w5.heap.size wr (wr.drew.alloc (.cells #[.string ⟨x.toArray⟩] 9)) := ((Below.refl w5.heap.size wr).drew).alloc hbw _
                have hb7 : Below w5.heap.size wr w7 := hb6.grown hg7 (by simp; omega) (fun g hg => (HOR.out.blk_lt g hg).1)
                have HRUN := Lib.hid hrun
                have HO7 : Hid (OR w7 w5.heap.size 9 A7 (j + 1) c7 (sv (M.reverse.take (j + 1)))) := Lib.hid (by rw [HRV.out, sv_snoc]; exact hO7)
                have HB6 : Hid (SBelG w5.heap.size wr (wr.drew.alloc (.cells #[.string ⟨x.toArray⟩] 9))) := Lib.hid hb6
                have HB7 : Hid (SBelG w5.heap.size wr w7) := Lib.hid hb7
                have Z67 := Lib.hid (Blk.below Z6r.out hb7 hz5)
                clear hrun hO7 hg7 hat7 hb6 hb7
                have HSD : Hid ((fun W : World => SBelG w5.heap.size wr W) wr.drew) := Lib.hid (Below.refl w5.heap.size wr).drew
                refine wp_region_K (fun W : World => SBelG w5.heap.size wr W) 8 (by kernel_rfl) ?_
                refine wpAnyK_takeP (i := 0) (v := ?v0) rfl (by kernel_rfl) (by kernel_rfl) (by kernel_rfl) (by kernel_rfl) (fun _ _ _ h => h) (Or.inl ⟨by rfl, fun w hSw => ?hy0⟩) (.inr HSD.out) ?rest0
                case hy0 =>
                  go_simp
                  try with_reducible rfl
                change wpAnyK _ _ _ _ _ _ _ _ (Act.put _ (some 73) _) _
                try simp only [Act.put, List.setIfInBounds_toArray, List.set_cons_zero, List.set_cons_succ]
                refine wpAnyK_take (i := 1) (v := .slice A j c) rfl (by kernel_rfl) (by kernel_rfl) (by kernel_rfl) (by kernel_rfl) (fun _ _ _ h => h) (Or.inl ⟨by rfl, fun w hSw => ?hy1⟩) HSD.out ?rest1
                case hy1 =>
                  have s1 := (Blk.below Z6r.out (show Below w5.heap.size wr _ from hSw) hz5).cell 1
                  clear hSw
                  try dsimp only at s1
                  go_simp
                  try with_reducible rfl
                change wpAnyK _ _ _ _ _ _ _ _ (Act.put _ (some 74) _) _
                try simp only [Act.put, List.setIfInBounds_toArray, List.set_cons_zero, List.set_cons_succ]
                refine wpAnyK_takeP (i := 2) (v := ?v2) rfl (by kernel_rfl) (by kernel_rfl) (by kernel_rfl) (by kernel_rfl) (fun _ _ _ h => h) (Or.inl ⟨by rfl, fun w hSw => ?hy2⟩) (.inr HSD.out) ?rest2
                case hy2 =>
                  go_simp
                  try with_reducible rfl
                change wpAnyK _ _ _ _ _ _ _ _ (Act.put _ (some 75) _) _
                try simp only [Act.put, List.setIfInBounds_toArray, List.set_cons_zero, List.set_cons_succ]
                refine wpAnyK_takeP (i := 3) (v := ?v3) rfl (by kernel_rfl) (by kernel_rfl) (by kernel_rfl) (by kernel_rfl) (fun _ _ _ h => h) (Or.inl ⟨by rfl, fun w hSw => ?hy3⟩) (.inr HSD.out) ?rest3
                case hy3 =>
                  go_simp
                  try with_reducible rfl
                change wpAnyK _ _ _ _ _ _ _ _ (Act.put _ (some 76) _) _
                try simp only [Act.put, List.setIfInBounds_toArray, List.set_cons_zero, List.set_cons_succ]
                refine wpAnyK_takeP (i := 4) (v := ?v4) rfl (by kernel_rfl) (by kernel_rfl) (by kernel_rfl) (by kernel_rfl) (fun _ _ _ h => h) (Or.inl ⟨by rfl, fun w hSw => ?hy4⟩) (.inr HSD.out) ?rest4
                case hy4 =>
                  go_simp
                  try with_reducible rfl
                change wpAnyK _ _ _ _ _ _ _ _ (Act.put _ (some 77) _) _
                try simp only [Act.put, List.setIfInBounds_toArray, List.set_cons_zero, List.set_cons_succ]
                refine wpAnyK_take (i := 5) (v := .string ⟨x.toArray⟩) rfl (by kernel_rfl) (by kernel_rfl) (by kernel_rfl) (by kernel_rfl) (fun _ _ _ h => h) (Or.inl ⟨by rfl, fun w hSw => ?hy5⟩) HSD.out ?rest5
                case hy5 =>
                  have s1 := (Below.cell (show Below w5.heap.size wr _ from hSw) (p := ⟨bb, off + pp, none⟩) hbb5).trans hcell
                  clear hSw
                  try dsimp only at s1
                  go_simp
                  try with_reducible rfl
                change wpAnyK _ _ _ _ _ _ _ _ (Act.put _ (some 78) _) _
                try simp only [Act.put, List.setIfInBounds_toArray, List.set_cons_zero, List.set_cons_succ]
                refine wpAnyK_only (i := 6) (by kernel_rfl) rfl (fun K hK => ?_)
                go_simp
                refine hK.out _ _ (.inr HB6.out) ?_
                clear hK K
                try simp only [Act.put, List.setIfInBounds_toArray, List.set_cons_zero, List.set_cons_succ]
                refine wpAnyK_only (i := 7) (by kernel_rfl) rfl (fun K hK => ?_)
                refine step_appK rfl 27 27 (.tmp 74) (.tmp 79) rfl _ _ _ _ rfl rfl HRUN.out ?_
                refine hK.out _ _ (.inr HB7.out) ?_
                clear hK K
                try simp only [Act.put, List.setIfInBounds_toArray, List.set_cons_zero, List.set_cons_succ]
                have y1 : w7.cell? ⟨b6, 1, none⟩ = some (.slice A j c) := Z67.out.cell 1
                have f1 : w7.frozen? ⟨b6, 1, none⟩ = false := Z67.out.frozen 1
                refine wpAnyK_only (i := 8) (by kernel_rfl) rfl (fun K hK => ?_)
                go_simp
                refine hK.out _ _ (.inl (by kernel_rfl)) ?_
                clear hK K
                try simp only [Act.put, List.setIfInBounds_toArray, List.set_cons_zero, List.set_cons_succ]
                refine wpAnyK_only (i := 9) (by kernel_rfl) rfl (fun K hK => ?_)
                go_simp
                refine hK.out _ _ (.inl (by kernel_rfl)) ?_
                clear hK K
                try simp only [Act.put, List.setIfInBounds_toArray, List.set_cons_zero, List.set_cons_succ]
                refine wpAnyK_done (by kernel_rfl) ?_ _
                go_wp2_with (fail)
                go_roundw
                case rel =>
                  have hset : Chg (one b6) w7 (w7.setCell ⟨b6, 1, none⟩ (.slice A7 (j + 1) c7)) := (Chg.refl (one b6) w7).setCell (p := ⟨b6, 1, none⟩) (.inl rfl) _
                  have h57 : Chg (one b6) w5 w7 := HC5.out.trans (S' := fun i => w5.heap.size ≤ i) ⟨(show Below w5.heap.size wr w7 from HB7.out).os, (show Below w5.heap.size wr w7 from HB7.out).tape, (show Below w5.heap.size wr w7 from HB7.out).output, (show Below w5.heap.size wr w7 from HB7.out).size, fun i hi hn => (show Below w5.heap.size wr w7 from HB7.out).block i (by omega)⟩ (fun i hi => .inr hi)
                  exact ⟨j + 1, A7, c7, by congr 1; omega, by omega, HO7.out.chgH hset (fun g hg e => by have := (HO7.out.blk_lt g hg).1; unfold one at e; omega), Z67.out.set_ 1 _, h57.trans hset (fun i hi => .inl hi)⟩
                case measure =>
                  first
                    | (simp [intOf]; done)
                    | (simp [intOf]; omega)
              · have ej : j = n := by omega
                subst ej
                have hrr : M.reverse.take j = M.reverse := List.take_of_length_le (by rw [List.length_reverse, ← HNN.out]; omega)
                have HO9 : Hid (OR wr w5.heap.size 9 A j c (sv M.reverse)) := Lib.hid (by rw [← hrr]; exact HOR.out)
                have hge : ¬ (j : Int) - 1 - j ≥ 0 := by omega
                have Z4r : Hid (Blk wr w.heap.size 29 [.int .i64 0, .slice none 0 0, .bool false, .string ⟨#[]⟩, .string ⟨#[]⟩, .int .i64 0]) := Lib.hid (Blk.chg Z45.out HC5.out (by unfold one; omega))
                have HBR : Hid (Below w.heap.size w wr) := Lib.hid (HB5.out.trans (HC5.out.below HB5.out.size (fun i hi => by unfold one at hi; omega)))
                have d0 := Z6r.out.cell 0
                have d1 := Z6r.out.cell 1
                have d2 := Z6r.out.cell 2
                have d3 := Z6r.out.cell 3
                have d4 := Z6r.out.cell 4
                have d5 := Z6r.out.cell 5
                simp only [List.getElem?_cons_succ, List.getElem?_cons_zero] at d0 d1 d2 d3 d4 d5
                clear hrr HOR Z45 Z65 HS5 HAP
                go_wp2_with ((with_reducible refine at_store 4 ?_); refine wpList_store_blk rfl _ _ _ rfl rfl w.heap.size 0 _ [.int .i64 0, .slice none 0 0, .bool false, .string ⟨#[]⟩, .string ⟨#[]⟩, .int .i64 0] (rvC m A j c none) rfl rfl Z4r.out (by simp [rvC, rwC]) rh_size (rvC_one _ _ _ _ none) ?_; intro w8 hn8 hg8)
                have hc8 := chg_of_grown hg8
                have hn9 : Blk w8 w.heap.size 29 (rvC m A j c none) := hn8
                refine bodyPost_ret (v := .tuple #[.agg (rvC m A j c none).toArray, .int .i64 0]) (hsres_ct rfl rfl rfl (hn9.range 0 _ (fun j v hv => by simpa using hv)) Tryd.underlying29 rfl rh_size) rfl ?_
                have hz9 := HB5.out.size
                have ho9 := HO9.out.chgH hc8 (fun g hg e => by have := (HO9.out.blk_lt g hg).1; unfold one at e; omega)
                exact .inr ⟨HLD.out, ⟨A, j, c, rfl, by rw [← HM.out, List.length_reverse, ← HNN.out], by rw [← HM.out]; exact ho9.sl, HO9.out.capH.1, fun g hg => ⟨by have := (ho9.blk_lt g hg).1; omega, (ho9.blk_lt g hg).2⟩⟩, HBR.out.trans (hc8.below HBR.out.size (fun j hj => by unfold one at hj; omega))⟩
        · have HLD : Hid (ldC m s = 1) := Lib.hid (by rw [HLDC.out, if_neg (by rw [HOK.out]; decide), if_pos (HTW.out.1 rfl)])
          go_wp2_with ((with_reducible refine at_store 4 ?_); refine wpList_store_blk rfl _ _ _ rfl rfl w.heap.size 0 _ [.int .i64 0, .slice none 0 0, .bool false, .string ⟨#[]⟩, .string ⟨#[]⟩, .int .i64 0] (rvC 0 none 0 0 none) rfl rfl Z4r.out (by simp [rvC, rwC]) rh_size (rvC_one _ _ _ _ none) ?_; intro w8 hn8 hg8)
          have hc8 := chg_of_grown hg8
          have hn9 : Blk w8 w.heap.size 29 (rvC 0 none 0 0 none) := hn8
          refine bodyPost_ret (v := .tuple #[.agg (rvC 0 none 0 0 none).toArray, .int .i64 1]) (hsres_ct rfl rfl rfl (hn9.range 0 _ (fun j v hv => by simpa using hv)) Tryd.underlying29 rfl rh_size) rfl ?_
          exact .inl ⟨by rw [HLD.out]; decide, by rw [HLD.out], HBR.out.trans (hc8.below HBR.out.size (fun j hj => by unfold one at hj; omega))⟩
theorem rload_any (most : Int) (s : List UInt8) (hs : s.length ≤ 1000000) (hx : ∀ x ∈ pcs s, x.length ≤ 1000) (w : World) :
    Calls Tryd.prog 20 #[.int .i64 most, .string ⟨s.toArray⟩] w (RLoadP w most s) := by
  by_cases hm : 1 ≤ most ∧ most ≤ 256
  · obtain ⟨m, rfl⟩ := Int.eq_ofNat_of_zero_le (show 0 ≤ most by omega)
    exact rload_ok m (by omega) (by omega) s hs hx w
  · exact rload_no most hm s w
end Go.Proofs.YtfjiogockpmogaaDoor
