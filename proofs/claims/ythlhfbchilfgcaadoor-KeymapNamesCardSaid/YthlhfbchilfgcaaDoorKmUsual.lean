/-
  Walks: Usual.
-/
import Derived.Test.YthlhfbchilfgcaaDoorKmMade
import Derived.Test.YthlhfbchilfgcaaDoorKmShelf
namespace Go.Proofs.YthlhfbchilfgcaaDoor
open Go.RowKit Go.Maps
set_option linter.unusedVariables false
set_option linter.unusedSimpArgs false

def strV (l : List (List UInt8)) : List Value := l.map fun l => Value.string ⟨l.toArray⟩
theorem key_law : Keyed Tryd.prog 9 := string_keyed Tryd.underlying9
theorem UDj_snoc (D : DataW Unit) (i : Nat) (l : List (List UInt8)) (f : List UInt8) : UDj D i (l ++ [f]) = (UDj D i l).put (.string f) (.lit (.int .i64 i)) := by unfold UDj; rw [List.foldl_append]; rfl

theorem run_index20 (cs : Array Value) (i : Nat) (v : Value) (hi : i < 20) (hz : cs.size = 20) (hv : ∀ h : i < cs.size, cs[i] = v) (h1 : v.cells = #[v]) (w : World) : (Instr.index 78 (.agg cs) (.int .i64 i)).run Tryd.prog w = .ok v w := by
  have hs : (Tryd.prog.info? 9).map (·.size) = some 1 := by kernel_rfl
  have hi0 : (0 : Int) ≤ (i : Int) := by omega
  have hi1 : (i : Int) < 20 := by omega
  have hx := hv (by omega)
  cases hq : Tryd.prog.info? 9 with
  | none => simp [hq] at hs
  | some j =>
    have hj : j.size = 1 := by simpa [hq] using hs
    simp [Instr.index, run_underlying Tryd.underlying78, asIntOf, hi1, go_sem, sizeOf, typeInfo, hq, hj]
    rw [if_pos hi, Array.getElem?_eq_getElem (by omega), hx]
    simp [go_sem]
set_option maxRecDepth 100000 in
set_option maxHeartbeats 8000000 in
theorem usual_any (w : World) (hT : KmT w) :
    Calls Tryd.prog 17 #[] w fun e w' => ∃ M b, e = .returned (.pointer (some ⟨M, 0, none⟩)) ∧ w.heap.size ≤ M ∧ w.heap.size ≤ b ∧ MBlk w' M b ∧ MOwns w' b 1000 (UD 20) ∧ Below w.heap.size w w' := by
  have HT := Lib.hid hT
  clear hT
  go_enter Tryd.func17, Tryd.ntmps17
  go_upto_region 2 with (go_at_call 16; refine (mnew_any _).mono ?_; rintro e w1 ⟨rfl, hm, ho, hb⟩; have HM := Lib.hid hm; have HO := Lib.hid ho; have HB := Lib.hid hb; clear hm ho hb)
  have hus : StrT w1 0 usualT := HT.out.us.below (by decide) HB.out (Nat.le_refl _)
  have hr : w1.rangeAt 0 0 (strV usualT) := fun j v hv => by
    have hj : j < usualT.length := by have := (List.getElem?_eq_some_iff.1 hv).1; simpa [strV] using this
    rw [Nat.zero_add, hus j hj]
    rw [← hv, strV, List.getElem?_map, List.getElem?_eq_getElem hj, List.getD_eq_getElem?_getD, List.getElem?_eq_getElem hj]
    rfl
  have HR := Lib.hid hr
  clear hus hr
  go_upto_region 3 with (((with_reducible refine at_dst 7 ?_); refine wpList_load_mid rfl _ _ rfl 0 0 rfl (strV usualT) _ HR.out Tryd.underlying78 rfl (by kernel_rfl) ?_))
  obtain ⟨cs, hcs⟩ : ∃ cs : Array Value, cs = (strV usualT).toArray := ⟨_, rfl⟩
  have hcz : cs.size = 20 := by rw [hcs]; rfl
  have HG := Lib.hid (show ∀ (i : Nat) (h : i < cs.size), i < 20 → cs[i] = .string ⟨(usualT.getD i []).toArray⟩ by
    subst hcs
    intro i h hi
    have hu : usualT.length = 20 := rfl
    rw [List.getD_eq_getElem?_getD, List.getElem?_eq_getElem (by omega)]
    simp [strV])
  rw [← hcs]
  clear hcs HR
  generalize hM : w.heap.size + 1 = M at HM ⊢
  have HMM := Lib.hid hM
  have hMb : M ≠ w.heap.size := by omega
  have HMB := Lib.hid hMb
  clear hM hMb
  go_loopw [8] (fun v8 wr => ∃ i : Nat, v8 = .int .i64 (i : Int) ∧ i ≤ 20 ∧ MOwns wr w.heap.size (10 * i) (UD i) ∧ MBlk wr M w.heap.size ∧ Below w.heap.size w wr) (fun v8 _ => 20 - (intOf v8).toNat)
  case atStart => exact ⟨0, rfl, by omega, HO.out, HM.out, HB.out⟩
  case round =>
    obtain ⟨i, rfl, hi, ho, hm, hb⟩ := hrel
    have HO1 := Lib.hid ho
    have HM1 := Lib.hid hm
    have HB1 := Lib.hid hb
    clear ho hm hb HO HM HB
    by_cases hlt : i < 20
    · have hki : (i : Int) < 20 := by omega
      obtain ⟨U, hU⟩ : ∃ U, U = usualT.getD i [] := ⟨_, rfl⟩
      obtain ⟨F, hF⟩ : ∃ F, F = fldU i := ⟨_, rfl⟩
      have hix := run_index20 cs i (.string ⟨U.toArray⟩) hlt hcz (fun h => by rw [hU]; exact HG.out i h hlt) rfl
      have hsz : U.length ≤ 60 := by
        have : ∀ j, j < 20 → (usualT.getD j []).length ≤ 60 := by decide
        rw [hU]
        exact this i hlt
      have hasc : ∀ b ∈ U, b.toNat < 128 := by
        have hu : i < usualT.length := hlt
        rw [hU, List.getD_eq_getElem?_getD, List.getElem?_eq_getElem hu]
        exact fld_ascii _ (List.getElem_mem hu)
      have HFD : Hid (Calls Tryd.prog 46 #[.string ⟨U.toArray⟩] wr fun e w' => e = .returned (.slice (some ⟨wr.heap.size, 0, none⟩) F.length F.length) ∧ w' = wr.alloc (.cells (strV F).toArray 9)) := Lib.hid (by
        have h := sh_strings_Fields ⟨U.toArray⟩ wr (by show U.toArray.size < _; rw [List.size_toArray]; omega) (fun j b hb => hasc b (List.mem_of_getElem? hb)) (HT.out.below HB1.out (Nat.le_refl _)).sp
        have e : Lib.fields (ByteArray.mk U.toArray).data.toList = F := by rw [hF, hU]; rfl
        rw [e] at h
        exact h)
      have hfl := fld_len i hlt
      rw [← hF] at hfl
      have HFU := Lib.hid hF
      clear hsz hasc hU hF
      go_upto_region 6 with (go_at_call 46; refine HFD.out.mono ?_; rintro e w2 ⟨rfl, rfl⟩)
      have hrow : Blk (wr.alloc (.cells (strV F).toArray 9)) wr.heap.size 9 (strV F) := Blk.new wr _ _
      have ho2 : MOwns (wr.alloc (.cells (strV F).toArray 9)) w.heap.size (10 * i) (UD i) := HO1.out.alloc _
      have hm2 : MBlk (wr.alloc (.cells (strV F).toArray 9)) M w.heap.size := HM1.out.alloc _
      have hb2 : Below w.heap.size w (wr.alloc (.cells (strV F).toArray 9)) := HB1.out.alloc HB1.out.size _
      have hRb : wr.heap.size ≠ w.heap.size := by have := HM1.out.lt; have := HMM.out; omega
      generalize wr.alloc (.cells (strV F).toArray 9) = w2 at hrow ho2 hm2 hb2 ⊢
      generalize wr.heap.size = R at hrow hRb ⊢
      have HRW := Lib.hid hrow
      have HO2 := Lib.hid ho2
      have HM2 := Lib.hid hm2
      have HB2 := Lib.hid hb2
      have HRB := Lib.hid hRb
      have hF3 : F.length ≤ 3 := hfl.1
      have HFL := Lib.hid hfl.2
      clear hrow ho2 hm2 hb2 hRb hfl HFD hix
      go_loopw [15] (fun v15 wr => ∃ j : Nat, v15 = .int .i64 (j : Int) ∧ j ≤ F.length ∧ MOwns wr w.heap.size (10 * i + j) (UDj (UD i) i (F.take j)) ∧ MBlk wr M w.heap.size ∧ Blk wr R 9 (strV F) ∧ Below w.heap.size w wr) (fun v15 _ => 3 - (intOf v15).toNat)
      case atStart => exact ⟨0, rfl, by omega, HO2.out, HM2.out, HRW.out, HB2.out⟩
      case round =>

        obtain ⟨j, rfl, hj, ho, hm, hr, hb⟩ := hrel
        have HO3 := Lib.hid ho
        have HM3 := Lib.hid hm
        have HR3 := Lib.hid hr
        have HB3 := Lib.hid hb
        by_cases hjl : j < F.length
        · have hkj : (j : Int) < (F.length : Int) := by omega
          have hx : wr.cell? ⟨R, j, none⟩ = some (.string ⟨F[j].toArray⟩) := by rw [hr.cell]; simp [strV, hjl]
          have hx2 : wr.cell? ⟨M, 1, none⟩ = some (.map (some w.heap.size)) := hm.cell 1
          have htk : F.take (j + 1) = F.take j ++ [F[j]] := List.take_succ_eq_append_getElem hjl
          have hfl : F[j].length ≤ 20 := HFL.out _ (List.getElem_mem hjl)
          generalize F[j] = ff at hx htk hfl
          have HTK := Lib.hid htk
          have HKY : Hid (keyOf Tryd.prog 9 (.string ⟨ff.toArray⟩) = some (.string ff)) := Lib.hid (WideMaps.keyOf_string_mk Tryd.underlying9 (by show ff.toArray.size ≤ _; rw [List.size_toArray]; simp only [maxLen]; omega))
          clear ho hm hr hb htk hfl
          go_wp2_with ((at_mapUpdate; refine wpList_mapUpdate_own _ rfl _ _ _ 66 rfl 9 35 key_law Tryd.underlying66 _ w.heap.size (10 * i + j) _ rfl HO3.out (by unfold maxLen; omega) _ _ _ rfl rfl HKY.out _ [] (plainElem_int Tryd.underlying35 (WalkArith.wf_i64 (by omega))) ?_; intro w5 ho5 hg5; have HO5 := Lib.hid ho5; have HG5 := Lib.hid hg5; clear ho5 hg5))
          go_roundw
          case rel => exact ⟨j + 1, by go_num, by omega, by rw [HTK.out, UDj_snoc]; exact HO5.out, (HG5.out.block M HM3.out.lt (fun e => HMB.out (by injection e))).trans HM3.out, (HG5.out.block R HR3.out.lt (fun e => HRB.out (by injection e))).trans HR3.out, HB3.out.grown HG5.out HB3.out.size (fun k hk => by injection hk with hk; omega)⟩
          case measure => simp [intOf]; omega
        · have hkj : ¬ (j : Int) < (F.length : Int) := by omega
          obtain rfl : j = F.length := by omega
          rw [List.take_length] at ho
          have HO4 : Hid (MOwns wr w.heap.size (10 * (i + 1)) (UD (i + 1))) := Lib.hid (by
            have h := ho.mono (show 10 * i + F.length ≤ 10 * (i + 1) by omega)
            rw [HFU.out] at h
            exact h)
          clear ho hm hr hb
          go_wp2_with (fail)
          go_roundw
          case rel => exact ⟨i + 1, by go_num, by omega, HO4.out, HM3.out, HB3.out⟩
          case measure => simp [intOf]; omega
    · have hki : ¬ (i : Int) < 20 := by omega
      obtain rfl : i = 20 := by omega
      clear HG
      go_wp2_with (fail)
      go_ret
      exact ⟨M, rfl, by have := HMM.out; omega, w.heap.size, Nat.le_refl _, HM1.out, HO1.out.mono (by omega), HB1.out⟩
end Go.Proofs.YthlhfbchilfgcaaDoor
