/-
  Walk: GapMoves.
-/
import Derived.Test.YtcpihlmemjkloaaDoorGpThere
namespace Go.Proofs.YtcpihlmemjkloaaDoor
open Go.RowKit
set_option linter.unusedVariables false
set_option linter.unusedSimpArgs false

/-- clusters that are put behind each other are cut into the same ones -/
theorem cut_flat {C : List (List Int)} (h : ∀ c ∈ C, wf c) : (cls (rs ((C.map eb).flatten))).map eb = C.map eb := by
  rw [← eb_flatten, rs_eb (flat_isR h), cls_flat h]
theorem cutL_flat (s : ByteArray) : (cls (rs ((cutL s).flatten))).map eb = cutL s := cut_flat (cls_wf (rs_isR _))
theorem clamp_int (z : Int) (n : Nat) : ((clampN z n : Nat) : Int) = max 0 (min z n) := by unfold clampN; omega

/-- what a round of GapMoves keeps -/
def MovS (w : World) (lo g : Nat) (A : Option Addr) (ns C : Nat) (L : List (List UInt8)) : Prop := ∃ f t k, GpAt w lo g A ns C 300 f t (L.take k) (L.drop k)

set_option maxRecDepth 100000 in
set_option maxHeartbeats 4000000 in
theorem gapMoves_walk (s : ByteArray) (hs : s.size ≤ maxLen) (at_ : Int) (M : Option Addr) (m d : Nat) (zs : List Int) (w : World) (hT : Tabs w) (hm : m = zs.length) (hmx : m ≤ maxLen) (hM : Sl w w.heap.size M (zs.map fun z => .int .i64 z)) :
    Calls Tryd.prog 4 #[.string s, .int .i64 at_, .slice M m d] w fun e w' => e = .returned (.bool true) ∧ Below w.heap.size w w' := by
  have HT := Lib.hid hT
  have hfil := filled_any s hs at_ w hT
  unfold FilP at hfil
  unfold maxLen at hmx
  have hll := cutL_len s
  have his := cutL_is s
  have hcf := cutL_flat s
  generalize cutL s = L at *
  obtain ⟨k0, hk0⟩ : ∃ k0, k0 = clampN at_ L.length := ⟨_, rfl⟩
  rw [← hk0] at hfil
  have HFIL := Lib.hid hfil
  have HSP : Hid (∀ k, L.take k ++ L.drop k = L) := Lib.hid (fun k => List.take_append_drop _ _)
  have HLN : Hid (∀ k, ln (L.take k) (L.drop k) = L.length) := Lib.hid (fun k => by rw [ln_eq, List.take_append_drop])
  obtain ⟨n, hn⟩ : ∃ n, n = L.length := ⟨_, rfl⟩
  rw [← hn] at hll HLN
  have HN := Lib.hid hn
  have HIS := Lib.hid his
  have HCF := Lib.hid hcf
  have HM := Lib.hid hM
  have Hm := Lib.hid hm
  clear hfil hk0 hn hT hs his hcf hM hm
  go_enter Tryd.func4, Tryd.ntmps4
  go_wp2_with (fail)
  refine HFIL.out.mono ?_
  rintro e w1 ⟨g, A, ns, C, f, t, rfl, hg1, hb1⟩
  have HG1 := Lib.hid hg1
  have HB1 := Lib.hid hb1
  clear hg1 hb1
  go_wp2_with (fail)
  have hline := gline_any HG1.out
  rw [HLN.out, HSP.out] at hline
  refine hline.mono ?_
  rintro e w2 ⟨A1, c1, rfl, ho1, hb2⟩
  have HG2 := Lib.hid (HG1.out.below hb2)
  have HB2 := Lib.hid (HB1.out.trans (hb2.mono HB1.out.size))
  have HS2 := Lib.hid ho1.sl
  have HA1 : Hid (∀ b off, A1 = some ⟨b, off, none⟩ → ¬ GpOwn g A b) := Lib.hid (fun b off e h => by
    have h1 := (ho1.blk_lt b (by rw [e]; rfl)).1
    have h2 := (HG1.out.own_lt b h).2
    omega)
  clear hline ho1 hb2
  go_wp2_with (fail)
  go_loopw [9] (fun v wr => ∃ i : Nat, v = .int .i64 i ∧ i ≤ m ∧ i ≤ 40 ∧ MovS wr w.heap.size g A ns C L ∧ Sl wr w2.heap.size A1 (sv L) ∧ Below w.heap.size w wr ∧ w2.heap.size ≤ wr.heap.size) (fun v _ => m - (intOf v).toNat)
  case atStart => exact ⟨0, rfl, by omega, by omega, ⟨f, t, _, HG2.out⟩, HS2.out, HB2.out, Nat.le_refl _⟩
  case round =>
    obtain ⟨i, rfl, him, hi40, ⟨fr, tr, kr, hgr⟩, hsr, hbr, hzr⟩ := hrel
    have HGr := Lib.hid hgr
    have HSr := Lib.hid hsr
    have HBr := Lib.hid hbr
    clear hgr hsr hbr
    by_cases hlt : i < m ∧ i < 40
    · obtain ⟨h1, h2⟩ := hlt
      have hi1 : (i : Int) < m := by omega
      have hi2 : (i : Int) < 40 := by omega
      obtain ⟨b, off, rfl, hbb, hcc⟩ := HM.out.open_ (by rw [List.length_map, ← Hm.out]; omega)
      have hz : zs[i]? = some (zs[i]'(by rw [← Hm.out]; exact h1)) := List.getElem?_eq_getElem _
      have hcw := hcc i (.int .i64 (zs[i]'(by rw [← Hm.out]; exact h1))) (by rw [List.getElem?_map, hz]; rfl)
      generalize zs[i]'(by rw [← Hm.out]; exact h1) = z at hcw
      have hcell := (HBr.out.cell (p := ⟨b, off + i, none⟩) hbb).trans hcw
      have hmv := gmove_any HGr.out z
      rw [HLN.out, HSP.out] at hmv
      have hci := clamp_int z n
      have hcl := clampN_le z n
      generalize clampN z n = c at hmv hci hcl
      have HMV := Lib.hid hmv
      have HCI := Lib.hid hci
      have HBB := Lib.hid hbb
      clear hcc hmv hci hz hbb
      have HCW := Lib.hid hcw
      clear hcw
      go_wp2_with (fail)
      refine HMV.out.mono ?_
      rintro e w3 ⟨rfl, ⟨f3, t3, hg3⟩, hc3⟩
      have hf3 : f3 = c := by have := hg3.fp; rw [List.length_take, ← HN.out] at this; omega
      subst hf3
      have HG3 := Lib.hid hg3
      have HS3 := Lib.hid (hc3.sl HSr.out hzr HA1.out)
      have hbw3 := HBr.out.trans (hc3.below HBr.out.size (fun k hk => (HGr.out.own_lt k hk).1))
      have HB3 := Lib.hid hbw3
      have hz3 := Nat.le_trans hzr hc3.size
      clear hg3 hc3 hbw3 hcell
      go_wp2_with (fail)
      refine (gcursor_any HG3.out).mono ?_
      rintro e w4 ⟨rfl, hb4⟩
      have HG4 := Lib.hid (HG3.out.below hb4)
      have HB4 := Lib.hid (HB3.out.trans (hb4.mono HB3.out.size))
      have HS4 := Lib.hid (HS3.out.below (hb4.mono hz3))
      have hz4 := Nat.le_trans hz3 hb4.size
      have hcell4 : w4.cell? ⟨b, off + i, none⟩ = some (.int .i64 z) := (HB4.out.cell (p := ⟨b, off + i, none⟩) HBB.out).trans HCW.out
      clear hb4
      have hline4 := gline_any HG4.out
      rw [HLN.out, HSP.out] at hline4
      have HLI4 := Lib.hid hline4
      clear hline4
      have hq : ((f3 : Int) = max 0 (min z (n : Int))) = True := eq_true HCI.out
      go_wp2_with (fail)
      refine HLI4.out.mono ?_
      rintro e w5 ⟨A5, c5, rfl, ho5, hb5⟩
      have HG5 := Lib.hid (HG4.out.below hb5)
      have HB5 := Lib.hid (HB4.out.trans (hb5.mono HB4.out.size))
      have HS5 := Lib.hid (HS4.out.below (hb5.mono hz4))
      have hz5 := Nat.le_trans hz4 hb5.size
      have HO5 := Lib.hid ho5.sl
      clear ho5 hb5 hq hcell4
      go_wp2_with (fail)
      refine (sameall_any L n n A5 A1 c5 c1 w5 (by have := HN.out; omega) HN.out HN.out HO5.out (HS5.out.more hz5)).mono ?_
      rintro e w6 ⟨rfl, hb6⟩
      go_wp2_with (fail)
      go_roundw
      case rel => exact ⟨i + 1, by go_num, by omega, by omega, ⟨_, _, _, HG5.out.below hb6⟩, HS5.out.below (hb6.mono hz5), HB5.out.trans (hb6.mono HB5.out.size), Nat.le_trans hz5 hb6.size⟩
      case measure => simp [intOf]; omega
    · have htx := gtext_any HGr.out
      rw [HSP.out] at htx
      have HTX := Lib.hid htx
      have hl64 : L.flatten.length ≤ 64 * L.length := flat_le (fun c hc => isC_len (HIS.out c hc))
      have HCU := Lib.hid (fun (w5 : World) => rcut_any ⟨(L.flatten).toArray⟩ (by rw [size_of]; have := HN.out; omega) w5)
      have hcl : (cls (rs (⟨(L.flatten).toArray⟩ : ByteArray).data.toList)).map eb = L := HCF.out
      have hcn : (cls (rs (⟨(L.flatten).toArray⟩ : ByteArray).data.toList)).length = n := by rw [HN.out]; conv => rhs; rw [← hcl]; rw [List.length_map]
      rw [hcn, hcl] at HCU
      clear htx hl64 hcl hcn
      generalize L.flatten = fl at *
      by_cases hm1 : i < m
      · have hm2 : ¬ (i < 40) := fun h => hlt ⟨hm1, h⟩
        have hi1 : (i : Int) < m := by omega
        have hi2 : ¬ (i : Int) < 40 := by omega
        clear hlt hm1 hm2
        go_wp2_with (fail)
        refine HTX.out.mono ?_
        rintro e w3 ⟨rfl, hb3⟩
        have HB3 := Lib.hid (HBr.out.trans (hb3.mono HBr.out.size))
        have HS3 := Lib.hid (HSr.out.below (hb3.mono hzr))
        have hz3 := Nat.le_trans hzr hb3.size
        clear hb3
        go_wp2_with (fail)
        refine (HCU.out w3).mono ?_
        rintro e w4 ⟨A4, c4, rfl, ho4, hb4⟩
        have HB4 := Lib.hid (HB3.out.trans (hb4.mono HB3.out.size))
        have HS4 := Lib.hid (HS3.out.below (hb4.mono hz3))
        have hz4 := Nat.le_trans hz3 hb4.size
        have HO4 := Lib.hid ho4.sl
        clear ho4 hb4
        go_wp2_with (fail)
        refine (sameall_any L n n A4 A1 c4 c1 w4 (by have := HN.out; omega) HN.out HN.out HO4.out (HS4.out.more hz4)).mono ?_
        rintro e w6 ⟨rfl, hb6⟩
        have HB6 := Lib.hid (HB4.out.trans (hb6.mono HB4.out.size))
        clear hb6
        go_wp2_with (fail)
        refine (gawake_any w6 (HT.out.below HB6.out)).mono ?_
        rintro e w7 ⟨rfl, hb7⟩
        go_wp2_with (fail)
        go_ret
        exact ⟨rfl, HB6.out.trans (hb7.mono HB6.out.size)⟩
      · have hi1 : ¬ (i : Int) < m := by omega
        clear hlt hm1
        go_wp2_with (fail)
        refine HTX.out.mono ?_
        rintro e w3 ⟨rfl, hb3⟩
        have HB3 := Lib.hid (HBr.out.trans (hb3.mono HBr.out.size))
        have HS3 := Lib.hid (HSr.out.below (hb3.mono hzr))
        have hz3 := Nat.le_trans hzr hb3.size
        clear hb3
        go_wp2_with (fail)
        refine (HCU.out w3).mono ?_
        rintro e w4 ⟨A4, c4, rfl, ho4, hb4⟩
        have HB4 := Lib.hid (HB3.out.trans (hb4.mono HB3.out.size))
        have HS4 := Lib.hid (HS3.out.below (hb4.mono hz3))
        have hz4 := Nat.le_trans hz3 hb4.size
        have HO4 := Lib.hid ho4.sl
        clear ho4 hb4
        go_wp2_with (fail)
        refine (sameall_any L n n A4 A1 c4 c1 w4 (by have := HN.out; omega) HN.out HN.out HO4.out (HS4.out.more hz4)).mono ?_
        rintro e w6 ⟨rfl, hb6⟩
        have HB6 := Lib.hid (HB4.out.trans (hb6.mono HB4.out.size))
        clear hb6
        go_wp2_with (fail)
        refine (gawake_any w6 (HT.out.below HB6.out)).mono ?_
        rintro e w7 ⟨rfl, hb7⟩
        go_wp2_with (fail)
        go_ret
        exact ⟨rfl, HB6.out.trans (hb7.mono HB6.out.size)⟩
end Go.Proofs.YtcpihlmemjkloaaDoor
