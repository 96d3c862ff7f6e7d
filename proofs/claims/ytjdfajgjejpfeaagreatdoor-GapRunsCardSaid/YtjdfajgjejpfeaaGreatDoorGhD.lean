/-
  Walks: the document's buffer: Find.
  Walks: the document's buffer: Find.
  Plain mathematics for GapRuns: places and clusters told, rising and falling.
  Walks: the document's buffer: falling.
-/
import Derived.Test.YtjdfajgjejpfeaaGreatDoorGhB
import Derived.Test.YtjdfajgjejpfeaaGreatDoorGpFind
import Derived.Test.YtjdfajgjejpfeaaGreatDoorGhC
import Derived.Test.YtjdfajgjejpfeaaGreatDoorGpTold2
namespace Go.Proofs.YtjdfajgjejpfeaaGreatDoor
open Go.RowKit Go.Sort
set_option linter.unusedVariables false
set_option linter.unusedSimpArgs false
set_option maxRecDepth 100000

set_option maxHeartbeats 4000000 in
theorem sameall_dec (xs ys : List (List UInt8)) (A B : Option Addr) (n c d : Nat) (hn : n = xs.length) (hm : n = ys.length) (h1 : n ≤ 100000) (w : World) (hX : Sl w w.heap.size A (sv xs)) (hY : Sl w w.heap.size B (sv ys)) :
    Calls Tryz.prog 21 #[.slice A n c, .slice B n d] w fun e w' => e = .returned (.bool (decide (xs = ys))) ∧ Below w.heap.size w w' := by
  have HX := Lib.hid hX
  have HY := Lib.hid hY
  have HN := Lib.hid hn
  have HM := Lib.hid hm
  clear hX hY hn hm
  go_enter Tryz.func21, Tryz.ntmps21
  go_wp2_with (fail)
  go_loopw [5] (fun v wr => ∃ k : Nat, v = .int .i64 k ∧ k ≤ n ∧ xs.take k = ys.take k ∧ Below w.heap.size w wr) (fun v _ => n - (intOf v).toNat)
  case atStart => exact ⟨0, rfl, by omega, rfl, Below.refl _ _⟩
  case round =>
    obtain ⟨k, rfl, hk, htk, hb⟩ := hrel
    have HTK := Lib.hid htk
    have HB := Lib.hid hb
    clear htk hb
    by_cases hlt : k < n
    · have hki : (k : Int) < n := by omega
      have hkx : k < xs.length := by have := HN.out; omega
      have hky : k < ys.length := by have := HM.out; omega
      obtain ⟨b1, o1, rfl, hb1, hc1⟩ := sv_at HX.out hkx
      obtain ⟨b2, o2, rfl, hb2, hc2⟩ := sv_at HY.out hky
      have r1 := (HB.out.cell (p := ⟨b1, o1 + k, none⟩) hb1).trans hc1
      have r2 := (HB.out.cell (p := ⟨b2, o2 + k, none⟩) hb2).trans hc2
      have HT2 : Hid (xs[k] = ys[k] → xs.take (k + 1) = ys.take (k + 1)) := Lib.hid (fun e => by rw [List.take_succ_eq_append_getElem hkx, List.take_succ_eq_append_getElem hky, HTK.out, e])
      have HNE : Hid (xs[k] ≠ ys[k] → xs ≠ ys) := Lib.hid (fun e h => by subst h; exact e rfl)
      generalize xs[k] = x at r1 HT2 HNE
      generalize ys[k] = y at r2 HT2 HNE
      clear hc1 hc2
      by_cases hxy : x = y
      · subst hxy
        have hth := HT2.out rfl
        have HTH := Lib.hid hth
        clear hth
        go_wp2_with (fail)
        go_quiet (fail)
        go_wp2
        go_roundw
        case rel => exact ⟨k + 1, by go_num, by omega, HTH.out, HB.out.trans (bel_drewN _ _)⟩
        case measure => simp [intOf]; omega
      · have hq := str_ne hxy
        have HNQ := Lib.hid (HNE.out hxy)
        have hbe : (x == y) = false := by rw [beq_eq_false_iff_ne]; exact hxy
        have hbn : (x != y) = true := by simpa using hxy
        clear hxy
        go_wp2_with (fail)
        go_quiet (fail)
        go_wp2
        go_ret
        exact ⟨by rw [decide_eq_false HNQ.out]; rfl, HB.out.trans (bel_drewN _ _)⟩
    · have hki : ¬ (k : Int) < n := by omega
      have HEQ : Hid (xs = ys) := Lib.hid (by
        have h := HTK.out
        rw [List.take_of_length_le (by have := HN.out; omega), List.take_of_length_le (by have := HM.out; omega)] at h
        exact h)
      go_wp2_with (fail)
      go_ret
      exact ⟨by rw [decide_eq_true HEQ.out]; rfl, HB.out⟩
end Go.Proofs.YtjdfajgjejpfeaaGreatDoor

namespace Go.Proofs.YtjdfajgjejpfeaaGreatDoor
open Go.RowKit Go.Sort
set_option linter.unusedVariables false
set_option linter.unusedSimpArgs false
set_option maxRecDepth 100000

set_option maxHeartbeats 4000000 in
theorem rgfind_any (L M : List (List UInt8)) (A X : Option Addr) (n c i most m d : Nat) (hn : n = L.length) (hnc : n ≤ c) (hm : m = M.length) (hn4 : n ≤ 4096) (hm5 : m ≤ 100000) (hi : i ≤ n) (w : World) (hS : Sl w w.heap.size A (sv L)) (hX : Sl w w.heap.size X (sv M)) :
    Calls Tryz.prog 25 #[.agg (rgp A n c i most).toArray, .slice X m d] w (FindP w L M i) := by
  obtain ⟨W, hW⟩ : ∃ W, W = w.alloc (.cells (rgp A n c i most).toArray 29) := ⟨_, rfl⟩
  have hc0 : W.cell? ⟨w.heap.size, 0, none⟩ = some (.slice A n c) := by rw [hW]; exact (Blk.new w 29 (rgp A n c i most)).cell 0
  have hc1 : W.cell? ⟨w.heap.size, 1, none⟩ = some (.int .i64 i) := by rw [hW]; exact (Blk.new w 29 (rgp A n c i most)).cell 1
  have hb0 : Below w.heap.size w W := by rw [hW]; exact (Below.refl _ w).alloc (Nat.le_refl _) _
  have hl0 : w.heap.size < W.heap.size := by rw [hW]; simp
  have HB0 := Lib.hid hb0
  have HL0 := Lib.hid hl0
  simp only [rgp] at hW ⊢
  clear hb0 hl0
  have HX := Lib.hid hX
  have HN := Lib.hid hn
  have HM := Lib.hid hm
  have HNC := Lib.hid hnc
  have HC0 := Lib.hid hc0
  have HSD : Hid (∀ k, k ≤ n → ∀ V, Below w.heap.size w V → Sl V V.heap.size (bh A c k) (sv ((L.drop k).take m))) := Lib.hid (fun k hk V hV => by
    have h1 := sl_drop ((hS.below hV).more hV.size) c k (by rw [sv_length]; omega) (by rw [sv_length]; omega)
    rw [sv_drop] at h1
    have h2 := h1.take m
    rwa [sv_take] at h2)
  clear hX hn hm hS hnc hc0
  go_enter Tryz.func25, Tryz.ntmps25
  go_upto_region 1 with (fail)
  rw [← hW]
  clear hW
  go_wp2_with (fail)
  go_loopw [6] (fun v wr => ∃ k : Nat, v = .int .i64 k ∧ i ≤ k ∧ k ≤ n ∧ (∀ j, j < k → okAt L M i j = false) ∧ Below W.heap.size W wr) (fun v _ => n - (intOf v).toNat)
  case atStart => exact ⟨i, rfl, Nat.le_refl _, hi, (fun j hj => by unfold okAt; rw [decide_eq_false (by omega)]; rfl), Below.refl _ _⟩
  case round =>
    obtain ⟨k, rfl, hik, hkn, hall, hb⟩ := hrel
    have HALL := Lib.hid hall
    have HB := Lib.hid hb
    have hcw := (hb.cell (p := ⟨w.heap.size, 0, none⟩) HL0.out).trans HC0.out
    have HBB := Lib.hid (HB0.out.trans (hb.mono HB0.out.size))
    clear hall hb
    rcases Nat.eq_zero_or_pos m with h0 | h0
    · subst h0
      have HM0 : Hid (M = []) := Lib.hid (List.eq_nil_of_length_eq_zero HM.out.symm)
      clear hm5
      go_wp2_with (fail)
      go_ret2
      exact ⟨0, false, rfl, .inr ⟨rfl, rfl, .inl HM0.out⟩, HBB.out⟩
    · have hmi : (m : Int) > 0 := by omega
      have HMN : Hid (M ≠ []) := Lib.hid (fun e => by have := HM.out; rw [e] at this; simp at this; omega)
      by_cases hg : k < n ∧ m ≤ n - k
      · obtain ⟨hg1, hg2⟩ := hg
        have hgi : (k : Int) < n := by omega
        have hgm : (m : Int) ≤ (n : Int) - (k : Int) := by omega
        have E1 : ∀ V, (Instr.slice 27 (.slice A n c) (some (.int .i64 (k : Int))) (some (.int .i64 ((k : Int) + (m : Int)))) none).run Tryz.prog V = .ok (.slice (bh A c k) m (c - k)) V := fun V => by
          have h8 := sl_lh A n c k (k + m) (by omega) (by have := HNC.out; omega) V
          rw [show ((k + m : Nat) : Int) = (k : Int) + (m : Int) by omega, show k + m - k = m by omega] at h8
          exact h8
        have HLD : Hid (((L.drop k).take m).length = m) := Lib.hid (by rw [List.length_take, List.length_drop]; have := HN.out; omega)
        have HOK : Hid (okAt L M i k = decide ((L.drop k).take m = M)) := Lib.hid (by unfold okAt standB; rw [decide_eq_true hik, ← HM.out]; simp)
        have HQ : Hid (Calls Tryz.prog 21 #[.slice (bh A c k) m (c - k), .slice X m d] wr fun e w' => e = .returned (.bool (decide ((L.drop k).take m = M))) ∧ Below wr.heap.size wr w') := Lib.hid (sameall_dec _ _ _ _ m (c - k) d HLD.out.symm HM.out (by omega) wr (HSD.out k hkn _ HBB.out) ((HX.out.below HBB.out).more HBB.out.size))
        generalize decide ((L.drop k).take m = M) = q at HOK HQ
        clear hg2
        cases q with
        | true =>
          go_wp2_with (go_at_call 21; refine HQ.out.mono ?_; rintro e w2 ⟨rfl, hb2⟩; have HB2 := Lib.hid (HBB.out.trans (hb2.mono HBB.out.size)); clear hb2)
          go_ret2
          exact ⟨k, true, rfl, .inl ⟨rfl, HMN.out, k, rfl, by have := HN.out; omega, HOK.out, HALL.out⟩, HB2.out⟩
        | false =>
          go_wp2_with (go_at_call 21; refine HQ.out.mono ?_; rintro e w2 ⟨rfl, hb2⟩; have HB2 := Lib.hid (HB.out.trans (hb2.mono HB.out.size)); clear hb2)
          go_roundw
          case rel => exact ⟨k + 1, by go_num, by omega, by omega, (fun j hj => by
            rcases Nat.lt_or_ge j k with h | h
            · exact HALL.out j h
            · obtain rfl : j = k := by omega
              exact HOK.out), HB2.out⟩
          case measure => simp [intOf]; omega
      · have HF : Hid (FindR L M i 0 false) := Lib.hid (.inr ⟨rfl, rfl, .inr (fun j hj => by
          rcases Nat.lt_or_ge j k with h | h
          · exact HALL.out j h
          · have h1 := HN.out
            have h2 := HM.out
            have h3 : standB L M j = false := by
              cases hq : standB L M j with
              | false => rfl
              | true => have := stand_len hq; omega
            unfold okAt
            rw [h3]
            simp)⟩)
        by_cases hg1 : k < n
        · have hgi : (k : Int) < n := by omega
          have hgm : ¬ ((m : Int) ≤ (n : Int) - (k : Int)) := by omega
          clear hg
          go_wp2_with (fail)
          go_ret2
          exact ⟨0, false, rfl, HF.out, HBB.out⟩
        · have hgi : ¬ ((k : Int) < n) := by omega
          clear hg
          go_wp2_with (fail)
          go_ret2
          exact ⟨0, false, rfl, HF.out, HBB.out⟩
/-- Find tells one thing. -/
theorem FindR.one {L l : List (List UInt8)} {c : Nat} {v v' : Int} {b b' : Bool} (h : FindR L l c v b) (h' : FindR L l c v' b') : v = v' ∧ b = b' := by
  rcases h with ⟨rfl, hl, i, rfl, hi, ho, hn⟩ | ⟨rfl, rfl, h0⟩
  · rcases h' with ⟨rfl, _, j, rfl, hj, ho', hn'⟩ | ⟨rfl, rfl, h0'⟩
    · rcases Nat.lt_trichotomy i j with h | h | h
      · rw [hn' i h] at ho; cases ho
      · exact ⟨by rw [h], rfl⟩
      · rw [hn j h] at ho'; cases ho'
    · rcases h0' with h0' | h0'
      · exact absurd h0' hl
      · rw [h0' i hi] at ho; cases ho
  · rcases h' with ⟨rfl, hl, j, rfl, hj, ho', hn'⟩ | ⟨rfl, rfl, h0'⟩
    · rcases h0 with h0 | h0
      · exact absurd h0 hl
      · rw [h0 j hj] at ho'; cases ho'
    · exact ⟨rfl, rfl⟩
end Go.Proofs.YtjdfajgjejpfeaaGreatDoor

namespace Go.Proofs.YtjdfajgjejpfeaaGreatDoor
open Go.RowKit
set_option linter.unusedVariables false
set_option linter.unusedSimpArgs false

theorem iv_zv (T : List (Nat × List UInt8)) : iv T = zv (T.map fun x => ((x.1 : Nat) : Int)) := by simp [iv, zv]
theorem riseV_zv (n : Nat) : riseV n = zv ((List.range n).map fun k => ((k : Nat) : Int)) := by simp [riseV, zv]
theorem tv_sv (T : List (Nat × List UInt8)) : tv T = sv (T.map (·.2)) := by simp [tv, sv]
theorem ats_fst (l : List (List UInt8)) : (ats l).map (·.1) = List.range l.length := by
  apply List.ext_getElem?
  intro k
  rcases Nat.lt_or_ge k l.length with h | h
  · rw [List.getElem?_map, ats_get h, List.getElem?_range h]; rfl
  · rw [List.getElem?_eq_none (by rw [List.length_map, ats_length]; exact h), List.getElem?_eq_none (by rw [List.length_range]; exact h)]
theorem ats_take_iv (l : List (List UInt8)) (m : Nat) : iv ((ats l).take m) = zv ((List.range (min m l.length)).map fun k => ((k : Nat) : Int)) := by
  rw [iv_zv]
  have e : ((ats l).take m).map (fun x => ((x.1 : Nat) : Int)) = (((ats l).map (·.1)).take m).map (fun k => ((k : Nat) : Int)) := by
    rw [← List.map_take, List.map_map]; rfl
  rw [e, ats_fst, List.take_range]
theorem ats_take_tv (l : List (List UInt8)) (m : Nat) : tv ((ats l).take m) = sv (l.take m) := by
  rw [tv_sv, List.map_take, ats_snd]
/-- the places ahead of a cursor, falling -/
def fallZ (n : Nat) : List Int := ((List.range n).map fun k => ((k : Nat) : Int)).reverse
theorem fallZ_length (n : Nat) : (fallZ n).length = n := by simp [fallZ]
theorem fallZ_succ (n : Nat) : fallZ (n + 1) = ((n : Nat) : Int) :: fallZ n := by simp [fallZ, List.range_succ]
theorem fallZ_get {n k : Nat} (h : k < n) : (fallZ n).take (n - k) ++ [] = (fallZ n).take (n - k) := by simp
theorem ats_rev_iv (p : List (List UInt8)) (m : Nat) : iv ((ats p).reverse.take m) = zv ((fallZ p.length).take m) := by
  rw [iv_zv, List.map_take, List.map_reverse]
  have e : (ats p).map (fun x => ((x.1 : Nat) : Int)) = ((ats p).map (·.1)).map (fun k => ((k : Nat) : Int)) := by rw [List.map_map]; rfl
  rw [e, ats_fst]
  rfl
theorem ats_rev_tv (p : List (List UInt8)) (m : Nat) : tv ((ats p).reverse.take m) = sv (p.reverse.take m) := by
  rw [tv_sv, List.map_take, List.map_reverse, ats_snd]
end Go.Proofs.YtjdfajgjejpfeaaGreatDoor

namespace Go.Proofs.YtjdfajgjejpfeaaGreatDoor
open Go.RowKit Go.Sort
set_option linter.unusedVariables false
set_option linter.unusedSimpArgs false
set_option maxRecDepth 100000

theorem fallZ_take {i j m : Nat} (h : m + 1 + j = i) : (fallZ i).take (j + 1) = (fallZ i).take j ++ [((m : Nat) : Int)] := by
  have hj : j < (fallZ i).length := by rw [fallZ_length]; omega
  rw [List.take_succ_eq_append_getElem hj]
  congr 2
  simp only [fallZ, List.getElem_reverse, List.length_map, List.length_range, List.getElem_map, List.getElem_range]
  omega
theorem rev_take {l : List (List UInt8)} {i j m : Nat} (h : m + 1 + j = i) (hi : i ≤ l.length) (hm : m < l.length) : ((l.take i).reverse).take (j + 1) = ((l.take i).reverse).take j ++ [l[m]] := by
  have hl : ((l.take i).reverse).length = i := by rw [List.length_reverse, List.length_take]; omega
  have hj : j < ((l.take i).reverse).length := by omega
  rw [List.take_succ_eq_append_getElem hj]
  congr 2
  simp only [List.getElem_reverse, List.getElem_take, List.length_take]
  congr 1
  omega
/-- what falling hands back -/
def FallP (w : World) (l : List (List UInt8)) (i : Nat) (e : Ending) (w' : World) : Prop :=
  ∃ A1 c1 A2 c2, e = .returned (.tuple #[.slice A1 i c1, .slice A2 i c2]) ∧ OR w' w.heap.size 3 A1 i c1 (zv (fallZ i)) ∧ OR w' w.heap.size 9 A2 i c2 (sv (l.take i).reverse) ∧ Below w.heap.size w w'
def FallR (W : World) (l : List (List UInt8)) (i : Nat) (v4 v5 v6 : Value) (wr : World) : Prop :=
  ∃ (j : Nat) (z : Int) (A1 : Option Addr) (c1 : Nat) (A2 : Option Addr) (c2 : Nat), (v4 = .slice A1 j c1 ∧ v5 = .slice A2 j c2 ∧ v6 = .int .i64 z) ∧ j ≤ i ∧ z = (i : Int) - 1 - (j : Int) ∧
    OR wr W.heap.size 3 A1 j c1 (zv ((fallZ i).take j)) ∧ OR wr W.heap.size 9 A2 j c2 (sv ((l.take i).reverse.take j)) ∧ Below W.heap.size W wr
set_option maxHeartbeats 4000000 in
theorem falling_any (l : List (List UInt8)) (A : Option Addr) (n c i most : Nat) (hn : n = l.length) (hn4 : n ≤ 4096) (hi : i ≤ n) (w : World) (hS : Sl w w.heap.size A (sv l)) :
    Calls Tryz.prog 32 #[.agg (rgp A n c i most).toArray] w (FallP w l i) := by
  obtain ⟨W, hW⟩ : ∃ W, W = w.alloc (.cells (rgp A n c i most).toArray 29) := ⟨_, rfl⟩
  have hc0 : W.cell? ⟨w.heap.size, 0, none⟩ = some (.slice A n c) := by rw [hW]; exact (Blk.new w 29 (rgp A n c i most)).cell 0
  have hc1 : W.cell? ⟨w.heap.size, 1, none⟩ = some (.int .i64 i) := by rw [hW]; exact (Blk.new w 29 (rgp A n c i most)).cell 1
  have hb0 : Below w.heap.size w W := by rw [hW]; exact (Below.refl _ w).alloc (Nat.le_refl _) _
  have hl0 : w.heap.size < W.heap.size := by rw [hW]; simp
  have HB0 := Lib.hid hb0
  have HL0 := Lib.hid hl0
  simp only [rgp] at hW ⊢
  clear hb0 hl0
  have HS := Lib.hid hS
  have HN := Lib.hid hn
  have HC0 := Lib.hid hc0
  clear hS hn hc0
  go_enter Tryz.func32, Tryz.ntmps32
  go_upto_region 1 with (fail)
  rw [← hW]
  clear hW
  go_wp2_with (fail)
  go_loopw [4, 5, 6] (fun v4 v5 v6 wr => FallR W l i v4 v5 v6 wr) (fun _ _ v _ => (intOf v + 1).toNat)
  case atStart => exact ⟨0, _, none, 0, none, 0, ⟨rfl, rfl, rfl⟩, by omega, by first | rfl | simp, OR.none_ _ _ _, OR.none_ _ _ _, Below.refl _ _⟩
  case round =>
    obtain ⟨j, z, A1, c1, A2, c2, ⟨rfl, rfl, rfl⟩, hj, hz, ho1, ho2, hb⟩ := hrel
    have HO1 := Lib.hid ho1
    have HO2 := Lib.hid ho2
    have HB := Lib.hid hb
    have hcw := (hb.cell (p := ⟨w.heap.size, 0, none⟩) HL0.out).trans HC0.out
    clear ho1 ho2 hb
    by_cases hlt : j < i
    · obtain ⟨m, hm⟩ : ∃ m : Nat, m + 1 + j = i := ⟨i - 1 - j, by omega⟩
      obtain rfl : z = ((m : Nat) : Int) := by omega
      have hmi : ((m : Nat) : Int) ≥ 0 := by omega
      have hml : m < l.length := by have := HN.out; omega
      have hmn : (m : Int) < (n : Int) := by have := HN.out; omega
      have hm4 : m ≤ 4096 := by omega
      obtain ⟨b, off, rfl, hbb, hcell⟩ := sv_at HS.out hml
      have hcr := (HB.out.cell (p := ⟨b, off + m, none⟩) (Nat.lt_trans hbb HL0.out)).trans ((HB0.out.cell (p := ⟨b, off + m, none⟩) hbb).trans hcell)
      have HFZ : Hid (zv ((fallZ i).take (j + 1)) = zv ((fallZ i).take j) ++ [.int .i64 (m : Int)]) := Lib.hid (by rw [fallZ_take hm]; unfold zv; rw [List.map_append]; rfl)
      have HFS : Hid (sv ((l.take i).reverse.take (j + 1)) = sv ((l.take i).reverse.take j) ++ [.string ⟨(l[m]).toArray⟩]) := Lib.hid (by rw [rev_take hm (by have := HN.out; omega) hml]; unfold sv; rw [List.map_append]; rfl)
      generalize l[m] = y at hcr hcell HFS
      have HM := Lib.hid hm
      have hj4 : j ≤ 4096 := by omega
      clear hcell hm hz hlt
      have hbr : b < wr.heap.size := by have h1 := HB0.out.size; have h2 := HB.out.size; omega
      have hwr0 : w.heap.size < wr.heap.size := by have h1 := HL0.out; have h2 := HB.out.size; omega
      go_wp2_with (first
        | (at_builtin; refine wpList_app Tryz.underlying64 i64_info rfl (by omega) _ rfl (.tmp 14) (.tmp 16) rfl W.heap.size A1 j c1 _ rfl (HO1.out.alloc _) (some ⟨wr.heap.size, 0, none⟩) 1 1 [.int .i64 (m : Int)] (wr.heap.size + 1) rfl (Sl.new wr #[.int .i64 (m : Int)] 3) rfl (fun e => by cases e) (by intro u hu; simp at hu; subst hu; rfl) (j + 1) rfl (by omega) (by have := HB.out.size; simp; omega) ?_; intro A3 c3 w3 ho3 hg3 hat3
           have hb3 : Below W.heap.size W w3 := (HB.out.alloc HB.out.size _).grown hg3 (HB.out.alloc HB.out.size _).size (fun q hq => ((HO1.out.alloc (.cells #[.int .i64 (m : Int)] 3)).blk_lt q hq).1)
           have HB3 := Lib.hid hb3
           have HO3 := Lib.hid ho3
           have HO4 := Lib.hid ((HO2.out.alloc (.cells #[.int .i64 (m : Int)] 3)).kept hg3 ((HO2.out.alloc (.cells #[.int .i64 (m : Int)] 3)).apart (HO1.out.alloc (.cells #[.int .i64 (m : Int)] 3)) (by decide)))
           have hcw3 := (hb3.cell (p := ⟨w.heap.size, 0, none⟩) HL0.out).trans HC0.out
           have hcr3 := (hb3.cell (p := ⟨b, off + m, none⟩) (Nat.lt_trans hbb HL0.out)).trans ((hb3.cell (p := ⟨b, off + m, none⟩) (Nat.lt_trans hbb HL0.out)).symm.trans (((hb3.cell (p := ⟨b, off + m, none⟩) (Nat.lt_trans hbb HL0.out))).trans ((HB.out.cell (p := ⟨b, off + m, none⟩) (Nat.lt_trans hbb HL0.out)).symm.trans hcr)))
           clear hb3 ho3 hg3 hat3)
        | (at_builtin; refine wpList_app Tryz.underlying27 str_info rfl (by omega) _ rfl (.tmp 18) (.tmp 24) rfl W.heap.size A2 j c2 _ rfl (HO4.out.alloc _) (some ⟨w3.heap.size, 0, none⟩) 1 1 [.string ⟨y.toArray⟩] (w3.heap.size + 1) rfl (Sl.new w3 #[.string ⟨y.toArray⟩] 9) rfl (fun e => by cases e) (by intro u hu; simp at hu; subst hu; rfl) (j + 1) rfl (by omega) (by have := HB3.out.size; simp; omega) ?_; intro A5 c5 w5 ho5 hg5 hat5
           have hb5 : Below W.heap.size W w5 := (HB3.out.alloc HB3.out.size _).grown hg5 (HB3.out.alloc HB3.out.size _).size (fun q hq => ((HO4.out.alloc (.cells #[.string ⟨y.toArray⟩] 9)).blk_lt q hq).1)
           have HB5 := Lib.hid hb5
           have HO5 := Lib.hid ho5
           have HO6 := Lib.hid ((HO3.out.alloc (.cells #[.string ⟨y.toArray⟩] 9)).kept hg5 ((HO3.out.alloc (.cells #[.string ⟨y.toArray⟩] 9)).apart (HO4.out.alloc (.cells #[.string ⟨y.toArray⟩] 9)) (by decide)))
           clear hb5 ho5 hg5 hat5))
      go_roundw
      case rel => exact ⟨j + 1, _, A3, c3, A5, c5, ⟨rfl, rfl, rfl⟩, by have := HM.out; omega, by have := HM.out; omega, by rw [HFZ.out]; exact HO6.out, by rw [HFS.out]; exact HO5.out, HB5.out⟩
      case measure => simp [intOf]
    · obtain rfl : j = i := by omega
      obtain rfl : z = -1 := by omega
      have HF1 : Hid ((fallZ j).take j = fallZ j) := Lib.hid (List.take_of_length_le (by rw [fallZ_length]; omega))
      have HF2 : Hid ((l.take j).reverse.take j = (l.take j).reverse) := Lib.hid (List.take_of_length_le (by rw [List.length_reverse, List.length_take]; omega))
      clear hz hlt
      go_wp2_with (fail)
      go_ret2
      exact ⟨A1, c1, A2, c2, rfl, by rw [← HF1.out]; exact HO1.out.weaken HB0.out.size, by rw [← HF2.out]; exact HO2.out.weaken HB0.out.size, HB0.out.trans (HB.out.mono HB0.out.size)⟩
end Go.Proofs.YtjdfajgjejpfeaaGreatDoor

