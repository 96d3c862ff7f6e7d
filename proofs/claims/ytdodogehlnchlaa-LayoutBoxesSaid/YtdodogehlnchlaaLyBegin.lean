/-
  Walks: begin, grow.
-/
import Derived.Deep.Cut
import Derived.Deep.DeepCutAuto
import Derived.Test.YtdodogehlnchlaaLyNext
namespace Go.Proofs.Ytdodogehlnchlaa
open Go.RowKit Go.Shelf Go.Sort
attribute [local go_sem] Oper.semAt_some
set_option linter.unusedVariables false
set_option linter.unusedSimpArgs false

theorem slot_info : (Try.prog.info? 62).map (fun i => (i.zero, i.size, i.bytes)) = some (some (.agg (slC slZ).toArray), 7, 56) := by kernel_rfl
theorem part_size : (Try.prog.info? 43).map (·.size) = some 4 := by kernel_rfl
theorem ptC_one (s : Pt) : ∀ v ∈ ptC s, v.oneCell' = true := by
  intro v hv
  simp only [ptC, List.mem_cons, List.not_mem_nil, or_false] at hv
  rcases hv with rfl | rfl | rfl | rfl <;> rfl
theorem made_slots (n : Nat) : (madeCells (slC slZ).toArray (n * 7)).toList = slB (fun _ => slZ) n := by
  apply List.ext_getElem?
  intro i
  by_cases hi : i < n * 7
  · have hd : i = i / 7 * 7 + i % 7 := by omega
    have hm : i % 7 < 7 := Nat.mod_lt _ (by omega)
    have hv : (slC slZ)[i % 7]? = some ((slC slZ)[i % 7]'(by rw [slC_len]; exact hm)) := List.getElem?_eq_getElem _
    have h2 : (slB (fun _ => slZ) n)[i / 7 * 7 + i % 7]? = _ := slB_get (σ := fun _ => slZ) (by omega) hm
    rw [← hd] at h2
    rw [h2]
    unfold madeCells
    simp [hi]
    have hv2 : (slC slZ)[i % (slC slZ).length]? = some ((slC slZ)[i % 7]'(by rw [slC_len]; exact hm)) := hv
    rw [hv2, hv]
    rfl
  · rw [List.getElem?_eq_none (l := slB _ _) (by rw [slB_len]; omega), List.getElem?_eq_none (by simp [madeCells]; omega)]
/-- the slots of the first k parts are made -/
def begK (P : Nat → Pt) (k : Nat) : Sts := fun i => if i < k then beg P i else slZ
theorem begK_zero (P : Nat → Pt) : begK P 0 = fun _ => slZ := by funext i; simp [begK]
theorem begK_succ (P : Nat → Pt) (k : Nat) : upd (begK P k) k (beg P k) = begK P (k + 1) := by
  funext i
  by_cases h : i = k
  · subst h; simp [upd, begK]
  · by_cases h2 : i < k
    · simp [upd, begK, h, h2, show i < k + 1 by omega]
    · simp [upd, begK, h, h2, show ¬ i < k + 1 by omega]
theorem slB_splice' {σ : Sts} {n i : Nat} (hi : i < n) (s : Slt) (ds : List Value) (hd : ds = slC s) : splice (slB σ n) (i * 7) ds = slB (upd σ i s) n := by rw [hd, slB_splice hi]

set_option maxRecDepth 100000 in
set_option maxHeartbeats 8000000 in
theorem begin_any (A : Option Addr) (n c : Nat) (P : Nat → Pt) (w : World) (h1 : 1 ≤ n) (hn : n ≤ 64) (hS : Sl w w.heap.size A (ptB P n)) :
    Calls Try.prog 27 #[.slice A n c] w fun e w' => e = .returned (.slice (some ⟨w.heap.size, 0, none⟩) n n) ∧ Blk w' w.heap.size 62 (slB (beg P) n) ∧ Below w.heap.size w w' := by
  obtain ⟨i0, hi0, hz0, hz1, hz2⟩ := info_parts slot_info
  have hb56 : i0.bytes * n ≤ 281474976710656 := by rw [hz2]; omega
  obtain ⟨ab, off, hA, hab, hcell⟩ := hS.open_ (by rw [ptB_len]; omega)
  subst hA
  have HI0 := Lib.hid hi0
  have HZ0 := Lib.hid hz0
  have HZ1 := Lib.hid hz1
  have HBY := Lib.hid hb56
  have HM := Lib.hid (made_slots n)
  have HCL := Lib.hid hcell
  clear hi0 hz0 hz1 hz2 hb56 hS hcell
  go_enter Try.func27, Try.ntmps27
  go_upto_region 2 with ((with_reducible refine at_dst 8 ?_); refine wpList_make_blk rfl _ _ _ rfl 62 i0 _ 7 Try.underlying56 HI0.out HZ0.out HZ1.out .i64 .i64 n n n rfl rfl rfl rfl HBY.out (by simp only [maxLen]; omega) ?_)
  obtain ⟨W1, hW1⟩ : ∃ W1, W1 = w.alloc (.cells (madeCells (slC slZ).toArray (n * 7)) 62) := ⟨_, rfl⟩
  have hB1 : Blk W1 w.heap.size 62 (slB (begK P 0) n) := by rw [begK_zero, ← HM.out, hW1]; exact Blk.new _ _ _
  have hb1 : Below w.heap.size w W1 := by rw [hW1]; exact (Below.refl _ w).alloc (Nat.le_refl _) _
  rw [← hW1]
  clear hW1 HI0 HZ0 HZ1 HBY HM
  have HB1 := Lib.hid hB1
  have HBB1 := Lib.hid hb1
  clear hB1 hb1
  go_wp2_with (fail)
  go_loopw [11] (fun v wr => ∃ k : Nat, v = .int .i64 k ∧ k ≤ n ∧ Blk wr w.heap.size 62 (slB (begK P k) n) ∧ Below w.heap.size w wr) (fun v _ => n - (intOf v).toNat)
  case atStart => exact ⟨0, rfl, by omega, HB1.out, HBB1.out⟩
  case round =>
    obtain ⟨k, rfl, hk, hj, hf⟩ := hrel
    have HJ := Lib.hid hj
    have HF := Lib.hid hf
    clear hj hf HB1 HBB1
    by_cases hlt : k < n
    · have hki : (k : Int) < n := by omega
      have hrg : wr.rangeAt ab (off + k * 4) (ptC (P k)) := fun j v hv => by
        have hj4 : j < 4 := by have := (List.getElem?_eq_some_iff.1 hv).1; rw [ptC_len] at this; exact this
        rw [Nat.add_assoc]
        exact (HF.out.cell (p := ⟨ab, off + (k * 4 + j), none⟩) hab).trans (HCL.out _ v (by rw [ptB_get hlt hj4]; exact hv))
      have HRG := Lib.hid hrg
      have HN0 := Lib.hid (Blk.new wr 43 (ptC ⟨0, 0, 0, 0⟩))
      have HWL : Hid (w.heap.size < wr.heap.size) := Lib.hid HJ.out.lt
      clear hrg
      go_upto_region 5 with (first
        | ((with_reducible refine at_dst 15 ?_); refine wpList_load_mid rfl _ _ rfl ab (off + k * 4) rfl (ptC (P k)) _ HRG.out Try.underlying43 rfl part_size ?_)
        | ((with_reducible refine at_store 5 ?_); refine wpList_store_blk rfl _ _ _ rfl rfl wr.heap.size 0 43 (ptC ⟨0, 0, 0, 0⟩) (ptC (P k)) rfl rfl HN0.out (by rw [ptC_len, ptC_len]; omega) part_size (ptC_one _) ?_; intro wq hnq hgq))
      have hbq : Below wr.heap.size wr wq := ((Below.refl _ _).alloc (Nat.le_refl _) _).grown hgq (by simp) (fun j hj => by injection hj with hj; omega)
      have hq : Blk wq wr.heap.size 43 (ptC (P k)) := hnq
      have hcs : wq.cell? ⟨wr.heap.size, 0, none⟩ = some (.int .i64 (P k).mn) := hq.cell 0
      have HQ := Lib.hid hq
      have HBQ := Lib.hid hbq
      have HJ2 := Lib.hid (HJ.out.below hbq HJ.out.lt)
      have HF2 := Lib.hid (HF.out.trans (hbq.mono HF.out.size))
      have HFT : Hid (k * 7 + (slC (beg P k)).length ≤ (slB (begK P k) n).length) := by show _ ≤ _; rw [slB_len, slC_len]; omega
      clear hnq hgq hbq hq HN0 HRG
      generalize wr.heap.size = nb at *
      go_wp2_with (first
        | ((with_reducible refine at_dst 18 ?_); refine wpList_load_mid rfl _ _ rfl nb 0 rfl [.int .i64 (P k).mn, .int .i64 (P k).mx, .int .i64 (P k).wt, .int .i64 (P k).kp] _ (HQ.out.range 0 _ (fun j v hv => by rw [Nat.zero_add]; exact hv)) Try.underlying43 rfl part_size ?_)
        | ((with_reducible refine at_store 22 ?_); refine wpList_store_blk rfl _ _ _ rfl rfl w.heap.size (k * 7) 62 (slB (begK P k) n) (slC (beg P k)) rfl rfl HJ2.out HFT.out slot_size (slC_one _) ?_; intro wz hnz hgz))
      have hz : Blk wz w.heap.size 62 (slB (begK P (k + 1)) n) := by rw [slB_splice hlt, begK_succ] at hnz; exact hnz
      have hbz : RowKit.Below w.heap.size w wz := HF2.out.grown hgz HF2.out.size (fun j hj => by injection hj with hj; omega)
      have HZZ := Lib.hid hz
      have HBZ := Lib.hid hbz
      clear hnz hgz hz hbz
      go_wp2_with (fail)
      go_roundw
      case rel => exact ⟨k + 1, by go_num, by omega, HZZ.out, HBZ.out⟩
      case measure => simp [intOf]; omega
    · have hki : ¬ (k : Int) < n := by omega
      obtain rfl : k = n := by omega
      go_wp2_with (fail)
      go_ret
      refine ⟨rfl, ?_, HF.out⟩
      have := HJ.out
      rwa [slB_congr (τ := beg P) (fun i hi => by simp [begK, hi])] at this
end Go.Proofs.Ytdodogehlnchlaa
