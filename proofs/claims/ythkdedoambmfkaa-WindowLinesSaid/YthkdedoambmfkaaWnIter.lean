/-
  Walks: slices.All and slices.Backward over rows of ints.
-/
import Derived.RangeFuncNested
import Derived.RangeFuncBound
import Derived.RangeFuncCalls
import Derived.RangeFuncLeaves
import Derived.Shelf.Abstract
import Derived.Shelf.RegionOpen
import Derived.OwnWalkIn
import Derived.TacticsInMore
import Derived.LoopNIn
import Derived.LoopIn
import Derived.IntWalk
import Derived.Stop.RegionWithIn
import Derived.Outline
import Derived.Test.YthkdedoambmfkaaGwA
import Derived.Test.YthkdedoambmfkaaWnFns
namespace Go.Proofs.Ythkdedoambmfkaa
open Go.RowKit Go.Shelf Go.Sort
attribute [local go_sem] Oper.semAt_some
set_option linter.unusedVariables false
set_option linter.unusedSimpArgs false

/-- ints with their places -/
def lnsI (T : List Int) : List (Nat × Int) := T.zipIdx.map fun x => (x.2, x.1)
theorem lnsI_length (T : List Int) : (lnsI T).length = T.length := by simp [lnsI]
theorem lnsI_get {T : List Int} {k : Nat} (h : k < T.length) : (lnsI T)[k]? = some (k, T[k]) := by
  simp [lnsI, List.getElem?_zipIdx, List.getElem?_eq_getElem h]
theorem lnsI_snd (T : List Int) : (lnsI T).map (·.2) = T := by
  apply List.ext_getElem?
  intro k
  simp only [lnsI, List.getElem?_map, List.map_map, List.getElem?_zipIdx]
  cases T[k]? <;> simp
theorem lnsI_rev {l : List Int} {k : Nat} (h : k < l.length) : (lnsI l).reverse[l.length - (k + 1)]? = some (k, l[k]) := by
  rw [List.getElem?_reverse (by rw [lnsI_length]; omega), lnsI_length, show l.length - 1 - (l.length - (k + 1)) = k by omega, lnsI_get h]
theorem zi_atG {w : World} {B : Nat} {A : Option Addr} {L : List Int} (h : Sl w B A (zi L)) {k : Nat} (hk : k < L.length) : ∃ b off, A = some ⟨b, off, none⟩ ∧ b < B ∧ w.cell? ⟨b, off + k, none⟩ = some (.int .i64 L[k]) :=
  zi_at h (List.getElem?_eq_getElem hk)
def encI (x : Nat × Int) : Array Value := #[.int .i64 x.1, .int .i64 x.2]
set_option maxHeartbeats 400000 in
theorem iall_any (A : Option Addr) (n c : Nat) (w : World) : Calls Try.prog 14 #[.slice A n c] w fun e w' =>
    e = .returned (.func (.func 24) #[] #[.pointer (some ⟨w.heap.size, 0, none⟩)]) ∧ w' = w.alloc (.cells #[.slice A n c] 22) := by
  go_enter Try.func14, Try.ntmps14
  go_wp2
  go_ret
  exact ⟨rfl, rfl⟩
set_option maxHeartbeats 400000 in
theorem iback_any (A : Option Addr) (n c : Nat) (w : World) : Calls Try.prog 13 #[.slice A n c] w fun e w' =>
    e = .returned (.func (.func 23) #[] #[.pointer (some ⟨w.heap.size, 0, none⟩)]) ∧ w' = w.alloc (.cells #[.slice A n c] 22) := by
  go_enter Try.func13, Try.ntmps13
  go_wp2
  go_ret
  exact ⟨rfl, rfl⟩

set_option maxRecDepth 100000 in
set_option maxHeartbeats 4000000 in
theorem iback_stops (line : List Int) (L c : Nat) (X : Option Addr) (m : Nat) (bd : Nat) (w : World) (hL : line.length = L) (h4 : L ≤ 100000) (hS : Sl w w.heap.size X (zi line)) (hbd : Boxed w bd 22 (.slice X L c)) (f0 : Nat → Prop) (f1 : f0 bd) (f2 : ∀ k, blk X = some k → 0 < L → f0 k) :
    SeqP Fence.wide (m + 2) Try.prog 23 #[.pointer (some ⟨bd, 0, none⟩)] encI f0 (fun x => line[x.1]? = some x.2) (fun ys => ys = (lnsI line).reverse) (fun pre => pre <+: (lnsI line).reverse) L w := by
  intro l J Jx W hsz hf0 hJ hJx hY h0
  have hbdW : Boxed W bd 22 (.slice X L c) := (hf0 bd f1).trans hbd
  have hcd := hbdW.cell
  have HY := Lib.hid hY
  have H0 := Lib.hid h0
  have HS := Lib.hid hS
  have HF0 := Lib.hid hf0
  have HFR := Lib.hid f2
  have HF1 := Lib.hid f1
  have HLL := Lib.hid hL
  have HBD := Lib.hid hbdW
  clear hJ hJx hY h0 hf0 hbd hbdW hS f2 f1 hL
  refine callsIn_of_wp Try.func23 rfl trivial ?_ rfl
  simp only [Try.ntmps23, List.size_toArray, List.length_cons, List.length_nil, Nat.reduceAdd, Nat.reduceSub, Array.replicate_succ, Array.replicate_zero, List.push_toArray, List.append_toArray, List.nil_append, List.cons_append]
  gi_wp2
  gi_loopw [3] (fun v wr => ∃ k : Nat, v = .int .i64 ((k : Int) - 1) ∧ k ≤ L ∧ J ((lnsI line).reverse.take (L - k)) f0 wr ∧ (∀ j, f0 j → wr.heap[j]? = W.heap[j]?)) (fun v _ => (intOf v + 1).toNat)
  case atStart => exact ⟨L, by go_num, by omega, by rw [Nat.sub_self]; exact H0.out, fun _ _ => rfl⟩
  case round =>
    obtain ⟨k, rfl, hk, hj, hf⟩ := hrel
    have HJp := Lib.hid hj
    have HFF := Lib.hid hf
    clear hj hf
    by_cases hlt : 0 < k
    · obtain ⟨i, rfl⟩ : ∃ i, k = i + 1 := ⟨k - 1, by omega⟩
      rw [show ((i + 1 : Nat) : Int) - 1 = (i : Int) by omega]
      have hki : (i : Int) ≥ 0 := by omega
      have hil : (i : Int) < L := by omega
      have hkl : i < line.length := by rw [HLL.out]; omega
      obtain ⟨b, off, hA2, hbb, hcell⟩ := zi_atG HS.out hkl
      subst hA2
      have hrow : wr.cell? ⟨b, off + i, none⟩ = some (.int .i64 (line[i])) := (World.cell?_of_block (w := w) (a := ⟨b, off + i, none⟩) ((HFF.out b (HFR.out b rfl (by omega))).trans (HF0.out b (HFR.out b rfl (by omega))))).trans hcell
      have hcr : wr.cell? ⟨bd, 0, none⟩ = some (.slice (some ⟨b, off, none⟩) L c) := (World.cell?_of_block (w := W) (a := ⟨bd, 0, none⟩) (HFF.out bd HF1.out)).trans hcd
      have hx := lnsI_rev hkl
      rw [HLL.out] at hx
      have htk : (lnsI line).reverse.take (L - i) = (lnsI line).reverse.take (L - (i + 1)) ++ [(i, line[i])] := by
        rw [show L - i = (L - (i + 1)) + 1 by omega, List.take_add_one, hx]; rfl
      have hlk : ((lnsI line).reverse.take (L - (i + 1))).length < L := by rw [List.length_take, List.length_reverse, lnsI_length]; omega
      have hyy := HY.out _ (i, line[i]) f0 _ HJp.out hlk (List.getElem?_eq_getElem hkl)
      generalize line[i] = d at hrow hx htk hyy
      have HTK := Lib.hid htk
      have HPX : Hid ((lnsI line).reverse.take (L - (i + 1)) ++ [(i, d)] <+: (lnsI line).reverse) := by show _ <+: _; rw [← htk]; exact List.take_prefix _ _
      obtain ⟨fn, tmps, assign, body, hy, hR⟩ := hyy
      simp only [encI] at hy
      clear hcell hx htk hlk hbb
      gi_wp2
      refine hR.mono ?_
      rintro e W3 (⟨rfl, hJ3, hk3⟩ | ⟨rfl, hJ3, hk3⟩)
      · have hJ4 : J ((lnsI line).reverse.take (L - i)) f0 W3 := by rw [HTK.out]; exact hJ3
        have hf4 : ∀ j, f0 j → W3.heap[j]? = W.heap[j]? := fun j hj => (hk3.mine j hj).trans (HFF.out j hj)
        gi_wp2
        exact ⟨⟨i, by go_num, by omega, hJ4, hf4⟩, by simp only [intOf]; omega⟩
      · gi_wp2
        refine bodyPost_ret (results_none rfl _ _ _) rfl ?_
        exact ⟨⟨_, rfl⟩, .inr ⟨_, f0, HPX.out, hJ3⟩⟩
    · have hk0 : k = 0 := by omega
      subst hk0
      rw [show ((0 : Nat) : Int) - 1 = -1 by omega]
      have hfin := HJp.out
      rw [List.take_of_length_le (by rw [List.length_reverse, lnsI_length, HLL.out]; omega)] at hfin
      gi_wp2
      go_end0
      first | exact ⟨⟨_, rfl⟩, .inl ⟨_, f0, rfl, hfin⟩⟩ | exact ⟨⟨_, rfl⟩, .inl ⟨f0, hfin⟩⟩

set_option maxRecDepth 100000 in
set_option maxHeartbeats 4000000 in
theorem iall_stops (line : List Int) (L c : Nat) (X : Option Addr) (m : Nat) (bd : Nat) (w : World) (hL : line.length = L) (h4 : L ≤ 100000) (hS : Sl w w.heap.size X (zi line)) (hbd : Boxed w bd 22 (.slice X L c)) (f0 : Nat → Prop) (f1 : f0 bd) (f2 : ∀ k, blk X = some k → 0 < L → f0 k) :
    SeqP Fence.wide (m + 2) Try.prog 24 #[.pointer (some ⟨bd, 0, none⟩)] encI f0 (fun x => line[x.1]? = some x.2) (fun ys => ys = lnsI line) (fun pre => pre <+: lnsI line) L w := by
  intro l J Jx W hsz hf0 hJ hJx hY h0
  have hbdW : Boxed W bd 22 (.slice X L c) := (hf0 bd f1).trans hbd
  have hcd := hbdW.cell
  have HY := Lib.hid hY
  have H0 := Lib.hid h0
  have HS := Lib.hid hS
  have HF0 := Lib.hid hf0
  have HFR := Lib.hid f2
  have HF1 := Lib.hid f1
  have HLL := Lib.hid hL
  have HBD := Lib.hid hbdW
  clear hJ hJx hY h0 hf0 hbd hbdW hS f2 f1 hL
  refine callsIn_of_wp Try.func24 rfl trivial ?_ rfl
  simp only [Try.ntmps24, List.size_toArray, List.length_cons, List.length_nil, Nat.reduceAdd, Nat.reduceSub, Array.replicate_succ, Array.replicate_zero, List.push_toArray, List.append_toArray, List.nil_append, List.cons_append]
  gi_wp2_with (fail)
  clear hcd
  gi_loopw [7] (fun v wr => ∃ k : Nat, v = .int .i64 k ∧ k ≤ L ∧ J ((lnsI line).take k) f0 wr ∧ (∀ j, f0 j → wr.heap[j]? = W.heap[j]?)) (fun v _ => L - (intOf v).toNat)
  case atStart => exact ⟨0, rfl, by omega, H0.out, fun _ _ => rfl⟩
  case round =>
    obtain ⟨k, rfl, hk, hj, hf⟩ := hrel
    have HJp := Lib.hid hj
    have HFF := Lib.hid hf
    clear hj hf
    by_cases hlt : k < L
    · have hki : (k : Int) < L := by omega
      have hkl : k < line.length := by rw [HLL.out]; omega
      obtain ⟨b, off, hA2, hbb, hcell⟩ := zi_atG HS.out hkl
      subst hA2
      have hrow : wr.cell? ⟨b, off + k, none⟩ = some (.int .i64 (line[k])) := (World.cell?_of_block (w := w) (a := ⟨b, off + k, none⟩) ((HFF.out b (HFR.out b rfl (by omega))).trans (HF0.out b (HFR.out b rfl (by omega))))).trans hcell
      have hx := lnsI_get hkl
      have htk : (lnsI line).take (k + 1) = (lnsI line).take k ++ [(k, line[k])] := by
        rw [List.take_add_one, hx]; rfl
      have hlk : ((lnsI line).take k).length < L := by rw [List.length_take, lnsI_length]; omega
      have hyy := HY.out _ (k, line[k]) f0 _ HJp.out hlk (List.getElem?_eq_getElem hkl)
      generalize line[k] = d at hrow hx htk hyy
      have HTK := Lib.hid htk
      have HPX : Hid ((lnsI line).take k ++ [(k, d)] <+: lnsI line) := by show _ <+: _; rw [← htk]; exact List.take_prefix _ _
      obtain ⟨fn, tmps, assign, body, hy, hR⟩ := hyy
      simp only [encI] at hy
      clear hcell hx htk hlk hbb
      gi_wp2
      refine hR.mono ?_
      rintro e W3 (⟨rfl, hJ3, hk3⟩ | ⟨rfl, hJ3, hk3⟩)
      · have hJ4 : J ((lnsI line).take (k + 1)) f0 W3 := by rw [HTK.out]; exact hJ3
        have hf4 : ∀ j, f0 j → W3.heap[j]? = W.heap[j]? := fun j hj => (hk3.mine j hj).trans (HFF.out j hj)
        gi_wp2
        exact ⟨⟨k + 1, by go_num, by omega, hJ4, hf4⟩, by simp only [intOf]; omega⟩
      · gi_wp2
        refine bodyPost_ret (results_none rfl _ _ _) rfl ?_
        exact ⟨⟨_, rfl⟩, .inr ⟨_, f0, HPX.out, hJ3⟩⟩
    · have hki : ¬ (k : Int) < L := by omega
      have hfin := HJp.out
      rw [List.take_of_length_le (by rw [lnsI_length, HLL.out]; omega)] at hfin
      gi_wp2
      go_end0
      first | exact ⟨⟨_, rfl⟩, .inl ⟨_, f0, rfl, hfin⟩⟩ | exact ⟨⟨_, rfl⟩, .inl ⟨f0, hfin⟩⟩
end Go.Proofs.Ythkdedoambmfkaa
