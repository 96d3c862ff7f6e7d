/-
  Walks: the iterators over a history's lines: from's closure, slices.Backward's.
-/
import Derived.RangeFuncNested
import Derived.RangeFuncBound
import Derived.RangeFuncCalls
import Derived.RangeFuncLeaves
import Derived.Shelf.Abstract
import Derived.Shelf.RegionOpen
import Derived.OwnWalkIn
import Derived.TacticsInMore
import Derived.LoopNIn
import Derived.LoopIn
import Derived.IntWalk
import Derived.Stop.RegionWithIn
import Derived.Test.YtfjiogockpmogaaDoorGfA
import Derived.Test.YtfjiogockpmogaaDoorHsFns
namespace Go.Proofs.YtfjiogockpmogaaDoor
open Go.RowKit Go.Shelf Go.Sort
attribute [local go_sem] Oper.semAt_some
set_option linter.unusedVariables false
set_option linter.unusedSimpArgs false

/-- the lines with their places -/
def hats (l : List (List UInt8)) : List (Nat × List UInt8) := l.zipIdx.map fun x => (x.2, x.1)
theorem hats_length (l : List (List UInt8)) : (hats l).length = l.length := by simp [hats]
theorem hats_get {l : List (List UInt8)} {k : Nat} (h : k < l.length) : (hats l)[k]? = some (k, l[k]) := by
  simp [hats, List.getElem?_zipIdx, List.getElem?_eq_getElem h]
def encH (x : Nat × List UInt8) : Array Value := #[.int .i64 x.1, .string ⟨x.2.toArray⟩]
theorem hats_rev {l : List (List UInt8)} {k : Nat} (h : k < l.length) : (hats l).reverse[l.length - (k + 1)]? = some (k, l[k]) := by
  rw [List.getElem?_reverse (by rw [hats_length]; omega), hats_length, show l.length - 1 - (l.length - (k + 1)) = k by omega, hats_get h]
theorem hsv_at {w : World} {B : Nat} {X : Option Addr} {l : List (List UInt8)} (h : Sl w B X (sv l)) {k : Nat} (hk : k < l.length) : ∃ b off, X = some ⟨b, off, none⟩ ∧ b < B ∧ w.cell? ⟨b, off + k, none⟩ = some (.string ⟨(l[k]).toArray⟩) := by
  obtain ⟨b, off, rfl, hb, hc⟩ := h.open_ (by rw [sv_length]; omega)
  exact ⟨b, off, rfl, hb, hc k _ (sv_get hk)⟩

set_option maxRecDepth 100000 in
set_option maxHeartbeats 4000000 in
theorem hback_stops (line : List (List UInt8)) (L c : Nat) (X : Option Addr) (m : Nat) (bd : Nat) (w : World) (hL : line.length = L) (h4 : L ≤ 4096) (hS : Sl w w.heap.size X (sv line)) (hbd : Boxed w bd 27 (.slice X L c)) (f0 : Nat → Prop) (f1 : f0 bd) (f2 : ∀ k, blk X = some k → f0 k) :
    SeqP Fence.wide (m + 2) Tryd.prog 59 #[.pointer (some ⟨bd, 0, none⟩)] encH f0 (fun x => line[x.1]? = some x.2) (fun ys => ys = (hats line).reverse) (fun pre => pre <+: (hats line).reverse) L w := by
  intro l J Jx W hsz hf0 hJ hJx hY h0
  have hbdW : Boxed W bd 27 (.slice X L c) := (hf0 bd f1).trans hbd
  have hcd := hbdW.cell
  have HY := Lib.hid hY
  have H0 := Lib.hid h0
  have HS := Lib.hid hS
  have HF0 := Lib.hid hf0
  have HFR := Lib.hid f2
  have HF1 := Lib.hid f1
  have HLL := Lib.hid hL
  have HBD := Lib.hid hbdW
  clear hJ hJx hY h0 hf0 hbd hbdW hS f2 f1 hL
  refine callsIn_of_wp Tryd.func59 rfl trivial ?_ rfl
  simp only [Tryd.ntmps59, List.size_toArray, List.length_cons, List.length_nil, Nat.reduceAdd, Nat.reduceSub, Array.replicate_succ, Array.replicate_zero, List.push_toArray, List.append_toArray, List.nil_append, List.cons_append]
  gi_wp2
  gi_loopw [3] (fun v wr => ∃ k : Nat, v = .int .i64 ((k : Int) - 1) ∧ k ≤ L ∧ J ((hats line).reverse.take (L - k)) f0 wr ∧ (∀ j, f0 j → wr.heap[j]? = W.heap[j]?)) (fun v _ => (intOf v + 1).toNat)
  case atStart => exact ⟨L, by go_num, by omega, by rw [Nat.sub_self]; exact H0.out, fun _ _ => rfl⟩
  case round =>
    obtain ⟨k, rfl, hk, hj, hf⟩ := hrel
    have HJp := Lib.hid hj
    have HFF := Lib.hid hf
    clear hj hf
    by_cases hlt : 0 < k
    · obtain ⟨i, rfl⟩ : ∃ i, k = i + 1 := ⟨k - 1, by omega⟩
      rw [show ((i + 1 : Nat) : Int) - 1 = (i : Int) by omega]
      have hki : (i : Int) ≥ 0 := by omega
      have hil : (i : Int) < L := by omega
      have hkl : i < line.length := by rw [HLL.out]; omega
      obtain ⟨b, off, hA2, hbb, hcell⟩ := hsv_at HS.out hkl
      subst hA2
      have hrow : wr.cell? ⟨b, off + i, none⟩ = some (.string ⟨(line[i]).toArray⟩) := (World.cell?_of_block (w := w) (a := ⟨b, off + i, none⟩) ((HFF.out b (HFR.out b rfl)).trans (HF0.out b (HFR.out b rfl)))).trans hcell
      have hcr : wr.cell? ⟨bd, 0, none⟩ = some (.slice (some ⟨b, off, none⟩) L c) := (World.cell?_of_block (w := W) (a := ⟨bd, 0, none⟩) (HFF.out bd HF1.out)).trans hcd
      have hx := hats_rev hkl
      rw [HLL.out] at hx
      have htk : (hats line).reverse.take (L - i) = (hats line).reverse.take (L - (i + 1)) ++ [(i, line[i])] := by
        rw [show L - i = (L - (i + 1)) + 1 by omega, List.take_add_one, hx]; rfl
      have hlk : ((hats line).reverse.take (L - (i + 1))).length < L := by rw [List.length_take, List.length_reverse, hats_length]; omega
      have hyy := HY.out _ (i, line[i]) f0 _ HJp.out hlk (List.getElem?_eq_getElem hkl)
      generalize line[i] = d at hrow hx htk hyy
      have HTK := Lib.hid htk
      have HPX : Hid ((hats line).reverse.take (L - (i + 1)) ++ [(i, d)] <+: (hats line).reverse) := by show _ <+: _; rw [← htk]; exact List.take_prefix _ _
      obtain ⟨fn, tmps, assign, body, hy, hR⟩ := hyy
      simp only [encH] at hy
      clear hcell hx htk hlk hbb
      gi_wp2
      refine hR.mono ?_
      rintro e W3 (⟨rfl, hJ3, hk3⟩ | ⟨rfl, hJ3, hk3⟩)
      · have hJ4 : J ((hats line).reverse.take (L - i)) f0 W3 := by rw [HTK.out]; exact hJ3
        have hf4 : ∀ j, f0 j → W3.heap[j]? = W.heap[j]? := fun j hj => (hk3.mine j hj).trans (HFF.out j hj)
        gi_wp2
        exact ⟨⟨i, by go_num, by omega, hJ4, hf4⟩, by simp only [intOf]; omega⟩
      · gi_wp2
        refine bodyPost_ret (results_none rfl _ _ _) rfl ?_
        exact ⟨⟨_, rfl⟩, .inr ⟨_, f0, HPX.out, hJ3⟩⟩
    · have hk0 : k = 0 := by omega
      subst hk0
      rw [show ((0 : Nat) : Int) - 1 = -1 by omega]
      have hfin := HJp.out
      rw [List.take_of_length_le (by rw [List.length_reverse, hats_length, HLL.out]; omega)] at hfin
      gi_wp2
      go_end0
      first | exact ⟨⟨_, rfl⟩, .inl ⟨_, f0, rfl, hfin⟩⟩ | exact ⟨⟨_, rfl⟩, .inl ⟨f0, hfin⟩⟩

set_option maxRecDepth 100000 in
set_option maxHeartbeats 4000000 in
theorem hfrom_stops {w : World} {lo h c most : Nat} {A : Option Addr} {L : List (List UInt8)} {K : Option HW} (q : HsAt w lo h A c most L K) (B0 B1 : Nat) (a : Nat) (ha : a ≤ 9223372036854775807) (h0' : Boxed w B0 23 (.pointer (some ⟨h, 0, none⟩))) (h1' : Boxed w B1 3 (.int .i64 a)) (f0 : Nat → Prop) (f1 : f0 B0) (f2 : f0 B1) (f3 : ∀ k, HsAt.Own h A K k → f0 k) (m : Nat) :
    SeqP Fence.wide (m + 2) Tryd.prog 54 #[.pointer (some ⟨B0, 0, none⟩), .pointer (some ⟨B1, 0, none⟩)] encH f0 (fun x => L[x.1]? = some x.2) (fun ys => ys = (hats L).drop a) (fun pre => pre <+: (hats L).drop a) L.length w := by
  intro l J Jx W hsz hf0 hJ hJx hY h0
  have hq : HsAt W lo h A c most L K := q.same hsz (fun k hk => hf0 k (f3 k hk))
  have hc0 := Boxed.cell (t := 23) ((hf0 B0 f1).trans h0')
  have hc1 := Boxed.cell (t := 3) ((hf0 B1 f2).trans h1')
  have hl4 := hq.len4
  have hp := hq.c0
  have h2 := hq.c2
  obtain ⟨N, hN⟩ : ∃ N, N = L.length := ⟨_, rfl⟩
  have HROW := Lib.hid hq.row
  have HAB : Hid (∀ b off, A = some ⟨b, off, none⟩ → f0 b) := Lib.hid (fun b off e => f3 b (.inr (.inl (by rw [e]; rfl))))
  have HY := Lib.hid hY
  have H0 := Lib.hid h0
  have HNE := Lib.hid hN
  rw [← hN] at hl4 h2 hY
  rw [← hN] at HY
  clear hY h0 hJ hJx hf0 hq q f1 f2 f3 h0' h1' hN hsz
  refine callsIn_of_wp Tryd.func54 rfl trivial ?_ rfl
  simp only [Tryd.ntmps54, List.size_toArray, List.length_cons, List.length_nil, Nat.reduceAdd, Nat.reduceSub, Array.replicate_succ, Array.replicate_zero, List.push_toArray, List.append_toArray, List.nil_append, List.cons_append]
  gi_wp2_with (refine ⟨trivial, ?_⟩; gi_at_call 35; refine (callsIn_wide.2 (hmade_yes h W hp)).mono ?_; rintro e w' ⟨rfl, rfl⟩)
  gi_loopw [5] (fun v wr => ∃ j : Nat, v = .int .i64 ((a + j : Nat) : Int) ∧ j ≤ N - a ∧ J (((hats L).drop a).take j) f0 wr ∧ (∀ i, f0 i → wr.heap[i]? = W.heap[i]?)) (fun v _ => N - (intOf v).toNat)
  case atStart => exact ⟨0, by go_num, by omega, H0.out, fun _ _ => rfl⟩
  case round =>
    obtain ⟨j, rfl, hj, hjj, hf⟩ := hrel
    have HJp := Lib.hid hjj
    have HFF := Lib.hid hf
    clear hjj hf
    by_cases hlt : a + j < N
    · obtain ⟨k, hk⟩ : ∃ k, k = a + j := ⟨_, rfl⟩
      have HKE := Lib.hid hk
      rw [← hk] at hlt ⊢
      have hki : (k : Int) < N := by omega
      have hkl : k < L.length := by have := HNE.out; omega
      obtain ⟨b, off, hA2, hbb, hcell⟩ := hsv_at HROW.out hkl
      subst hA2
      have hrow : wr.cell? ⟨b, off + k, none⟩ = some (.string ⟨(L[k]).toArray⟩) := (World.cell?_of_block (w := W) (a := ⟨b, off + k, none⟩) (HFF.out b (HAB.out b off rfl))).trans hcell
      have hx : ((hats L).drop a)[j]? = some (k, L[k]) := by rw [List.getElem?_drop, ← hk]; exact hats_get hkl
      have htk : ((hats L).drop a).take (j + 1) = ((hats L).drop a).take j ++ [(k, L[k])] := by
        rw [List.take_add_one, hx]; rfl
      have hlk : (((hats L).drop a).take j).length < N := by rw [List.length_take]; omega
      have hyy := HY.out _ (k, L[k]) f0 _ HJp.out hlk (List.getElem?_eq_getElem hkl)
      generalize L[k] = d at hrow hx htk hyy
      have HTK := Lib.hid htk
      have HPX : Hid (((hats L).drop a).take j ++ [(k, d)] <+: (hats L).drop a) := by show _ <+: _; rw [← htk]; exact List.take_prefix _ _
      obtain ⟨fn, tmps, assign, body, hy, hR⟩ := hyy
      simp only [encH] at hy
      clear hcell hx htk hlk hbb hk
      gi_wp2
      refine hR.mono ?_
      rintro e W3 (⟨rfl, hJ3, hk3⟩ | ⟨rfl, hJ3, hk3⟩)
      · have hJ4 : J (((hats L).drop a).take (j + 1)) f0 W3 := by rw [HTK.out]; exact hJ3
        have hf4 : ∀ i, f0 i → W3.heap[i]? = W.heap[i]? := fun i hi => (hk3.mine i hi).trans (HFF.out i hi)
        gi_wp2
        exact ⟨⟨j + 1, by have := HKE.out; rw [show a + (j + 1) = k + 1 by omega]; go_num, by have := HKE.out; omega, hJ4, hf4⟩, by simp only [intOf]; omega⟩
      · gi_wp2
        refine bodyPost_ret (results_none rfl _ _ _) rfl ?_
        exact ⟨⟨_, rfl⟩, .inr ⟨_, f0, HPX.out, hJ3⟩⟩
    · have hki : ¬ ((a + j : Nat) : Int) < N := by omega
      have hfin := HJp.out
      rw [List.take_of_length_le (by rw [List.length_drop, hats_length, ← HNE.out]; omega)] at hfin
      gi_wp2
      go_end0
      first | exact ⟨⟨_, rfl⟩, .inl ⟨_, f0, rfl, hfin⟩⟩ | exact ⟨⟨_, rfl⟩, .inl ⟨f0, hfin⟩⟩

set_option maxRecDepth 100000 in
set_option maxHeartbeats 4000000 in
theorem hfrom_not {w : World} {p : Option Addr} (q : HsNo w p) (B0 B1 : Nat) (h0' : Boxed w B0 23 (.pointer p)) (f0 : Nat → Prop) (f1 : f0 B0) (f3 : ∀ g, p = some ⟨g, 0, none⟩ → f0 g) (m : Nat) :
    SeqP Fence.wide (m + 2) Tryd.prog 54 #[.pointer (some ⟨B0, 0, none⟩), .pointer (some ⟨B1, 0, none⟩)] encH f0 (fun x => False) (fun ys => ys = []) (fun pre => pre <+: []) 0 w := by
  intro l J Jx W hsz hf0 hJ hJx hY h0
  have hq : HsNo W p := by
    rcases q with h | ⟨g, h1, h2⟩
    · exact .inl h
    · exact .inr ⟨g, h1, (World.cell?_of_block (w := w) (a := ⟨g, 0, none⟩) (hf0 g (f3 g h1))).trans h2⟩
  have hc0 := Boxed.cell (t := 23) ((hf0 B0 f1).trans h0')
  have H0 := Lib.hid h0
  have HQ := Lib.hid hq
  clear hY h0 hJ hJx hf0 hq q f1 f3 h0' hsz
  refine callsIn_of_wp Tryd.func54 rfl trivial ?_ rfl
  simp only [Tryd.ntmps54, List.size_toArray, List.length_cons, List.length_nil, Nat.reduceAdd, Nat.reduceSub, Array.replicate_succ, Array.replicate_zero, List.push_toArray, List.append_toArray, List.nil_append, List.cons_append]
  gi_wp2_with (refine ⟨trivial, ?_⟩; gi_at_call 35; refine (callsIn_wide.2 (hmade_not HQ.out)).mono ?_; rintro e w' ⟨rfl, rfl⟩)
  refine bodyPost_ret (results_none rfl _ _ _) rfl ?_
  exact ⟨⟨_, rfl⟩, .inl ⟨[], f0, rfl, H0.out⟩⟩
end Go.Proofs.YtfjiogockpmogaaDoor
