/-
  Walks: lines, and the iterator that it hands back.
-/
import Derived.RangeFuncNested
import Derived.RangeFuncBound
import Derived.RangeFuncCalls
import Derived.RangeFuncLeaves
import Derived.Shelf.Abstract
import Derived.Shelf.RegionOpen
import Derived.OwnWalkIn
import Derived.TacticsInMore
import Derived.LoopNIn
import Derived.LoopIn
import Derived.IntWalk
import Derived.Stop.RegionWithIn
import Derived.Test.YtijbimofigkdkaaDoorIterP
import Derived.Test.YtijbimofigkdkaaDoorGrMem
namespace Go.Proofs.YtijbimofigkdkaaDoor
open Go.RowKit Go.Shelf
attribute [local go_sem] Oper.semAt_some
set_option linter.unusedVariables false
set_option linter.unusedSimpArgs false

/-- the rows' numbers and blocks -/
def lns (bs : List Nat) : List (Nat × Nat) := bs.zipIdx.map fun x => (x.2, x.1)
theorem lns_length (bs : List Nat) : (lns bs).length = bs.length := by simp [lns]
theorem lns_get {bs : List Nat} {k : Nat} (h : k < bs.length) : (lns bs)[k]? = some (k, bs[k]) := by
  simp [lns, List.getElem?_zipIdx, List.getElem?_eq_getElem h]
def encL (W : Nat) (x : Nat × Nat) : Array Value := #[.int .i64 x.1, rowV W x.2]

set_option maxHeartbeats 400000 in
theorem lines_any (p : Option Addr) (w : World) : Calls Tryd.prog 32 #[.pointer p] w fun e w' =>
    e = .returned (.func (.func 51) #[] #[.pointer (some ⟨w.heap.size, 0, none⟩)]) ∧ w' = w.alloc (.cells #[.pointer p] 23) := by
  go_enter Tryd.func32, Tryd.ntmps32
  go_wp2
  go_ret
  exact ⟨rfl, rfl⟩

set_option maxRecDepth 100000 in
set_option maxHeartbeats 4000000 in
theorem lines_stops (B g rb WW : Nat) (bs : List Nat) (h5 : bs.length ≤ 500) (f0 : Nat → Prop) (w : World) (hB : w.cell? ⟨B, 0, none⟩ = some (.pointer (some ⟨g, 0, none⟩))) (hg : w.cell? ⟨g, 0, none⟩ = some (.pointer (some ⟨g, 0, none⟩)))
    (hs : w.cell? ⟨g, 1, none⟩ = some (.slice (some ⟨rb, 0, none⟩) bs.length bs.length)) (hr : ∀ (k b : Nat), bs[k]? = some b → w.cell? ⟨rb, k, none⟩ = some (rowV WW b))
    (f1 : f0 B) (f2 : f0 g) (f3 : f0 rb) :
    SeqP Fence.wide 8 Tryd.prog 51 #[.pointer (some ⟨B, 0, none⟩)] (encL WW) f0 (fun x => bs[x.1]? = some x.2) (fun ys => ys = lns bs) (fun pre => pre <+: lns bs) bs.length w := by
  intro l J Jx W hsz hf0 hJ hJx hY h0
  have hfacts : ∀ wr : World, (∀ j, f0 j → wr.heap[j]? = W.heap[j]?) → wr.cell? ⟨B, 0, none⟩ = some (.pointer (some ⟨g, 0, none⟩)) ∧ wr.cell? ⟨g, 0, none⟩ = some (.pointer (some ⟨g, 0, none⟩)) ∧
      wr.cell? ⟨g, 1, none⟩ = some (.slice (some ⟨rb, 0, none⟩) bs.length bs.length) ∧ ∀ (k b : Nat), bs[k]? = some b → wr.cell? ⟨rb, k, none⟩ = some (rowV WW b) := fun wr h => by
    have e : ∀ b o v, f0 b → w.cell? ⟨b, o, none⟩ = some v → wr.cell? ⟨b, o, none⟩ = some v := fun b o v hb hv =>
      (World.cell?_of_block (w := w) (a := ⟨b, o, none⟩) ((h b hb).trans (hf0 b hb))).trans hv
    exact ⟨e _ _ _ f1 hB, e _ _ _ f2 hg, e _ _ _ f2 hs, fun k b hb => e _ _ _ f3 (hr k b hb)⟩
  have HF := Lib.hid hfacts
  have HY := Lib.hid hY
  have H0 := Lib.hid h0
  have HJ := Lib.hid hJ
  clear hfacts hY h0 hJ hJx hf0 hB hg hs hr f1 f2 f3
  refine callsIn_of_wp Tryd.func51 rfl trivial ?_ rfl
  simp only [Tryd.ntmps51, List.size_toArray, List.length_cons, List.length_nil, Nat.reduceAdd, Nat.reduceSub, Array.replicate_succ, Array.replicate_zero, List.push_toArray, List.append_toArray, List.nil_append, List.cons_append]
  obtain ⟨c1, c2, c3, c4⟩ := HF.out W (fun _ _ => rfl)
  gi_wp2_with (refine ⟨trivial, ?_⟩; gi_at_call 33; refine (callsIn_wide.2 (made_yes g _ c2)).mono ?_; rintro e w' ⟨rfl, rfl⟩)
  clear c1 c2 c3 c4
  gi_loopw [13] (fun v13 wr => ∃ k : Nat, v13 = .int .i64 k ∧ k ≤ bs.length ∧ J ((lns bs).take k) f0 wr ∧ (∀ j, f0 j → wr.heap[j]? = W.heap[j]?)) (fun v13 _ => bs.length - (intOf v13).toNat)
  case atStart => exact ⟨0, rfl, by omega, H0.out, fun _ _ => rfl⟩
  case round =>
    obtain ⟨k, rfl, hk, hj, hf⟩ := hrel
    have HJp := Lib.hid hj
    have HFF := Lib.hid hf
    clear hj hf
    by_cases hlt : k < bs.length
    · have hki : (k : Int) < bs.length := by omega
      have hb : bs[k]? = some bs[k] := List.getElem?_eq_getElem hlt
      have hx := lns_get hlt
      obtain ⟨c1, c2, c3, c4⟩ := HF.out _ HFF.out
      have hrow := c4 k _ hb
      have htk : (lns bs).take (k + 1) = (lns bs).take k ++ [(k, bs[k])] := by
        rw [List.take_add_one, hx]; rfl
      have hlk : ((lns bs).take k).length < bs.length := by rw [List.length_take, lns_length]; omega
      have hyy := HY.out _ (k, bs[k]) f0 _ HJp.out hlk hb
      generalize bs[k] = b at hb hx hrow htk hyy
      have HTK := Lib.hid htk
      have HPX : Hid ((lns bs).take k ++ [(k, b)] <+: lns bs) := by show _ <+: _; rw [← htk]; exact List.take_prefix _ _
      obtain ⟨fn, tmps, assign, body, hy, hR⟩ := hyy
      simp only [encL, rowV] at hy
      unfold rowV at hrow
      clear c4 hx htk hlk hb
      gi_wp2
      refine hR.mono ?_
      rintro e W3 (⟨rfl, hJ3, hk3⟩ | ⟨rfl, hJ3, hk3⟩)
      · have hJ4 : J ((lns bs).take (k + 1)) f0 W3 := by rw [HTK.out]; exact hJ3
        have hf4 : ∀ j, f0 j → W3.heap[j]? = W.heap[j]? := fun j hj => (hk3.mine j hj).trans (HFF.out j hj)
        gi_wp2
        exact ⟨⟨k + 1, by go_num, by omega, hJ4, hf4⟩, by simp only [intOf]; omega⟩
      · gi_wp2
        refine bodyPost_ret (results_none rfl _ _ _) rfl ?_
        exact ⟨⟨_, rfl⟩, .inr ⟨_, f0, HPX.out, hJ3⟩⟩
    · have hki : ¬ (k : Int) < bs.length := by omega
      have hfin := HJp.out
      rw [List.take_of_length_le (by rw [lns_length]; omega)] at hfin
      gi_wp2
      go_end0
      first | exact ⟨⟨_, rfl⟩, .inl ⟨_, f0, rfl, hfin⟩⟩ | exact ⟨⟨_, rfl⟩, .inl ⟨f0, hfin⟩⟩
end Go.Proofs.YtijbimofigkdkaaDoor
