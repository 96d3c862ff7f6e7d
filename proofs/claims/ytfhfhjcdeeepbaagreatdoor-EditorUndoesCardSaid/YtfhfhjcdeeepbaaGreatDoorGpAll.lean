/-
  Walks: All and its iterator.
-/
import Derived.RangeFuncNested
import Derived.RangeFuncBound
import Derived.RangeFuncCalls
import Derived.RangeFuncLeaves
import Derived.Shelf.Abstract
import Derived.Shelf.RegionOpen
import Derived.OwnWalkIn
import Derived.TacticsInMore
import Derived.LoopNIn
import Derived.LoopIn
import Derived.IntWalk
import Derived.Stop.RegionWithIn
import Derived.Test.YtfhfhjcdeeepbaaGreatDoorGfA
import Derived.Test.YtfhfhjcdeeepbaaGreatDoorGpLine
namespace Go.Proofs.YtfhfhjcdeeepbaaGreatDoor
open Go.RowKit Go.Shelf
attribute [local go_sem] Oper.semAt_some
set_option linter.unusedVariables false
set_option linter.unusedSimpArgs false

/-- the clusters with their places -/
def ats (l : List (List UInt8)) : List (Nat × List UInt8) := l.zipIdx.map fun x => (x.2, x.1)
theorem ats_length (l : List (List UInt8)) : (ats l).length = l.length := by simp [ats]
theorem ats_get {l : List (List UInt8)} {k : Nat} (h : k < l.length) : (ats l)[k]? = some (k, l[k]) := by
  simp [ats, List.getElem?_zipIdx, List.getElem?_eq_getElem h]
def encG (x : Nat × List UInt8) : Array Value := #[.int .i64 x.1, .string ⟨x.2.toArray⟩]
theorem GpAt.same {w w' : World} {lo g n C most f t : Nat} {A : Option Addr} {p s : List (List UInt8)} (h : GpAt w lo g A n C most f t p s) (hs : ∀ k, GpOwn g A k → w'.heap[k]? = w.heap[k]?) : GpAt w' lo g A n C most f t p s :=
  ⟨(hs _ (.inl rfl)).trans h.head, h.fp, h.ft, h.tn, h.nC, h.all.imp id (fun ⟨ab, tl, e, h1, h2, hb, h3⟩ => ⟨ab, tl, e, h1, h2, (hs _ (.inr (by rw [e]; rfl))).trans hb, h3⟩), h.le, h.m1, h.m4, h.lo, h.is⟩

set_option maxHeartbeats 400000 in
theorem gall_any (p : Option Addr) (w : World) : Calls Tryz.prog 37 #[.pointer p] w fun e w' =>
    e = .returned (.func (.func 64) #[] #[.pointer (some ⟨w.heap.size, 0, none⟩)]) ∧ w' = w.alloc (.cells #[.pointer p] 43) := by
  go_enter Tryz.func37, Tryz.ntmps37
  go_wp2
  go_ret
  exact ⟨rfl, rfl⟩

set_option maxRecDepth 100000 in
set_option maxHeartbeats 4000000 in
theorem gall_stops {w : World} {lo g n C most f t : Nat} {A : Option Addr} {p s : List (List UInt8)} (h : GpAt w lo g A n C most f t p s) (B : Nat) (hB : w.cell? ⟨B, 0, none⟩ = some (.pointer (some ⟨g, 0, none⟩))) (f0 : Nat → Prop) (f1 : f0 B) (f2 : ∀ k, GpOwn g A k → f0 k) :
    SeqP Fence.wide 8 Tryz.prog 64 #[.pointer (some ⟨B, 0, none⟩)] encG f0 (fun x => (p ++ s)[x.1]? = some x.2) (fun ys => ys = ats (p ++ s)) (fun pre => pre <+: ats (p ++ s)) (ln p s) w := by
  intro l J Jx W hsz hf0 hJ hJx hY h0
  have hg : GpAt W lo g A n C most f t p s := h.same (fun k hk => hf0 k (f2 k hk))
  have hB' : W.cell? ⟨B, 0, none⟩ = some (.pointer (some ⟨g, 0, none⟩)) := (World.cell?_of_block (w := w) (a := ⟨B, 0, none⟩) (hf0 B f1)).trans hB
  have hll : (p ++ s).length = ln p s := (ln_eq p s).symm
  have hl4 : ln p s ≤ 4096 := by have := h.ln_le; have := h.m4; omega
  obtain ⟨line, hline⟩ : ∃ line, line = p ++ s := ⟨_, rfl⟩
  have hcall := gline_any hg
  rw [← hline] at hY hll hcall ⊢
  obtain ⟨L, hL⟩ : ∃ L, L = ln p s := ⟨_, rfl⟩
  rw [← hL] at hY hll hl4 hcall
  have HCALL := Lib.hid hcall
  have HY := Lib.hid hY
  have H0 := Lib.hid h0
  have HJ := Lib.hid hJ
  have HLL := Lib.hid hll
  clear hY h0 hJ hJx hf0 hB hg h f1 f2 hline hL hcall hll
  refine callsIn_of_wp Tryz.func64 rfl trivial ?_ rfl
  simp only [Tryz.ntmps64, List.size_toArray, List.length_cons, List.length_nil, Nat.reduceAdd, Nat.reduceSub, Array.replicate_succ, Array.replicate_zero, List.push_toArray, List.append_toArray, List.nil_append, List.cons_append]
  gi_wp2_with (refine ⟨trivial, ?_⟩; gi_at_call 30; refine (callsIn_wide.2 HCALL.out).mono ?_; rintro e W1 ⟨A2, c2, rfl, ho, hb⟩)
  obtain ⟨f', hf'⟩ : ∃ f' : Nat → Prop, f' = fun k => f0 k ∨ blk A2 = some k := ⟨_, rfl⟩
  have hJ1 : J [] f' W1 := HJ.out [] f0 f' W W1 H0.out (Turn.of_below hb) (fun k hk => by
    rw [hf'] at hk
    exact hk.imp id (fun e => ho.blk_lt k e))
  have HJ1 := Lib.hid hJ1
  have HO := Lib.hid ho
  have hfr : ∀ k, blk A2 = some k → f' k := fun k hk => by rw [hf']; exact .inr hk
  have HFR := Lib.hid hfr
  clear hJ1 ho hb hfr hf' hB'
  gi_loopw [8] (fun v wr => ∃ k : Nat, v = .int .i64 k ∧ k ≤ L ∧ J ((ats line).take k) f' wr ∧ (∀ j, f' j → wr.heap[j]? = W1.heap[j]?)) (fun v _ => L - (intOf v).toNat)
  case atStart => exact ⟨0, rfl, by omega, HJ1.out, fun _ _ => rfl⟩
  case round =>
    obtain ⟨k, rfl, hk, hj, hf⟩ := hrel
    have HJp := Lib.hid hj
    have HFF := Lib.hid hf
    clear hj hf
    by_cases hlt : k < L
    · have hki : (k : Int) < L := by omega
      have hkl : k < line.length := by rw [HLL.out]; exact hlt
      obtain ⟨b, off, hA2, hbb, hcell⟩ := sv_at HO.out.sl hkl
      subst hA2
      have hrow : wr.cell? ⟨b, off + k, none⟩ = some (.string ⟨(line[k]).toArray⟩) := (World.cell?_of_block (w := W1) (a := ⟨b, off + k, none⟩) (HFF.out b (HFR.out b rfl))).trans hcell
      have hx := ats_get hkl
      have htk : (ats line).take (k + 1) = (ats line).take k ++ [(k, line[k])] := by
        rw [List.take_add_one, hx]; rfl
      have hlk : ((ats line).take k).length < L := by rw [List.length_take, ats_length]; omega
      have hyy := HY.out _ (k, line[k]) f' _ HJp.out hlk (List.getElem?_eq_getElem hkl)
      generalize line[k] = c at hrow hx htk hyy
      have HTK := Lib.hid htk
      have HPX : Hid ((ats line).take k ++ [(k, c)] <+: ats line) := by show _ <+: _; rw [← htk]; exact List.take_prefix _ _
      obtain ⟨fn, tmps, assign, body, hy, hR⟩ := hyy
      simp only [encG] at hy
      clear hcell hx htk hlk hbb
      gi_wp2
      refine hR.mono ?_
      rintro e W3 (⟨rfl, hJ3, hk3⟩ | ⟨rfl, hJ3, hk3⟩)
      · have hJ4 : J ((ats line).take (k + 1)) f' W3 := by rw [HTK.out]; exact hJ3
        have hf4 : ∀ j, f' j → W3.heap[j]? = W1.heap[j]? := fun j hj => (hk3.mine j hj).trans (HFF.out j hj)
        gi_wp2
        exact ⟨⟨k + 1, by go_num, by omega, hJ4, hf4⟩, by simp only [intOf]; omega⟩
      · gi_wp2
        refine bodyPost_ret (results_none rfl _ _ _) rfl ?_
        exact ⟨⟨_, rfl⟩, .inr ⟨_, f', HPX.out, hJ3⟩⟩
    · have hki : ¬ (k : Int) < L := by omega
      have hfin := HJp.out
      rw [List.take_of_length_le (by rw [ats_length, HLL.out]; omega)] at hfin
      gi_wp2
      go_end0
      first | exact ⟨⟨_, rfl⟩, .inl ⟨_, f', rfl, hfin⟩⟩ | exact ⟨⟨_, rfl⟩, .inl ⟨f', hfin⟩⟩
end Go.Proofs.YtfhfhjcdeeepbaaGreatDoor
