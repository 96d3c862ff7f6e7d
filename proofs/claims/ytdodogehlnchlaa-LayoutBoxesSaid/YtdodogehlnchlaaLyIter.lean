/-
  Walks: the iterator over the kept slots, which reads what its rounds may turn.
-/
import Derived.Shelf.Abstract
import Derived.Shelf.RegionOpen
import Derived.OwnWalkIn
import Derived.TacticsInMore
import Derived.LoopNIn
import Derived.LoopIn
import Derived.IntWalk
import Derived.Stop.RegionWithIn
import Derived.Outline
import Derived.Sort.WalkA
import Derived.Deep.QuietTactic
import Derived.BigQuiet
import Derived.Test.YtdodogehlnchlaaQuietB
import Derived.Test.YtdodogehlnchlaaLyA
import Derived.Test.YtdodogehlnchlaaIterQ
import Derived.Test.YtdodogehlnchlaaLyMath2
namespace Go.Proofs.Ytdodogehlnchlaa
open Go.RowKit Go.Shelf Go.Sort
attribute [local go_sem] Oper.semAt_some
set_option linter.unusedVariables false
set_option linter.unusedSimpArgs false

def encK (B : Nat) (x : Nat) : Array Value := #[.pointer (some ⟨B, x * 7, none⟩)]
/-- what the iterator reads: which slots are kept -/
def RdK (B n : Nat) (b : Nat → Bool) (w : World) : Prop := ∀ i, i < n → w.cell? ⟨B, i * 7 + 4, none⟩ = some (.bool (b i))
theorem RdK.blk {w : World} {B n : Nat} {σ : Sts} {t : TypeId} (h : Blk w B t (slB σ n)) : RdK B n (kpO σ) w := fun i hi => by
  rw [h.cell, slB_get hi (by omega)]; rfl
theorem ki_prefix (b : Nat → Bool) {k n : Nat} (h : k ≤ n) : ki b k <+: ki b n := by
  obtain ⟨d, rfl⟩ : ∃ d, n = k + d := ⟨n - k, by omega⟩
  clear h
  induction d with
  | zero => exact List.prefix_rfl
  | succ d ih =>
    have e := ki_succ b (k + d)
    rw [show k + (d + 1) = k + d + 1 by omega, e]
    exact ih.trans (List.prefix_append _ _)
set_option maxHeartbeats 400000 in
theorem kept_any (A : Option Addr) (n c : Nat) (w : World) : Calls Try.prog 39 #[.slice A n c] w fun e w' =>
    e = .returned (.func (.func 46) #[] #[.pointer (some ⟨w.heap.size, 0, none⟩)]) ∧ w' = w.alloc (.cells #[.slice A n c] 56) := by
  go_enter Try.func39, Try.ntmps39
  go_wp2
  go_ret
  exact ⟨rfl, rfl⟩

set_option maxRecDepth 100000 in
set_option maxHeartbeats 4000000 in
theorem kept_stops (B n : Nat) (b : Nat → Bool) (m : Nat) (bd : Nat) (w : World) (h4 : n ≤ 64) (hbd : Boxed w bd 56 (.slice (some ⟨B, 0, none⟩) n n)) (f0 : Nat → Prop) (f1 : f0 bd) :
    SeqQ Fence.wide (m + 2) Try.prog 46 #[.pointer (some ⟨bd, 0, none⟩)] (encK B) f0 (fun x => x < n ∧ b x = true) (fun ys => ys = ki b n) (fun pre => pre <+: ki b n) n (RdK B n b) w := by
  intro l J Jx W hsz hf0 hJ hJx hrd hY h0
  have hbdW : Boxed W bd 56 (.slice (some ⟨B, 0, none⟩) n n) := (hf0 bd f1).trans hbd
  have hcd := hbdW.cell
  have HY := Lib.hid hY
  have H0 := Lib.hid h0
  have HF0 := Lib.hid hf0
  have HF1 := Lib.hid f1
  have HRD := Lib.hid hrd
  have HBD := Lib.hid hbdW
  clear hJ hJx hY h0 hf0 hbd hbdW f1 hrd
  refine callsIn_of_wp Try.func46 rfl trivial ?_ rfl
  simp only [Try.ntmps46, List.size_toArray, List.length_cons, List.length_nil, Nat.reduceAdd, Nat.reduceSub, Array.replicate_succ, Array.replicate_zero, List.push_toArray, List.append_toArray, List.nil_append, List.cons_append]
  gi_wp2_with (fail)
  clear hcd
  gi_loopw [6] (fun v wr => ∃ k : Nat, v = .int .i64 k ∧ k ≤ n ∧ J (ki b k) f0 wr ∧ (∀ j, f0 j → wr.heap[j]? = W.heap[j]?)) (fun v _ => n - (intOf v).toNat)
  case atStart => exact ⟨0, rfl, by omega, H0.out, fun _ _ => rfl⟩
  case round =>
    obtain ⟨k, rfl, hk, hj, hf⟩ := hrel
    have HJp := Lib.hid hj
    have HFF := Lib.hid hf
    clear hj hf
    by_cases hlt : k < n
    · have hki : (k : Int) < n := by omega
      have hcd : wr.cell? ⟨bd, 0, none⟩ = some (.slice (some ⟨B, 0, none⟩) n n) := Boxed.cell ((HFF.out bd HF1.out).trans HBD.out)
      have hrow := HRD.out _ _ _ HJp.out k hlt
      cases hbk : b k with
      | true =>
        rw [hbk] at hrow
        have htk := ki_yes hbk
        have hlk : (ki b k).length < n := by have := ki_len b k; omega
        have hyy := HY.out _ k f0 _ HJp.out hlk ⟨hlt, hbk⟩
        have HTK := Lib.hid htk
        have HPX : Hid (ki b k ++ [k] <+: ki b n) := by
          show _ <+: _
          rw [← htk]
          exact ki_prefix b (by omega)
        obtain ⟨fn, tmps, assign, body, hy, hR⟩ := hyy
        simp only [encK] at hy
        clear htk hlk hbk
        gi_wp2
        refine hR.mono ?_
        rintro e W3 (⟨rfl, hJ3, hk3⟩ | ⟨rfl, hJ3, hk3⟩)
        · have hJ4 : J (ki b (k + 1)) f0 W3 := by rw [HTK.out]; exact hJ3
          have hf4 : ∀ j, f0 j → W3.heap[j]? = W.heap[j]? := fun j hj => (hk3.mine j hj).trans (HFF.out j hj)
          gi_wp2
          exact ⟨⟨k + 1, by go_num, by omega, hJ4, hf4⟩, by simp only [intOf]; omega⟩
        · gi_wp2
          refine bodyPost_ret (results_none rfl _ _ _) rfl ?_
          exact ⟨⟨_, rfl⟩, .inr ⟨_, f0, HPX.out, hJ3⟩⟩
      | false =>
        rw [hbk] at hrow
        have htk := ki_no hbk
        have HTK := Lib.hid htk
        clear htk hbk
        gi_wp2
        refine ⟨(fun _ h => by cases h), ?_⟩
        gi_wp2
        exact ⟨⟨k + 1, by go_num, by omega, by rw [HTK.out]; exact HJp.out, HFF.out⟩, by simp only [intOf]; omega⟩
    · have hkn : k = n := by omega
      have hki : ¬ (k : Int) < n := by omega
      have hfin := HJp.out
      rw [hkn] at hfin
      gi_wp2
      go_end0
      first | exact ⟨⟨_, rfl⟩, .inl ⟨_, f0, rfl, hfin⟩⟩ | exact ⟨⟨_, rfl⟩, .inl ⟨f0, hfin⟩⟩
end Go.Proofs.Ytdodogehlnchlaa
