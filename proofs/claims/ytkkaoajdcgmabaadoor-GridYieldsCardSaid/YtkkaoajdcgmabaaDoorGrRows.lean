/-
  Walks: Rows, and the iterator that it hands back.
-/
import Derived.Test.YtkkaoajdcgmabaaDoorGrFork
import Derived.Test.YtkkaoajdcgmabaaDoorGrRow
import Derived.Test.YtkkaoajdcgmabaaDoorIterW
import Derived.RangeFuncWrites
namespace Go.Proofs.YtkkaoajdcgmabaaDoor
open Go.RowKit Go.Shelf
attribute [local go_sem] Oper.semAt_some
set_option linter.unusedVariables false
set_option linter.unusedSimpArgs false

theorem YieldAt.deepG {m : Nat} (m' : Nat) {P : Program} {l : Nat} {args : Array Value} {W : World} {R : Ending → World → Prop} (h : YieldAt Fence.wide m P l args W R) : YieldAt Fence.wide m' P l args W R := by
  obtain ⟨fn, tmps, assign, body, hy, hR⟩ := h
  exact ⟨fn, tmps, assign, body, hy, hR.1, fun c cs _ => hR.2 c cs (fun d h => by cases h)⟩
theorem RoundIn.inRG {F : Fence} {m : Nat} {P : Program} {l : Nat} {f : FuncId} {tmps : Array Value} {assign body : Code} {w : World} {R : Ending → World → Prop} (l' : Nat) (h : RoundIn F m P l f tmps assign body w R) : RoundIn (F.inRound l') m P l f tmps assign body w R := h

theorem GrAt.same {w w' : World} {lo g rb W : Nat} {bs : List Nat} {L : List (List Cl)} (h : GrAt w lo g rb bs W L) (he : ∀ k, GrOwn g rb bs k → w'.heap[k]? = w.heap[k]?) : GrAt w' lo g rb bs W L :=
  ⟨(he _ (.inl rfl)).trans h.head, (he _ (.inr (.inl rfl))).trans h.rows, h.len, h.nd, fun i b hb => by
    obtain ⟨l, h1, h2, h3, h4⟩ := h.row i b hb
    exact ⟨l, h1, h2, h3, (he _ (.inr (.inr (List.mem_of_getElem? hb)))).trans h4⟩, h.lo, h.w1, h.w5, h.h1, h.h5⟩

def encF (W : Nat) (bs : List Nat) (i : Fin bs.length) : Array Value := #[.int .i64 (i.val : Int), rowV W bs[i.val]]
theorem fin_get (n k : Nat) (h : k < n) : (List.finRange n)[k]? = some ⟨k, h⟩ := by
  rw [List.getElem?_eq_getElem (by simpa using h)]
  simp
/-- so far as is told -/
theorem fin_take (n k : Nat) (h : k < n) : (List.finRange n).take (k + 1) = (List.finRange n).take k ++ [⟨k, h⟩] := by
  rw [List.take_add_one, fin_get n k h]
  rfl
def KpF (f0 : Nat → Prop) (A B : World) : Prop := ∀ j, f0 j → B.heap[j]? = A.heap[j]?

set_option maxRecDepth 100000 in
set_option maxHeartbeats 4000000 in
theorem lines_keeps (B g rb WW : Nat) (bs : List Nat) (h5 : bs.length ≤ 500) (f0 : Nat → Prop) (w : World) (hB : w.cell? ⟨B, 0, none⟩ = some (.pointer (some ⟨g, 0, none⟩))) (hg : w.cell? ⟨g, 0, none⟩ = some (.pointer (some ⟨g, 0, none⟩)))
    (hs : w.cell? ⟨g, 1, none⟩ = some (.slice (some ⟨rb, 0, none⟩) bs.length bs.length)) (hr : ∀ (k b : Nat), bs[k]? = some b → w.cell? ⟨rb, k, none⟩ = some (rowV WW b))
    (f1 : f0 B) (f2 : f0 g) (f3 : f0 rb) (hlt : ∀ k, f0 k → k < w.heap.size) :
    SeqStopsK Fence.wide 7 Tryd.prog 51 #[.pointer (some ⟨B, 0, none⟩)] (encF WW bs) (KpF f0) (fun ys => ys = List.finRange bs.length) (fun pre => pre <+: List.finRange bs.length) bs.length w := by
  intro l J Jx W hW hJ hJx hY h0
  have hfacts : ∀ wr : World, (∀ j, f0 j → wr.heap[j]? = W.heap[j]?) → wr.cell? ⟨B, 0, none⟩ = some (.pointer (some ⟨g, 0, none⟩)) ∧ wr.cell? ⟨g, 0, none⟩ = some (.pointer (some ⟨g, 0, none⟩)) ∧
      wr.cell? ⟨g, 1, none⟩ = some (.slice (some ⟨rb, 0, none⟩) bs.length bs.length) ∧ ∀ (k b : Nat), bs[k]? = some b → wr.cell? ⟨rb, k, none⟩ = some (rowV WW b) := fun wr h => by
    have e : ∀ b o v, f0 b → w.cell? ⟨b, o, none⟩ = some v → wr.cell? ⟨b, o, none⟩ = some v := fun b o v hb hv =>
      (World.cell?_of_block (w := w) (a := ⟨b, o, none⟩) ((h b hb).trans (hW.block b (hlt b hb)))).trans hv
    exact ⟨e _ _ _ f1 hB, e _ _ _ f2 hg, e _ _ _ f2 hs, fun k b hb => e _ _ _ f3 (hr k b hb)⟩
  have HF := Lib.hid hfacts
  have HY := Lib.hid hY
  have H0 := Lib.hid h0
  clear hfacts hY h0 hJ hJx hB hg hs hr f1 f2 f3 hW hlt
  refine callsIn_of_wp Tryd.func51 rfl trivial ?_ rfl
  simp only [Tryd.ntmps51, List.size_toArray, List.length_cons, List.length_nil, Nat.reduceAdd, Nat.reduceSub, Array.replicate_succ, Array.replicate_zero, List.push_toArray, List.append_toArray, List.nil_append, List.cons_append]
  obtain ⟨c1, c2, c3, c4⟩ := HF.out W (fun _ _ => rfl)
  gi_wp2_with (refine ⟨trivial, ?_⟩; gi_at_call 33; refine (callsIn_wide.2 (made_yes g _ c2)).mono ?_; rintro e w' ⟨rfl, rfl⟩)
  clear c1 c2 c3 c4
  gi_loopw [13] (fun v13 wr => ∃ k : Nat, v13 = .int .i64 k ∧ k ≤ bs.length ∧ J ((List.finRange bs.length).take k) wr ∧ (∀ j, f0 j → wr.heap[j]? = W.heap[j]?)) (fun v13 _ => bs.length - (intOf v13).toNat)
  case atStart => exact ⟨0, rfl, by omega, H0.out, fun _ _ => rfl⟩
  case round =>
    obtain ⟨k, rfl, hk, hj, hf⟩ := hrel
    have HJp := Lib.hid hj
    have HFF := Lib.hid hf
    clear hj hf
    by_cases hlt : k < bs.length
    · have hki : (k : Int) < bs.length := by omega
      have hb : bs[k]? = some bs[k] := List.getElem?_eq_getElem hlt
      obtain ⟨c1, c2, c3, c4⟩ := HF.out _ HFF.out
      have hrow := c4 k _ hb
      have htk := fin_take bs.length k hlt
      have hlk : ((List.finRange bs.length).take k).length < bs.length := by rw [List.length_take, List.length_finRange]; omega
      have hyy := HY.out _ ⟨k, hlt⟩ _ HJp.out hlk
      have HTK := Lib.hid htk
      have HPX : Hid ((List.finRange bs.length).take k ++ [⟨k, hlt⟩] <+: List.finRange bs.length) := by show _ <+: _; rw [← htk]; exact List.take_prefix _ _
      obtain ⟨fn, tmps, assign, body, hy, hR⟩ := hyy
      simp only [encF, rowV] at hy
      unfold rowV at hrow
      clear c4 htk hlk hb
      gi_wp2
      refine hR.mono ?_
      rintro e W3 (⟨rfl, hJ3, hk3⟩ | ⟨rfl, hJ3⟩)
      · have hJ4 : J ((List.finRange bs.length).take (k + 1)) W3 := by rw [HTK.out]; exact hJ3
        have hf4 : ∀ j, f0 j → W3.heap[j]? = W.heap[j]? := fun j hj => (hk3 j hj).trans (HFF.out j hj)
        gi_wp2
        exact ⟨⟨k + 1, by go_num, by omega, hJ4, hf4⟩, by simp only [intOf]; omega⟩
      · gi_wp2
        refine bodyPost_ret (results_none rfl _ _ _) rfl ?_
        exact ⟨⟨_, rfl⟩, .inr ⟨_, HPX.out, hJ3⟩⟩
    · have hki : ¬ (k : Int) < bs.length := by omega
      have hfin := HJp.out
      rw [List.take_of_length_le (by rw [List.length_finRange]; omega)] at hfin
      gi_wp2
      go_end0
      first | exact ⟨⟨_, rfl⟩, .inl hfin⟩ | exact ⟨⟨_, rfl⟩, .inl ⟨_, rfl, hfin⟩⟩

set_option maxHeartbeats 400000 in
theorem rows_any {w : World} {lo g rb W : Nat} {bs : List Nat} {L : List (List Cl)} (h : GrAt w lo g rb bs W L) (hT : BlankT w) :
    Calls Tryd.prog 21 #[.pointer (some ⟨g, 0, none⟩)] w fun e w' => ∃ B g2 rb2 bs2, e = .returned (.func (.func 46) #[] #[.pointer (some ⟨B, 0, none⟩)]) ∧
      Boxed w' B 23 (.pointer (some ⟨g2, 0, none⟩)) ∧ GrAt w' w.heap.size g2 rb2 bs2 W L ∧ Below w.heap.size w w' ∧ w.heap.size ≤ B := by
  have H := Lib.hid h
  have HT := Lib.hid hT
  clear h hT
  go_enter Tryd.func21, Tryd.ntmps21
  go_wp2_with (fail)
  refine (fork_any H.out HT.out).mono ?_
  rintro e w1 ⟨g2, rb2, bs2, rfl, hg, hb⟩
  have HG := Lib.hid hg
  have HB := Lib.hid hb
  clear hg hb
  go_wp2_with (fail)
  go_ret
  exact ⟨_, g2, rb2, bs2, rfl, Boxed.new _ _ _, HG.out.below ((Below.refl _ _).alloc (Nat.le_refl _) _), HB.out.alloc HB.out.size _, HB.out.size⟩
end Go.Proofs.YtkkaoajdcgmabaaDoor
