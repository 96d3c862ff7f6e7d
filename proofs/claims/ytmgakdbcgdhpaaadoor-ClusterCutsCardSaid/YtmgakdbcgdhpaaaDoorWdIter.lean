/-
  Walks: the iterators over the ranges of marks and of wide runes.
-/
import Derived.RangeFuncNested
import Derived.RangeFuncBound
import Derived.RangeFuncCalls
import Derived.RangeFuncLeaves
import Derived.Shelf.Abstract
import Derived.Shelf.RegionOpen
import Derived.OwnWalkIn
import Derived.TacticsInMore
import Derived.LoopNIn
import Derived.LoopIn
import Derived.IntWalk
import Derived.Stop.RegionWithIn
import Derived.Test.YtmgakdbcgdhpaaaDoorSl
import Derived.Test.YtmgakdbcgdhpaaaDoorWdMath
import Derived.Test.YtmgakdbcgdhpaaaDoorRows
namespace Go.Proofs.YtmgakdbcgdhpaaaDoor
open Go.RowKit Go.Shelf
attribute [local go_sem] Oper.semAt_some
set_option linter.unusedVariables false

/-- The ranges' cells, firsts and lasts by turns. -/
def Tab (w : World) (g : Nat) (T : List (Int × Int)) : Prop := ∀ k x, T[k]? = some x → w.cell? ⟨g, 2 * k, none⟩ = some (.int .i32 x.1) ∧ w.cell? ⟨g, 2 * k + 1, none⟩ = some (.int .i32 x.2)
theorem Tab.below {w w' : World} {B g : Nat} {T : List (Int × Int)} (h : Tab w g T) (hb : Below B w w') (hg : g < B) : Tab w' g T := fun k x hx => ⟨(hb.cell (p := ⟨g, 2 * k, none⟩) hg).trans (h k x hx).1, (hb.cell (p := ⟨g, 2 * k + 1, none⟩) hg).trans (h k x hx).2⟩
def YB (J Jx : List (Int × Int) → World → Prop) (q : List (Int × Int)) (b : Bool) (W : World) : Prop := (b = true ∧ J q W) ∨ (b = false ∧ Jx q W)
def encT (x : Int × Int) : Array Value := #[.int .i32 x.1, .int .i32 x.2]

set_option maxRecDepth 100000 in
set_option maxHeartbeats 2000000 in
theorem marks1_in (n : Nat) (hn : 1 ≤ n) (l : Nat) (J Jx : List (Int × Int) → World → Prop) (W : World)
    (hJ : ∀ q A B, J q A → W.heap.size ≤ A.heap.size → Below A.heap.size A B → J q B) (hJw : ∀ q A, J q A → W.heap.size ≤ A.heap.size ∧ Tab A 1 mkT)
    (hY : ∀ pre x W1, J pre W1 → pre.length < mkT.length → YieldAt Fence.wide (n - 1) Tryd.prog l (encT x) W1 fun e W' =>
      (e = .returned (.bool true) ∧ J (pre ++ [x]) W') ∨ (e = .returned (.bool false) ∧ Jx (pre ++ [x]) W'))
    (h0 : J [] W) :
    CallsIn Fence.wide n Tryd.prog 63 #[.func (.yield l) #[] #[]] W fun e W' => (∃ v, e = .returned v) ∧
      ((∃ ys, ys = mkT ∧ J ys W') ∨ (∃ pre, pre <+: mkT ∧ Jx pre W')) := by
  refine callsIn_of_wp Tryd.func63 rfl trivial ?_ rfl
  simp only [Tryd.ntmps63, List.size_toArray, List.length_cons, List.length_nil, Nat.reduceAdd, Nat.reduceSub, Array.replicate_succ, Array.replicate_zero, List.push_toArray, List.append_toArray, List.nil_append, List.cons_append]
  have hY' : ∀ pre x W1, J pre W1 → pre.length < mkT.length → YieldAt Fence.wide (n - 1) Tryd.prog l (encT x) W1 fun e W' => ∃ b, e = .returned (.bool b) ∧ YB J Jx (pre ++ [x]) b W' := fun pre x W1 hj hl => (hY pre x W1 hj hl).mono (by
    rintro e W' (⟨rfl, h⟩ | ⟨rfl, h⟩)
    · exact ⟨true, rfl, .inl ⟨rfl, h⟩⟩
    · exact ⟨false, rfl, .inr ⟨rfl, h⟩⟩)
  clear hY
  have HJ := Lib.hid hJ
  have HJw := Lib.hid hJw
  clear hJ hJw
  gi_wp2
  gi_loopw [2] (fun a wr => ∃ k m : Nat, a = .int .i64 (m : Int) ∧ m = 2 * k ∧ k ≤ 28 ∧ J (mkT.take k) wr) (fun a _ => 56 - (intOf a).toNat)
  case atStart => exact ⟨0, 0, rfl, rfl, by omega, h0⟩
  case round =>
    obtain ⟨k, m, rfl, hmk, hk, hJp⟩ := hrel
    have HM := Lib.hid hmk
    have hw := HJw.out _ _ hJp
    have HJp := Lib.hid hJp
    clear hJp h0
    by_cases hlt : k < 28
    · have hlen : mkT.length = 28 := rfl
      have hx : mkT[k]? = some mkT[k] := List.getElem?_eq_getElem (by omega)
      obtain ⟨hc1, hc2⟩ := hw.2 k _ hx
      rw [← hmk] at hc1 hc2
      have htk : mkT.take (k + 1) = mkT.take k ++ [mkT[k]] := List.take_succ_eq_append_getElem (by omega)
      have hlk : (mkT.take k).length < mkT.length := by simp; omega
      have hJd : J (mkT.take k) wr.drew := HJ.out _ _ _ HJp.out hw.1 (Below.refl _ _).drew
      obtain ⟨fn, tmps, assign, body, hy, hR⟩ := hY' _ mkT[k] wr.drew hJd hlk
      generalize mkT[k] = x at *
      have HT := Lib.hid htk
      clear htk hx hw hJd hlk hlen
      have h1 : (m : Int) < 56 := by omega
      have h2 : (m : Int) + 1 < 56 := by omega
      have h5 : 0 ≤ (m : Int) + 1 := by omega
      have h3 : IntKind.i64.wrap ((m : Int) + 1) = (m : Int) + 1 := IntWalk.i64_in _ (by omega)
      have h4 : ((m : Int) + 1).toNat = m + 1 := by omega
      have h6 : m < 56 := by omega
      have h7 : m + 1 < 56 := by omega
      clear hmk
      simp only [encT] at hy
      clear hY'
      gi_wp2
      gi_region_with (refine hR.mono ?_; rintro e W3 ⟨b, rfl, h3⟩)
      all_goals
        rcases h3 with ⟨rfl, h3⟩ | ⟨rfl, h3⟩
        · have h3' : J (mkT.take (k + 1)) W3 := by rw [HT.out]; exact h3
          have h8 : IntKind.i64.wrap ((m : Int) + 2) = (m : Int) + 2 := IntWalk.i64_in _ (by omega)
          gi_wp2
          refine ⟨⟨k + 1, m + 2, by go_num, by have := HM.out; omega, by omega, h3'⟩, by simp only [intOf]; omega⟩
        · gi_wp2
          refine bodyPost_ret (results_none rfl _ _ _) rfl ?_
          exact ⟨⟨_, rfl⟩, .inr ⟨mkT.take k ++ [x], by rw [← HT.out]; exact List.take_prefix _ _, h3⟩⟩
    · have h1 : ¬ (m : Int) < 56 := by omega
      have h2 : ¬ m < 56 := by omega
      have hfin : J mkT wr := by
        have := HJp.out
        rw [List.take_of_length_le (by show 28 ≤ k; omega)] at this
        exact this
      clear hmk
      gi_wp2
      go_end0
      first | exact ⟨⟨_, rfl⟩, .inl hfin⟩ | exact ⟨⟨_, rfl⟩, .inl ⟨_, rfl, hfin⟩⟩

/-- What a round must keep: below a block all lies as it lay. -/
theorem marks_stops (n : Nat) (hn : 1 ≤ n) (n₀ : Nat) (w : World) (hT : Tab w 1 mkT) (hg : 1 < n₀) (hn₀ : n₀ ≤ w.heap.size) :
    SeqStopsK Fence.wide n Tryd.prog 63 #[] encT (Below n₀) (fun ys => ys = mkT) (fun pre => pre <+: mkT) mkT.length w := by
  intro l J Jx W hW hJ hJx hY h0
  have hTW : Tab W 1 mkT := hT.below hW (by omega)
  have hs := hW.size
  refine (marks1_in n hn l (fun q A => J q A ∧ W.heap.size ≤ A.heap.size ∧ Tab A 1 mkT) Jx W ?_ (fun q A h => h.2) ?_ ⟨h0, Nat.le_refl _, hTW⟩).mono ?_
  · rintro q A B ⟨hj, hsz, ht⟩ _ hb
    exact ⟨hJ q A B none hj (grown_of_below hb) (fun r h => by cases h), Nat.le_trans hsz hb.size, ht.below hb (by omega)⟩
  · rintro pre x W1 ⟨hj, hsz, ht⟩ hlen
    refine (hY pre x W1 hj hlen).mono ?_
    rintro e W' (⟨he, hj', hk⟩ | ⟨he, hj'⟩)
    · exact .inl ⟨he, hj', Nat.le_trans hsz hk.size, ht.below hk hg⟩
    · exact .inr ⟨he, hj'⟩
  · rintro e W' ⟨hv, h | h⟩
    · obtain ⟨ys, hy, hj, _⟩ := h
      exact ⟨hv, .inl ⟨ys, hy, hj⟩⟩
    · exact ⟨hv, .inr h⟩

set_option maxHeartbeats 400000 in
theorem marks_any (w : World) : Calls Tryd.prog 54 #[] w fun e w' => e = .returned (.func (.func 63) #[] #[]) ∧ w = w' := by
  go_enter Tryd.func54, Tryd.ntmps54
  go_wp2
  go_ret
  exact ⟨rfl, rfl⟩

set_option maxRecDepth 100000 in
set_option maxHeartbeats 2000000 in
theorem wides1_in (n : Nat) (hn : 1 ≤ n) (l : Nat) (J Jx : List (Int × Int) → World → Prop) (W : World)
    (hJ : ∀ q A B, J q A → W.heap.size ≤ A.heap.size → Below A.heap.size A B → J q B) (hJw : ∀ q A, J q A → W.heap.size ≤ A.heap.size ∧ Tab A 0 wdT)
    (hY : ∀ pre x W1, J pre W1 → pre.length < wdT.length → YieldAt Fence.wide (n - 1) Tryd.prog l (encT x) W1 fun e W' =>
      (e = .returned (.bool true) ∧ J (pre ++ [x]) W') ∨ (e = .returned (.bool false) ∧ Jx (pre ++ [x]) W'))
    (h0 : J [] W) :
    CallsIn Fence.wide n Tryd.prog 62 #[.func (.yield l) #[] #[]] W fun e W' => (∃ v, e = .returned v) ∧
      ((∃ ys, ys = wdT ∧ J ys W') ∨ (∃ pre, pre <+: wdT ∧ Jx pre W')) := by
  refine callsIn_of_wp Tryd.func62 rfl trivial ?_ rfl
  simp only [Tryd.ntmps62, List.size_toArray, List.length_cons, List.length_nil, Nat.reduceAdd, Nat.reduceSub, Array.replicate_succ, Array.replicate_zero, List.push_toArray, List.append_toArray, List.nil_append, List.cons_append]
  have hY' : ∀ pre x W1, J pre W1 → pre.length < wdT.length → YieldAt Fence.wide (n - 1) Tryd.prog l (encT x) W1 fun e W' => ∃ b, e = .returned (.bool b) ∧ YB J Jx (pre ++ [x]) b W' := fun pre x W1 hj hl => (hY pre x W1 hj hl).mono (by
    rintro e W' (⟨rfl, h⟩ | ⟨rfl, h⟩)
    · exact ⟨true, rfl, .inl ⟨rfl, h⟩⟩
    · exact ⟨false, rfl, .inr ⟨rfl, h⟩⟩)
  clear hY
  have HJ := Lib.hid hJ
  have HJw := Lib.hid hJw
  clear hJ hJw
  gi_wp2
  gi_loopw [2] (fun a wr => ∃ k m : Nat, a = .int .i64 (m : Int) ∧ m = 2 * k ∧ k ≤ 51 ∧ J (wdT.take k) wr) (fun a _ => 102 - (intOf a).toNat)
  case atStart => exact ⟨0, 0, rfl, rfl, by omega, h0⟩
  case round =>
    obtain ⟨k, m, rfl, hmk, hk, hJp⟩ := hrel
    have HM := Lib.hid hmk
    have hw := HJw.out _ _ hJp
    have HJp := Lib.hid hJp
    clear hJp h0
    by_cases hlt : k < 51
    · have hlen : wdT.length = 51 := rfl
      have hx : wdT[k]? = some wdT[k] := List.getElem?_eq_getElem (by omega)
      obtain ⟨hc1, hc2⟩ := hw.2 k _ hx
      rw [← hmk] at hc1 hc2
      have htk : wdT.take (k + 1) = wdT.take k ++ [wdT[k]] := List.take_succ_eq_append_getElem (by omega)
      have hlk : (wdT.take k).length < wdT.length := by simp; omega
      have hJd : J (wdT.take k) wr.drew := HJ.out _ _ _ HJp.out hw.1 (Below.refl _ _).drew
      obtain ⟨fn, tmps, assign, body, hy, hR⟩ := hY' _ wdT[k] wr.drew hJd hlk
      generalize wdT[k] = x at *
      have HT := Lib.hid htk
      clear htk hx hw hJd hlk hlen
      have h1 : (m : Int) < 102 := by omega
      have h2 : (m : Int) + 1 < 102 := by omega
      have h5 : 0 ≤ (m : Int) + 1 := by omega
      have h3 : IntKind.i64.wrap ((m : Int) + 1) = (m : Int) + 1 := IntWalk.i64_in _ (by omega)
      have h4 : ((m : Int) + 1).toNat = m + 1 := by omega
      have h6 : m < 102 := by omega
      have h7 : m + 1 < 102 := by omega
      clear hmk
      simp only [encT] at hy
      clear hY'
      gi_wp2
      gi_region_with (refine hR.mono ?_; rintro e W3 ⟨b, rfl, h3⟩)
      all_goals
        rcases h3 with ⟨rfl, h3⟩ | ⟨rfl, h3⟩
        · have h3' : J (wdT.take (k + 1)) W3 := by rw [HT.out]; exact h3
          have h8 : IntKind.i64.wrap ((m : Int) + 2) = (m : Int) + 2 := IntWalk.i64_in _ (by omega)
          gi_wp2
          refine ⟨⟨k + 1, m + 2, by go_num, by have := HM.out; omega, by omega, h3'⟩, by simp only [intOf]; omega⟩
        · gi_wp2
          refine bodyPost_ret (results_none rfl _ _ _) rfl ?_
          exact ⟨⟨_, rfl⟩, .inr ⟨wdT.take k ++ [x], by rw [← HT.out]; exact List.take_prefix _ _, h3⟩⟩
    · have h1 : ¬ (m : Int) < 102 := by omega
      have h2 : ¬ m < 102 := by omega
      have hfin : J wdT wr := by
        have := HJp.out
        rw [List.take_of_length_le (by show 51 ≤ k; omega)] at this
        exact this
      clear hmk
      gi_wp2
      go_end0
      first | exact ⟨⟨_, rfl⟩, .inl hfin⟩ | exact ⟨⟨_, rfl⟩, .inl ⟨_, rfl, hfin⟩⟩

/-- What a round must keep: below a block all lies as it lay. -/
theorem wides_stops (n : Nat) (hn : 1 ≤ n) (n₀ : Nat) (w : World) (hT : Tab w 0 wdT) (hg : 0 < n₀) (hn₀ : n₀ ≤ w.heap.size) :
    SeqStopsK Fence.wide n Tryd.prog 62 #[] encT (Below n₀) (fun ys => ys = wdT) (fun pre => pre <+: wdT) wdT.length w := by
  intro l J Jx W hW hJ hJx hY h0
  have hTW : Tab W 0 wdT := hT.below hW (by omega)
  have hs := hW.size
  refine (wides1_in n hn l (fun q A => J q A ∧ W.heap.size ≤ A.heap.size ∧ Tab A 0 wdT) Jx W ?_ (fun q A h => h.2) ?_ ⟨h0, Nat.le_refl _, hTW⟩).mono ?_
  · rintro q A B ⟨hj, hsz, ht⟩ _ hb
    exact ⟨hJ q A B none hj (grown_of_below hb) (fun r h => by cases h), Nat.le_trans hsz hb.size, ht.below hb (by omega)⟩
  · rintro pre x W1 ⟨hj, hsz, ht⟩ hlen
    refine (hY pre x W1 hj hlen).mono ?_
    rintro e W' (⟨he, hj', hk⟩ | ⟨he, hj'⟩)
    · exact .inl ⟨he, hj', Nat.le_trans hsz hk.size, ht.below hk hg⟩
    · exact .inr ⟨he, hj'⟩
  · rintro e W' ⟨hv, h | h⟩
    · obtain ⟨ys, hy, hj, _⟩ := h
      exact ⟨hv, .inl ⟨ys, hy, hj⟩⟩
    · exact ⟨hv, .inr h⟩

set_option maxHeartbeats 400000 in
theorem wides_any (w : World) : Calls Tryd.prog 52 #[] w fun e w' => e = .returned (.func (.func 62) #[] #[]) ∧ w = w' := by
  go_enter Tryd.func52, Tryd.ntmps52
  go_wp2
  go_ret
  exact ⟨rfl, rfl⟩
end Go.Proofs.YtmgakdbcgdhpaaaDoor
