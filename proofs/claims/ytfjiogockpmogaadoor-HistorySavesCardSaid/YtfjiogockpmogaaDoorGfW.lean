/-
  Plain mathematics of widths: the ranges, and what a rune is. No program is named here.
  Walks: the iterators over the ranges of marks and of wide runes.
  Walks: width.within, over whatever iterator of ranges.
  Walks: width.Control, Mark, Wide, Of, and the reference's.
  Walks: the reference's ranges.
  Walks: the reference's Mark, Wide, Of.
  Plain mathematics of Sum and Fit. No program is named here.
-/
import Derived.RangeFuncNested
import Derived.RangeFuncBound
import Derived.RangeFuncCalls
import Derived.RangeFuncLeaves
import Derived.Shelf.Abstract
import Derived.Shelf.RegionOpen
import Derived.OwnWalkIn
import Derived.TacticsInMore
import Derived.LoopNIn
import Derived.LoopIn
import Derived.IntWalk
import Derived.Stop.RegionWithIn
import Derived.Test.YtfjiogockpmogaaDoorGfA
import Derived.Test.YtfjiogockpmogaaDoorRows
import Derived.RangeFuncWrites
import Derived.Outline
import Derived.WalkSpells
import Derived.WalkLawsBesides
namespace Go.Proofs.YtfjiogockpmogaaDoor
set_option linter.unusedVariables false

/-- the ranges of marks -/
def mkT : List (Int × Int) := [(768, 879), (1155, 1161), (1425, 1469), (1471, 1471), (1473, 1474), (1476, 1477), (1479, 1479), (1552, 1562), (1611, 1631), (1648, 1648), (1750, 1756), (1759, 1764), (1767, 1768), (1770, 1773), (3633, 3633), (3636, 3642), (3655, 3662), (6832, 6911), (7616, 7679), (8203, 8207), (8288, 8292), (8400, 8432), (12330, 12333), (12441, 12442), (65024, 65039), (65056, 65071), (65279, 65279), (917760, 917999)]
/-- the ranges of wide runes -/
def wdT : List (Int × Int) := [(4352, 4447), (8986, 8987), (9001, 9002), (9193, 9196), (9200, 9200), (9203, 9203), (9725, 9726), (9748, 9749), (9800, 9811), (9855, 9855), (9875, 9875), (9889, 9889), (9898, 9899), (9917, 9918), (9924, 9925), (9934, 9934), (9940, 9940), (9962, 9962), (9970, 9971), (9973, 9973), (9978, 9978), (9981, 9981), (9989, 9989), (9994, 9995), (10024, 10024), (10060, 10060), (10062, 10062), (10067, 10069), (10071, 10071), (10133, 10135), (10160, 10160), (10175, 10175), (11035, 11036), (11088, 11088), (11093, 11093), (11904, 12350), (12353, 19903), (19968, 42191), (43360, 43391), (44032, 55203), (63744, 64255), (65040, 65049), (65072, 65135), (65281, 65376), (65504, 65510), (127744, 128591), (128640, 128767), (129280, 129535), (129648, 129791), (131072, 196605), (196608, 262141)]

/-- does it lie in one of the ranges? -/
def inT (l : List (Int × Int)) (r : Int) : Bool := l.any fun x => decide (x.1 ≤ r) && decide (r ≤ x.2)
/-- the first range that does not end ahead of it decides -/
def wit : List (Int × Int) → Int → Bool
  | [], _ => false
  | x :: l, r => if r ≤ x.2 then decide (x.1 ≤ r) else wit l r
/-- ranges that increase -/
def srt : List (Int × Int) → Bool
  | [] => true
  | x :: l => decide (x.1 ≤ x.2) && l.all (fun y => decide (x.2 < y.1)) && srt l

theorem inT_before (l : List (Int × Int)) (r a : Int) (h : r ≤ a) (hl : l.all (fun y => decide (a < y.1)) = true) : inT l r = false := by
  unfold inT
  rw [List.any_eq_false]
  intro x hx
  have := List.all_eq_true.1 hl x hx
  simp at this ⊢
  intro
  omega
theorem wit_eq (l : List (Int × Int)) (r : Int) (h : srt l = true) : wit l r = inT l r := by
  induction l with
  | nil => rfl
  | cons x l ih =>
    simp only [srt, Bool.and_eq_true] at h
    have e : inT (x :: l) r = ((decide (x.1 ≤ r) && decide (r ≤ x.2)) || inT l r) := rfl
    rw [e]
    simp only [wit]
    by_cases hr : r ≤ x.2
    · rw [if_pos hr, inT_before l r x.2 hr h.1.2]; simp [hr]
    · rw [if_neg hr, ih h.2]; simp [hr]
theorem mk_srt : srt mkT = true := by decide +kernel
theorem wd_srt : srt wdT = true := by decide +kernel

/-- what has come up before does not decide: what is left does -/
theorem wit_append (l m : List (Int × Int)) (r : Int) (h : ∀ x ∈ l, ¬ r ≤ x.2) : wit (l ++ m) r = wit m r := by
  induction l with
  | nil => rfl
  | cons x l ih =>
    simp only [List.cons_append, wit]
    rw [if_neg (h x (by simp)), ih (fun y hy => h y (by simp [hy]))]
theorem wit_none (l : List (Int × Int)) (r : Int) (h : ∀ x ∈ l, ¬ r ≤ x.2) : wit l r = false := by
  have := wit_append l [] r h
  simpa [wit] using this

def ctB (r : Int) : Bool := (decide (0 ≤ r) && decide (r ≤ 31)) || (decide (127 ≤ r) && decide (r ≤ 159))
def mkB (r : Int) : Bool := inT mkT r
def wdB (r : Int) : Bool := inT wdT r && !mkB r
def rnB (r : Int) : Bool := decide (0 ≤ r) && decide (r ≤ 1114111) && (decide (r < 55296) || decide (57343 < r))
def ofI (r : Int) : Int := if (!rnB r || ctB r || mkB r) = true then 0 else if inT wdT r = true then 2 else 1
theorem ofI_01 (r : Int) : 0 ≤ ofI r ∧ ofI r ≤ 2 := by unfold ofI; split <;> (try split) <;> omega
end Go.Proofs.YtfjiogockpmogaaDoor

namespace Go.Proofs.YtfjiogockpmogaaDoor
open Go.RowKit Go.Shelf
attribute [local go_sem] Oper.semAt_some
set_option linter.unusedVariables false

/-- The ranges' cells, firsts and lasts by turns. -/
def Tab (w : World) (g : Nat) (T : List (Int × Int)) : Prop := ∀ k x, T[k]? = some x → w.cell? ⟨g, 2 * k, none⟩ = some (.int .i32 x.1) ∧ w.cell? ⟨g, 2 * k + 1, none⟩ = some (.int .i32 x.2)
theorem Tab.below {w w' : World} {B g : Nat} {T : List (Int × Int)} (h : Tab w g T) (hb : Below B w w') (hg : g < B) : Tab w' g T := fun k x hx => ⟨(hb.cell (p := ⟨g, 2 * k, none⟩) hg).trans (h k x hx).1, (hb.cell (p := ⟨g, 2 * k + 1, none⟩) hg).trans (h k x hx).2⟩
def YB (J Jx : List (Int × Int) → World → Prop) (q : List (Int × Int)) (b : Bool) (W : World) : Prop := (b = true ∧ J q W) ∨ (b = false ∧ Jx q W)
def encT (x : Int × Int) : Array Value := #[.int .i32 x.1, .int .i32 x.2]

set_option maxRecDepth 100000 in
set_option maxHeartbeats 2000000 in
theorem marks1_in (n : Nat) (hn : 1 ≤ n) (l : Nat) (J Jx : List (Int × Int) → World → Prop) (W : World)
    (hJ : ∀ q A B, J q A → W.heap.size ≤ A.heap.size → Below A.heap.size A B → J q B) (hJw : ∀ q A, J q A → W.heap.size ≤ A.heap.size ∧ Tab A 1 mkT)
    (hY : ∀ pre x W1, J pre W1 → pre.length < mkT.length → YieldAt Fence.wide (n - 1) Tryd.prog l (encT x) W1 fun e W' =>
      (e = .returned (.bool true) ∧ J (pre ++ [x]) W') ∨ (e = .returned (.bool false) ∧ Jx (pre ++ [x]) W'))
    (h0 : J [] W) :
    CallsIn Fence.wide n Tryd.prog 117 #[.func (.yield l) #[] #[]] W fun e W' => (∃ v, e = .returned v) ∧
      ((∃ ys, ys = mkT ∧ J ys W') ∨ (∃ pre, pre <+: mkT ∧ Jx pre W')) := by
  refine callsIn_of_wp Tryd.func117 rfl trivial ?_ rfl
  simp only [Tryd.ntmps117, List.size_toArray, List.length_cons, List.length_nil, Nat.reduceAdd, Nat.reduceSub, Array.replicate_succ, Array.replicate_zero, List.push_toArray, List.append_toArray, List.nil_append, List.cons_append]
  have hY' : ∀ pre x W1, J pre W1 → pre.length < mkT.length → YieldAt Fence.wide (n - 1) Tryd.prog l (encT x) W1 fun e W' => ∃ b, e = .returned (.bool b) ∧ YB J Jx (pre ++ [x]) b W' := fun pre x W1 hj hl => (hY pre x W1 hj hl).mono (by
    rintro e W' (⟨rfl, h⟩ | ⟨rfl, h⟩)
    · exact ⟨true, rfl, .inl ⟨rfl, h⟩⟩
    · exact ⟨false, rfl, .inr ⟨rfl, h⟩⟩)
  clear hY
  have HJ := Lib.hid hJ
  have HJw := Lib.hid hJw
  clear hJ hJw
  gi_wp2
  gi_loopw [2] (fun a wr => ∃ k m : Nat, a = .int .i64 (m : Int) ∧ m = 2 * k ∧ k ≤ 28 ∧ J (mkT.take k) wr) (fun a _ => 56 - (intOf a).toNat)
  case atStart => exact ⟨0, 0, rfl, rfl, by omega, h0⟩
  case round =>
    obtain ⟨k, m, rfl, hmk, hk, hJp⟩ := hrel
    have HM := Lib.hid hmk
    have hw := HJw.out _ _ hJp
    have HJp := Lib.hid hJp
    clear hJp h0
    by_cases hlt : k < 28
    · have hlen : mkT.length = 28 := rfl
      have hx : mkT[k]? = some mkT[k] := List.getElem?_eq_getElem (by omega)
      obtain ⟨hc1, hc2⟩ := hw.2 k _ hx
      rw [← hmk] at hc1 hc2
      have htk : mkT.take (k + 1) = mkT.take k ++ [mkT[k]] := List.take_succ_eq_append_getElem (by omega)
      have hlk : (mkT.take k).length < mkT.length := by simp; omega
      have hJd : J (mkT.take k) wr.drew := HJ.out _ _ _ HJp.out hw.1 (Below.refl _ _).drew
      obtain ⟨fn, tmps, assign, body, hy, hR⟩ := hY' _ mkT[k] wr.drew hJd hlk
      generalize mkT[k] = x at *
      have HT := Lib.hid htk
      clear htk hx hw hJd hlk hlen
      have h1 : (m : Int) < 56 := by omega
      have h2 : (m : Int) + 1 < 56 := by omega
      have h5 : 0 ≤ (m : Int) + 1 := by omega
      have h3 : IntKind.i64.wrap ((m : Int) + 1) = (m : Int) + 1 := IntWalk.i64_in _ (by omega)
      have h4 : ((m : Int) + 1).toNat = m + 1 := by omega
      have h6 : m < 56 := by omega
      have h7 : m + 1 < 56 := by omega
      clear hmk
      simp only [encT] at hy
      clear hY'
      gi_wp2
      gi_region_with (refine hR.mono ?_; rintro e W3 ⟨b, rfl, h3⟩)
      all_goals
        rcases h3 with ⟨rfl, h3⟩ | ⟨rfl, h3⟩
        · have h3' : J (mkT.take (k + 1)) W3 := by rw [HT.out]; exact h3
          have h8 : IntKind.i64.wrap ((m : Int) + 2) = (m : Int) + 2 := IntWalk.i64_in _ (by omega)
          gi_wp2
          refine ⟨⟨k + 1, m + 2, by go_num, by have := HM.out; omega, by omega, h3'⟩, by simp only [intOf]; omega⟩
        · gi_wp2
          refine bodyPost_ret (results_none rfl _ _ _) rfl ?_
          exact ⟨⟨_, rfl⟩, .inr ⟨mkT.take k ++ [x], by rw [← HT.out]; exact List.take_prefix _ _, h3⟩⟩
    · have h1 : ¬ (m : Int) < 56 := by omega
      have h2 : ¬ m < 56 := by omega
      have hfin : J mkT wr := by
        have := HJp.out
        rw [List.take_of_length_le (by show 28 ≤ k; omega)] at this
        exact this
      clear hmk
      gi_wp2
      go_end0
      first | exact ⟨⟨_, rfl⟩, .inl hfin⟩ | exact ⟨⟨_, rfl⟩, .inl ⟨_, rfl, hfin⟩⟩

/-- What a round must keep: below a block all lies as it lay. -/
theorem marks_stops (n : Nat) (hn : 1 ≤ n) (n₀ : Nat) (w : World) (hT : Tab w 1 mkT) (hg : 1 < n₀) (hn₀ : n₀ ≤ w.heap.size) :
    SeqStopsK Fence.wide n Tryd.prog 117 #[] encT (Below n₀) (fun ys => ys = mkT) (fun pre => pre <+: mkT) mkT.length w := by
  intro l J Jx W hW hJ hJx hY h0
  have hTW : Tab W 1 mkT := hT.below hW (by omega)
  have hs := hW.size
  refine (marks1_in n hn l (fun q A => J q A ∧ W.heap.size ≤ A.heap.size ∧ Tab A 1 mkT) Jx W ?_ (fun q A h => h.2) ?_ ⟨h0, Nat.le_refl _, hTW⟩).mono ?_
  · rintro q A B ⟨hj, hsz, ht⟩ _ hb
    exact ⟨hJ q A B none hj (grown_of_below hb) (fun r h => by cases h), Nat.le_trans hsz hb.size, ht.below hb (by omega)⟩
  · rintro pre x W1 ⟨hj, hsz, ht⟩ hlen
    refine (hY pre x W1 hj hlen).mono ?_
    rintro e W' (⟨he, hj', hk⟩ | ⟨he, hj'⟩)
    · exact .inl ⟨he, hj', Nat.le_trans hsz hk.size, ht.below hk hg⟩
    · exact .inr ⟨he, hj'⟩
  · rintro e W' ⟨hv, h | h⟩
    · obtain ⟨ys, hy, hj, _⟩ := h
      exact ⟨hv, .inl ⟨ys, hy, hj⟩⟩
    · exact ⟨hv, .inr h⟩

set_option maxHeartbeats 400000 in
theorem marks_any (w : World) : Calls Tryd.prog 110 #[] w fun e w' => e = .returned (.func (.func 117) #[] #[]) ∧ w = w' := by
  go_enter Tryd.func110, Tryd.ntmps110
  go_wp2
  go_ret
  exact ⟨rfl, rfl⟩

set_option maxRecDepth 100000 in
set_option maxHeartbeats 2000000 in
theorem wides1_in (n : Nat) (hn : 1 ≤ n) (l : Nat) (J Jx : List (Int × Int) → World → Prop) (W : World)
    (hJ : ∀ q A B, J q A → W.heap.size ≤ A.heap.size → Below A.heap.size A B → J q B) (hJw : ∀ q A, J q A → W.heap.size ≤ A.heap.size ∧ Tab A 2 wdT)
    (hY : ∀ pre x W1, J pre W1 → pre.length < wdT.length → YieldAt Fence.wide (n - 1) Tryd.prog l (encT x) W1 fun e W' =>
      (e = .returned (.bool true) ∧ J (pre ++ [x]) W') ∨ (e = .returned (.bool false) ∧ Jx (pre ++ [x]) W'))
    (h0 : J [] W) :
    CallsIn Fence.wide n Tryd.prog 118 #[.func (.yield l) #[] #[]] W fun e W' => (∃ v, e = .returned v) ∧
      ((∃ ys, ys = wdT ∧ J ys W') ∨ (∃ pre, pre <+: wdT ∧ Jx pre W')) := by
  refine callsIn_of_wp Tryd.func118 rfl trivial ?_ rfl
  simp only [Tryd.ntmps118, List.size_toArray, List.length_cons, List.length_nil, Nat.reduceAdd, Nat.reduceSub, Array.replicate_succ, Array.replicate_zero, List.push_toArray, List.append_toArray, List.nil_append, List.cons_append]
  have hY' : ∀ pre x W1, J pre W1 → pre.length < wdT.length → YieldAt Fence.wide (n - 1) Tryd.prog l (encT x) W1 fun e W' => ∃ b, e = .returned (.bool b) ∧ YB J Jx (pre ++ [x]) b W' := fun pre x W1 hj hl => (hY pre x W1 hj hl).mono (by
    rintro e W' (⟨rfl, h⟩ | ⟨rfl, h⟩)
    · exact ⟨true, rfl, .inl ⟨rfl, h⟩⟩
    · exact ⟨false, rfl, .inr ⟨rfl, h⟩⟩)
  clear hY
  have HJ := Lib.hid hJ
  have HJw := Lib.hid hJw
  clear hJ hJw
  gi_wp2
  gi_loopw [2] (fun a wr => ∃ k m : Nat, a = .int .i64 (m : Int) ∧ m = 2 * k ∧ k ≤ 51 ∧ J (wdT.take k) wr) (fun a _ => 102 - (intOf a).toNat)
  case atStart => exact ⟨0, 0, rfl, rfl, by omega, h0⟩
  case round =>
    obtain ⟨k, m, rfl, hmk, hk, hJp⟩ := hrel
    have HM := Lib.hid hmk
    have hw := HJw.out _ _ hJp
    have HJp := Lib.hid hJp
    clear hJp h0
    by_cases hlt : k < 51
    · have hlen : wdT.length = 51 := rfl
      have hx : wdT[k]? = some wdT[k] := List.getElem?_eq_getElem (by omega)
      obtain ⟨hc1, hc2⟩ := hw.2 k _ hx
      rw [← hmk] at hc1 hc2
      have htk : wdT.take (k + 1) = wdT.take k ++ [wdT[k]] := List.take_succ_eq_append_getElem (by omega)
      have hlk : (wdT.take k).length < wdT.length := by simp; omega
      have hJd : J (wdT.take k) wr.drew := HJ.out _ _ _ HJp.out hw.1 (Below.refl _ _).drew
      obtain ⟨fn, tmps, assign, body, hy, hR⟩ := hY' _ wdT[k] wr.drew hJd hlk
      generalize wdT[k] = x at *
      have HT := Lib.hid htk
      clear htk hx hw hJd hlk hlen
      have h1 : (m : Int) < 102 := by omega
      have h2 : (m : Int) + 1 < 102 := by omega
      have h5 : 0 ≤ (m : Int) + 1 := by omega
      have h3 : IntKind.i64.wrap ((m : Int) + 1) = (m : Int) + 1 := IntWalk.i64_in _ (by omega)
      have h4 : ((m : Int) + 1).toNat = m + 1 := by omega
      have h6 : m < 102 := by omega
      have h7 : m + 1 < 102 := by omega
      clear hmk
      simp only [encT] at hy
      clear hY'
      gi_wp2
      gi_region_with (refine hR.mono ?_; rintro e W3 ⟨b, rfl, h3⟩)
      all_goals
        rcases h3 with ⟨rfl, h3⟩ | ⟨rfl, h3⟩
        · have h3' : J (wdT.take (k + 1)) W3 := by rw [HT.out]; exact h3
          have h8 : IntKind.i64.wrap ((m : Int) + 2) = (m : Int) + 2 := IntWalk.i64_in _ (by omega)
          gi_wp2
          refine ⟨⟨k + 1, m + 2, by go_num, by have := HM.out; omega, by omega, h3'⟩, by simp only [intOf]; omega⟩
        · gi_wp2
          refine bodyPost_ret (results_none rfl _ _ _) rfl ?_
          exact ⟨⟨_, rfl⟩, .inr ⟨wdT.take k ++ [x], by rw [← HT.out]; exact List.take_prefix _ _, h3⟩⟩
    · have h1 : ¬ (m : Int) < 102 := by omega
      have h2 : ¬ m < 102 := by omega
      have hfin : J wdT wr := by
        have := HJp.out
        rw [List.take_of_length_le (by show 51 ≤ k; omega)] at this
        exact this
      clear hmk
      gi_wp2
      go_end0
      first | exact ⟨⟨_, rfl⟩, .inl hfin⟩ | exact ⟨⟨_, rfl⟩, .inl ⟨_, rfl, hfin⟩⟩

/-- What a round must keep: below a block all lies as it lay. -/
theorem wides_stops (n : Nat) (hn : 1 ≤ n) (n₀ : Nat) (w : World) (hT : Tab w 2 wdT) (hg : 2 < n₀) (hn₀ : n₀ ≤ w.heap.size) :
    SeqStopsK Fence.wide n Tryd.prog 118 #[] encT (Below n₀) (fun ys => ys = wdT) (fun pre => pre <+: wdT) wdT.length w := by
  intro l J Jx W hW hJ hJx hY h0
  have hTW : Tab W 2 wdT := hT.below hW (by omega)
  have hs := hW.size
  refine (wides1_in n hn l (fun q A => J q A ∧ W.heap.size ≤ A.heap.size ∧ Tab A 2 wdT) Jx W ?_ (fun q A h => h.2) ?_ ⟨h0, Nat.le_refl _, hTW⟩).mono ?_
  · rintro q A B ⟨hj, hsz, ht⟩ _ hb
    exact ⟨hJ q A B none hj (grown_of_below hb) (fun r h => by cases h), Nat.le_trans hsz hb.size, ht.below hb (by omega)⟩
  · rintro pre x W1 ⟨hj, hsz, ht⟩ hlen
    refine (hY pre x W1 hj hlen).mono ?_
    rintro e W' (⟨he, hj', hk⟩ | ⟨he, hj'⟩)
    · exact .inl ⟨he, hj', Nat.le_trans hsz hk.size, ht.below hk hg⟩
    · exact .inr ⟨he, hj'⟩
  · rintro e W' ⟨hv, h | h⟩
    · obtain ⟨ys, hy, hj, _⟩ := h
      exact ⟨hv, .inl ⟨ys, hy, hj⟩⟩
    · exact ⟨hv, .inr h⟩

set_option maxHeartbeats 400000 in
theorem wides_any (w : World) : Calls Tryd.prog 114 #[] w fun e w' => e = .returned (.func (.func 118) #[] #[]) ∧ w = w' := by
  go_enter Tryd.func114, Tryd.ntmps114
  go_wp2
  go_ret
  exact ⟨rfl, rfl⟩
end Go.Proofs.YtfjiogockpmogaaDoor

namespace Go.Proofs.YtfjiogockpmogaaDoor
open Go.RowKit Go.Shelf
attribute [local go_sem] Oper.semAt_some
set_option linter.unusedVariables false

def InA (T : List (Int × Int)) (r : Int) (b : Nat) (pre : List (Int × Int)) (W : World) : Prop := (∀ y ∈ pre, y.2 < r) ∧ W.cell? ⟨b, 0, none⟩ = some (.int .i32 r) ∧ W.cell? ⟨b + 1, 0, none⟩ = some (.bool false) ∧ W.frozen? ⟨b + 1, 0, none⟩ = false
def OutA (T : List (Int × Int)) (r : Int) (b : Nat) (c : Code) (pre : List (Int × Int)) (W : World) : Prop := c = .ret ∧ ∃ v, (pre <+: T → v = wit T r) ∧ W.cell? ⟨b + 1, 0, none⟩ = some (.bool v)
theorem out_wit {T pre : List (Int × Int)} {x : Int × Int} {r : Int} {v : Bool} (hp : ∀ y ∈ pre, y.2 < r) (hx : r ≤ x.2) (hv : v = decide (x.1 ≤ r)) (h : pre ++ [x] <+: T) : v = wit T r := by
  obtain ⟨t, rfl⟩ := h
  rw [List.append_assoc, wit_append _ _ _ (fun y hy => by have := hp y hy; omega)]
  simp only [List.cons_append, wit]
  rw [if_pos hx, hv]

set_option maxRecDepth 100000 in
set_option maxHeartbeats 2000000 in
theorem within_any (gf : Nat) (T : List (Int × Int)) (r : Int) (w : World) (hen : ∀ (args : Array Value) (w : World), Sem.run Tryd.prog (callFunc gf args) w = Result.ok (Next.enter gf args) w)
    (hst : ∀ w', Below w.heap.size w w' → SeqStopsK Fence.wide 4 Tryd.prog gf #[] encT (Below w.heap.size) (fun ys => ys = T) (fun pre => pre <+: T) T.length w') :
    Calls Tryd.prog 109 #[.int .i32 r, .func (.func gf) #[] #[]] w fun e w' => e = .returned (.bool (wit T r)) ∧ Below w.heap.size w w' := by
  generalize hv0 : wit T r = v0
  have HV0 := Lib.hid hv0
  clear hv0
  refine (callsIn_wide (n := 5)).1 ?_
  refine callsIn_of_wp_marks Tryd.func109 rfl trivial ?_ rfl
  simp only [Tryd.ntmps109, List.size_toArray, List.length_cons, List.length_nil, Nat.reduceAdd, Nat.reduceSub, Array.replicate_succ, Array.replicate_zero, List.push_toArray, List.append_toArray, List.nil_append, List.cons_append]
  refine wpIn_wide.2 ?_
  go_wp2
  refine (wpIn_wide (n := 5)).1 ?_
  have c0 := (Boxed.new w 21 (.int .i32 r)).alloc (.cells #[.bool false] 4)
  have c1 := Boxed.new (w.alloc (.cells #[.int .i32 r] 21)) 4 (.bool false)
  rw [World.size_alloc] at c1
  have hB0 : Below w.heap.size w ((w.alloc (.cells #[.int .i32 r] 21)).alloc (.cells #[.bool false] 4)) := ((Below.refl _ w).alloc (Nat.le_refl _) _).alloc (by simp) _
  have hc := hst _ hB0
  refine wpIn_rangeFunc_ownG rfl (by omega) (gf := gf) (lb := #[]) rfl trivial hen hc belowK_t (belowK_b (by simp; omega)) (Below.refl _ _) (fun _ => rfl)
    (fun pre W => InA T r w.heap.size pre W ∧ Below w.heap.size w W)
    (fun c pre W => OutA T r w.heap.size c pre W ∧ Below w.heap.size w W)
    (OwnFrom.and (Own.from (fun s A B row hs hg hr => ⟨hs.1, cell_kept hs.2.1 hg hr, cell_kept hs.2.2.1 hg hr, (frozen_kept hs.2.2.1 hg hr).trans hs.2.2.2⟩) _) (ownFrom_below (Nat.le_refl _) (by simp; omega)))
    (fun c => OwnFrom.and (Own.from (fun s A B row hs hg hr => ⟨hs.1, hs.2.elim fun v h => ⟨v, h.1, cell_kept h.2 hg hr⟩⟩) _) (ownFrom_below (Nat.le_refl _) (by simp; omega)))
    ⟨⟨by simp, c0.cell, c1.cell, c1.frozen⟩, hB0⟩
    (fun x => { tmps := #[.int .i32 r, .func (.func gf) #[] #[], .pointer (some ⟨w.heap.size, 0, none⟩), undef, .pointer (some ⟨w.heap.size + 1, 0, none⟩), .int .i32 x.1, .int .i32 x.2, .func (.func gf) #[] #[], .int .i32 x.1, .int .i32 x.2, undef, undef, undef, undef, undef, undef], defers := [] }) ?assign ?body ?done ?stop
  case assign =>
    intro l x W K hK
    simp only [encT]
    rw [put_two]
    gi_wp2
    exact hK
  case body =>
    rintro l pre x W ⟨⟨hp, hcw, hcr, hfr⟩, hB⟩ _
    have HP := Lib.hid hp
    clear hp
    by_cases hx : r ≤ x.2
    · obtain ⟨v, hv⟩ : ∃ v, v = decide (x.1 ≤ r) := ⟨_, rfl⟩
      have HV := Lib.hid hv
      rw [eq_comm] at hv
      gi_wp2
      refine ⟨(KeepsOthers.setCell _ _ _).from _, ⟨rfl, v, fun h => out_wit HP.out hx HV.out h, ?_⟩, hB.setCell (p := ⟨w.heap.size + 1, 0, none⟩) (by simp) _⟩
      exact World.cell?_setCell_same' _ _ _ (by rw [hcr]; rfl)
    · have HX := Lib.hid hx
      gi_wp2
      exact ⟨(KeepsOthers.refl _).from _, Below.refl _ _, ⟨fun y hy => (List.mem_append.1 hy).elim (HP.out y) (fun e => by simp at e; subst e; have := HX.out; omega), hcw, hcr, hfr⟩, hB⟩
  case done =>
    rintro D ys W hD rfl ⟨⟨hne, _, hcr, hfr⟩, hB⟩ hK
    have hw0 := wit_none ys r (fun y hy => by have := hne y hy; omega)
    obtain rfl : false = v0 := hw0.symm.trans HV0.out
    clear hne hw0
    go_wp2
    have hK' := (KeepsOthers.setCell W ⟨w.heap.size + 1, 0, none⟩ (.bool false)).same D _ hK rfl
    refine ⟨by simp, .inl ⟨_, _, rfl, run_takeDeferred hK', ?_⟩⟩
    have hc5 := cell_kept (World.cell?_setCell_same' W ⟨w.heap.size + 1, 0, none⟩ (.bool false) (by rw [hcr]; rfl)) (grownBy_putObj' _ D (.deferred none)) (fun r e => by cases e; exact ⟨_, hK', rfl⟩)
    refine ⟨.bool false, ?_, rfl, (hB.setCell (p := ⟨w.heap.size + 1, 0, none⟩) (by simp) _).trans (belowK_b (w := w) (Nat.le_refl _) _ D _ _ (by simp at hD; omega) hK' rfl rfl)⟩
    simp [results, Tryd.f109, go_sem, hc5]
  case stop =>
    rintro D c pre W hD hpre ⟨⟨rfl, v, hv, hcr⟩, hB⟩ hK
    obtain rfl : v = v0 := (hv hpre).trans HV0.out
    clear hv hpre
    gi_wp2
    refine ⟨by simp, .inl ⟨_, _, rfl, run_takeDeferred hK, ?_⟩⟩
    have hc5 := cell_kept hcr (grownBy_putObj' _ D (.deferred none)) (fun r e => by cases e; exact ⟨_, hK, rfl⟩)
    refine ⟨.bool v, ?_, rfl, hB.trans (belowK_b (w := w) (Nat.le_refl _) W D _ _ (by simp at hD; omega) hK rfl rfl)⟩
    simp [results, Tryd.f109, go_sem, hc5]
end Go.Proofs.YtfjiogockpmogaaDoor

namespace Go.Proofs.YtfjiogockpmogaaDoor
open Go.RowKit Go.Shelf
set_option linter.unusedVariables false


/-- The ranges of the program lie where the program's text lays them. -/
structure Tabs (w : World) : Prop where
  mt : Tab w 1 mkT
  wt : Tab w 2 wdT
  mg : 1 < w.heap.size
  wg : 2 < w.heap.size
theorem Tabs.below {w w' : World} (h : Tabs w) (hb : Below w.heap.size w w') : Tabs w' :=
  ⟨h.mt.below hb h.mg, h.wt.below hb h.wg, Nat.lt_of_lt_of_le h.mg hb.size, Nat.lt_of_lt_of_le h.wg hb.size⟩

set_option maxHeartbeats 400000 in
theorem ctl_any (r : Int) (w : World) : Calls Tryd.prog 94 #[.int .i32 r] w fun e w' => e = .returned (.bool (ctB r)) ∧ w = w' := by
  go_enter Tryd.func94, Tryd.ntmps94
  go_wp2
  all_goals
    go_ret
    exact ⟨ret_bool (by unfold ctB; rw [Bool.eq_iff_iff]; simp; omega), rfl⟩
set_option maxHeartbeats 400000 in
theorem rctl_any (r : Int) (w : World) : Calls Tryd.prog 88 #[.int .i32 r] w fun e w' => e = .returned (.bool (ctB r)) ∧ w = w' := by
  go_enter Tryd.func88, Tryd.ntmps88
  go_wp2
  all_goals
    go_ret
    exact ⟨ret_bool (by unfold ctB; rw [Bool.eq_iff_iff]; simp; omega), rfl⟩
set_option maxHeartbeats 400000 in
theorem isr_any (r : Int) (w : World) : Calls Tryd.prog 113 #[.int .i32 r] w fun e w' => e = .returned (.bool (rnB r)) ∧ w = w' := by
  go_enter Tryd.func113, Tryd.ntmps113
  go_wp2
  all_goals
    go_ret
    exact ⟨ret_bool (by unfold rnB; rw [Bool.eq_iff_iff]; simp; omega), rfl⟩
set_option maxHeartbeats 400000 in
theorem risr_any (r : Int) (w : World) : Calls Tryd.prog 87 #[.int .i32 r] w fun e w' => e = .returned (.bool (rnB r)) ∧ w = w' := by
  go_enter Tryd.func87, Tryd.ntmps87
  go_wp2
  all_goals
    go_ret
    exact ⟨ret_bool (by unfold rnB; rw [Bool.eq_iff_iff]; simp; omega), rfl⟩

set_option maxHeartbeats 400000 in
theorem inMarks_any (r : Int) (w : World) (h : Tabs w) : Calls Tryd.prog 109 #[.int .i32 r, .func (.func 117) #[] #[]] w fun e w' => e = .returned (.bool (inT mkT r)) ∧ Below w.heap.size w w' := by
  rw [← wit_eq _ _ mk_srt]
  exact within_any _ mkT r w (enters_of Tryd.func117 (by kernel_rfl) rfl) fun w' hb => marks_stops 4 (by omega) _ w' (h.mt.below hb h.mg) h.mg hb.size
set_option maxHeartbeats 400000 in
theorem inWides_any (r : Int) (w : World) (h : Tabs w) : Calls Tryd.prog 109 #[.int .i32 r, .func (.func 118) #[] #[]] w fun e w' => e = .returned (.bool (inT wdT r)) ∧ Below w.heap.size w w' := by
  rw [← wit_eq _ _ wd_srt]
  exact within_any _ wdT r w (enters_of Tryd.func118 (by kernel_rfl) rfl) fun w' hb => wides_stops 4 (by omega) _ w' (h.wt.below hb h.wg) h.wg hb.size

set_option maxHeartbeats 400000 in
theorem mark_any (r : Int) (w : World) (h : Tabs w) : Calls Tryd.prog 95 #[.int .i32 r] w fun e w' => e = .returned (.bool (mkB r)) ∧ Below w.heap.size w w' := by
  go_enter Tryd.func95, Tryd.ntmps95
  go_wp2_with (first
    | (go_at_call 110; refine (marks_any _).mono ?_; rintro e w' ⟨rfl, rfl⟩)
    | (go_at_call 109; refine (inMarks_any r w h).mono ?_; rintro e w1 ⟨rfl, hb⟩))
  go_ret
  exact ⟨rfl, hb⟩

set_option maxHeartbeats 1000000 in
theorem of_any (r : Int) (w : World) (h : Tabs w) : Calls Tryd.prog 98 #[.int .i32 r] w fun e w' => e = .returned (.int .i64 (ofI r)) ∧ Below w.heap.size w w' := by
  unfold ofI
  generalize hr : rnB r = a
  have HR := Lib.hid hr
  clear hr
  generalize hc : ctB r = b
  have HC := Lib.hid hc
  clear hc
  generalize hm : mkB r = c
  have HM := Lib.hid hm
  clear hm
  generalize hv : inT wdT r = d
  have HV := Lib.hid hv
  clear hv
  cases a <;> cases b <;> cases c <;> cases d
  all_goals
    go_enter Tryd.func98, Tryd.ntmps98
    go_wp2_with (first
      | (go_at_call 113; refine (isr_any r w).mono ?_; rintro e w' ⟨rfl, rfl⟩; rw [HR.out])
      | (go_at_call 94; refine (ctl_any r w).mono ?_; rintro e w' ⟨rfl, rfl⟩; rw [HC.out])
      | (go_at_call 95; refine (mark_any r w h).mono ?_; rintro e w1 ⟨rfl, hb⟩; rw [HM.out])
      | (go_at_call 114; refine (wides_any _).mono ?_; rintro e w' ⟨rfl, rfl⟩)
      | (go_at_call 109; refine (inWides_any r w1 (h.below hb)).mono ?_; rintro e w2 ⟨rfl, hb2⟩; rw [HV.out]))
    go_ret
    first
      | exact ⟨rfl, Below.refl _ _⟩
      | exact ⟨rfl, hb⟩
      | exact ⟨rfl, hb.trans (hb2.mono hb.size)⟩
end Go.Proofs.YtfjiogockpmogaaDoor

namespace Go.Proofs.YtfjiogockpmogaaDoor
open Go.RowKit Go.Shelf
set_option linter.unusedVariables false

def flatT (T : List (Int × Int)) : List Value := T.flatMap fun x => [.int .i32 x.1, .int .i32 x.2]
theorem flatT_get (T : List (Int × Int)) : ∀ k x, T[k]? = some x → (flatT T)[2 * k]? = some (.int .i32 x.1) ∧ (flatT T)[2 * k + 1]? = some (.int .i32 x.2) := by
  induction T with
  | nil => intro k x h; simp at h
  | cons y T ih =>
    intro k x h
    have e : flatT (y :: T) = .int .i32 y.1 :: .int .i32 y.2 :: flatT T := rfl
    cases k with
    | zero => simp at h; subst h; rw [e]; simp
    | succ k =>
      simp at h
      have := ih k x h
      rw [e, show 2 * (k + 1) = 2 * k + 1 + 1 from by omega, show 2 * k + 1 + 1 + 1 = (2 * k + 1) + 1 + 1 from rfl]
      simpa using this
theorem Tab.new (w : World) (cs : Array Value) (t : TypeId) (T : List (Int × Int)) (h : cs.toList = flatT T) : Tab (w.alloc (.cells cs t)) w.heap.size T := by
  intro k x hx
  obtain ⟨h1, h2⟩ := flatT_get T k x hx
  rw [← h] at h1 h2
  constructor
  · rw [World.cell?_alloc_new]; simpa using h1
  · rw [World.cell?_alloc_new]; simpa using h2

set_option maxRecDepth 100000 in
set_option maxHeartbeats 2000000 in
theorem rmarks_any (w : World) : Calls Tryd.prog 105 #[] w fun e w' => e = .returned (.slice (some ⟨w.heap.size, 0, none⟩) 28 28) ∧ Below w.heap.size w w' ∧ Tab w' w.heap.size mkT ∧ w.heap.size < w'.heap.size := by
  go_enter Tryd.func105, Tryd.ntmps105
  go_wp2
  go_ret
  exact ⟨rfl, (Below.refl _ _).alloc (Nat.le_refl _) _, Tab.new _ _ _ _ rfl, by simp⟩
set_option maxRecDepth 100000 in
set_option maxHeartbeats 2000000 in
theorem rwides_any (w : World) : Calls Tryd.prog 106 #[] w fun e w' => e = .returned (.slice (some ⟨w.heap.size, 0, none⟩) 51 51) ∧ Below w.heap.size w w' ∧ Tab w' w.heap.size wdT ∧ w.heap.size < w'.heap.size := by
  go_enter Tryd.func106, Tryd.ntmps106
  go_wp2
  go_ret
  exact ⟨rfl, (Below.refl _ _).alloc (Nat.le_refl _) _, Tab.new _ _ _ _ rfl, by simp⟩

end Go.Proofs.YtfjiogockpmogaaDoor

namespace Go.Proofs.YtfjiogockpmogaaDoor
open Go.RowKit Go.Shelf
set_option linter.unusedVariables false

theorem inT_append (l m : List (Int × Int)) (r : Int) : inT (l ++ m) r = (inT l r || inT m r) := by simp [inT]

set_option maxRecDepth 100000 in
set_option maxHeartbeats 1000000 in
theorem rin_any (b : Nat) (T : List (Int × Int)) (r : Int) (w : World) (hT : Tab w b T) (hl : T.length ≤ 1000) :
    Calls Tryd.prog 104 #[.slice (some ⟨b, 0, none⟩) T.length T.length, .int .i32 r] w fun e w' => e = .returned (.bool (inT T r)) ∧ w = w' := by
  generalize hn : T.length = n at hl ⊢
  have HN := Lib.hid hn
  clear hn
  go_enter Tryd.func104, Tryd.ntmps104
  go_wp2
  go_loop [5] (fun i => ∃ k : Nat, k ≤ n ∧ i = .int .i64 k ∧ inT (T.take k) r = false) (fun i => n - (intOf i).toNat)
  case atStart => exact ⟨0, by omega, rfl, rfl⟩
  case round =>
    obtain ⟨k, hk, rfl, hno⟩ := hrel
    have HO := Lib.hid hno
    clear hno
    by_cases hlt : k < n
    · have hx : T[k]? = some (T[k]'(by have := HN.out; omega)) := List.getElem?_eq_getElem (by have := HN.out; omega)
      obtain ⟨hc1, hc2⟩ := hT k _ hx
      rw [Nat.mul_comm] at hc1 hc2
      have htk : T.take (k + 1) = T.take k ++ [T[k]'(by have := HN.out; omega)] := List.take_succ_eq_append_getElem (by have := HN.out; omega)
      generalize T[k]'(by have := HN.out; omega) = x at *
      have HT := Lib.hid htk
      clear htk hx
      have hkn : (k : Int) < n := by omega
      by_cases h1 : x.1 ≤ r
      · by_cases h2 : r ≤ x.2
        · have e : inT T r = true := by
            have e1 := inT_append (T.take (k + 1)) (T.drop (k + 1)) r
            rw [List.take_append_drop] at e1
            rw [e1, HT.out, inT_append]
            simp [inT, h1, h2]
          have HE := Lib.hid e
          clear e
          go_wp2
          go_ret
          exact ⟨ret_bool HE.out.symm, rfl⟩
        · have e : inT (T.take (k + 1)) r = false := by rw [HT.out, inT_append, HO.out]; simp [inT, h2]
          have HE := Lib.hid e
          clear e
          go_wp2
          go_round
          case rel => exact ⟨k + 1, by omega, by go_num, HE.out⟩
          case measure => simp [intOf]; omega
      · have e : inT (T.take (k + 1)) r = false := by rw [HT.out, inT_append, HO.out]; simp [inT, h1]
        have HE := Lib.hid e
        clear e
        go_wp2
        go_round
        case rel => exact ⟨k + 1, by omega, by go_num, HE.out⟩
        case measure => simp [intOf]; omega
    · have hkn : ¬ (k : Int) < n := by omega
      have e : inT T r = false := by
        have := HO.out
        rw [List.take_of_length_le (by have := HN.out; omega)] at this
        exact this
      have HE := Lib.hid e
      clear e
      go_wp2
      go_ret
      exact ⟨ret_bool HE.out.symm, rfl⟩

set_option maxHeartbeats 400000 in
theorem rmark_any (r : Int) (w : World) : Calls Tryd.prog 89 #[.int .i32 r] w fun e w' => e = .returned (.bool (mkB r)) ∧ Below w.heap.size w w' := by
  go_enter Tryd.func89, Tryd.ntmps89
  go_wp2_with (first
    | (go_at_call 105; refine (rmarks_any _).mono ?_; rintro e w1 ⟨rfl, hb, hT, hs⟩)
    | (go_at_call 104; refine (rin_any w.heap.size mkT r w1 hT (by decide)).mono ?_; rintro e w' ⟨rfl, rfl⟩))
  go_ret
  exact ⟨rfl, hb⟩

set_option maxHeartbeats 1000000 in
theorem rwide_any (r : Int) (w : World) : Calls Tryd.prog 90 #[.int .i32 r] w fun e w' => e = .returned (.bool (wdB r)) ∧ Below w.heap.size w w' := by
  unfold wdB
  generalize hv : inT wdT r = v
  have HV := Lib.hid hv
  clear hv
  generalize hm : mkB r = m
  have HM := Lib.hid hm
  clear hm
  cases m
  all_goals
    go_enter Tryd.func90, Tryd.ntmps90
    go_wp2_with (first
      | (go_at_call 89; refine (rmark_any r w).mono ?_; rintro e w2 ⟨rfl, hb2⟩; rw [HM.out])
      | (go_at_call 106; refine (rwides_any _).mono ?_; rintro e w1 ⟨rfl, hb, hT, hs⟩)
      | (go_at_call 104; refine (rin_any w2.heap.size wdT r w1 hT (by decide)).mono ?_; rintro e w' ⟨rfl, rfl⟩; rw [HV.out]))
    go_ret
    first
      | exact ⟨ret_bool (by simp), hb2⟩
      | exact ⟨ret_bool (by simp), hb2.trans (hb.mono hb2.size)⟩

set_option maxHeartbeats 1000000 in
theorem rof_any (r : Int) (w : World) : Calls Tryd.prog 73 #[.int .i32 r] w fun e w' => e = .returned (.int .i64 (ofI r)) ∧ Below w.heap.size w w' := by
  have hdd : ∀ d : Bool, inT wdT r = d → mkB r = false → wdB r = d := by
    intro d h1 h2
    unfold wdB
    rw [h1, h2]
    simp
  unfold ofI
  generalize hr : rnB r = a
  have HR := Lib.hid hr
  clear hr
  generalize hc : ctB r = b
  have HC := Lib.hid hc
  clear hc
  generalize hv : inT wdT r = d at hdd ⊢
  have HD := Lib.hid (hdd d rfl)
  clear hv hdd
  generalize hm : mkB r = c
  have HM := Lib.hid hm
  clear hm
  cases a <;> cases b <;> cases c <;> cases d
  all_goals
    go_enter Tryd.func73, Tryd.ntmps73
    go_wp2_with (first
      | (go_at_call 87; refine (risr_any r w).mono ?_; rintro e w' ⟨rfl, rfl⟩; rw [HR.out])
      | (go_at_call 88; refine (rctl_any r w).mono ?_; rintro e w' ⟨rfl, rfl⟩; rw [HC.out])
      | (go_at_call 89; refine (rmark_any r w).mono ?_; rintro e w1 ⟨rfl, hb⟩; rw [HM.out])
      | (go_at_call 90; refine (rwide_any r w1).mono ?_; rintro e w2 ⟨rfl, hb2⟩; rw [HD.out HM.out]))
    go_ret
    first
      | exact ⟨rfl, Below.refl _ _⟩
      | exact ⟨rfl, hb⟩
      | exact ⟨rfl, hb.trans (hb2.mono hb.size)⟩
end Go.Proofs.YtfjiogockpmogaaDoor

namespace Go.Proofs.YtfjiogockpmogaaDoor
set_option linter.unusedVariables false

def sumW (l : List Int) : Int := (l.map ofI).sum
theorem sumW_snoc (l : List Int) (x : Int) : sumW (l ++ [x]) = sumW l + ofI x := by simp [sumW]
theorem sumW_bd (l : List Int) : 0 ≤ sumW l ∧ sumW l ≤ 2 * l.length := by
  induction l with
  | nil => simp [sumW]
  | cons x l ih =>
    have h := ofI_01 x
    have e : sumW (x :: l) = ofI x + sumW l := by simp [sumW]
    rw [e]
    simp only [List.length_cons]
    omega
theorem sumW_take (l : List Int) (k : Nat) (h : k < l.length) : sumW (l.take (k + 1)) = sumW (l.take k) + ofI l[k] := by
  rw [List.take_succ_eq_append_getElem h, sumW_snoc]

/-- how many of them fit, c columns being taken -/
def fitN (most : Int) : List Int → Int → Nat
  | [], _ => 0
  | x :: l, c => if most < c + ofI x then 0 else 1 + fitN most l (c + ofI x)
theorem fitN_le (most : Int) (l : List Int) : ∀ c, fitN most l c ≤ l.length := by
  induction l with
  | nil => intro c; simp [fitN]
  | cons x l ih =>
    intro c
    simp only [fitN]
    split
    · omega
    · have := ih (c + ofI x)
      simp only [List.length_cons]
      omega
/-- what is left decides -/
def fitAt (most : Int) (l : List Int) (k : Nat) : Nat := k + fitN most (l.drop k) (sumW (l.take k))
theorem fitAt_zero (most : Int) (l : List Int) : fitAt most l 0 = fitN most l 0 := by simp [fitAt, sumW]
theorem fitAt_step (most : Int) (l : List Int) (k : Nat) (h : k < l.length) (hn : ¬ most < sumW (l.take k) + ofI l[k]) : fitAt most l (k + 1) = fitAt most l k := by
  unfold fitAt
  rw [List.drop_eq_getElem_cons h]
  simp only [fitN]
  rw [if_neg hn, sumW_take l k h]
  omega
theorem fitAt_stop (most : Int) (l : List Int) (k : Nat) (h : k < l.length) (hn : most < sumW (l.take k) + ofI l[k]) : fitAt most l k = k := by
  unfold fitAt
  rw [List.drop_eq_getElem_cons h]
  simp only [fitN]
  rw [if_pos hn]
  omega
theorem fitAt_end (most : Int) (l : List Int) (k : Nat) (h : l.length ≤ k) : fitAt most l k = k := by
  unfold fitAt
  rw [List.drop_eq_nil_of_le h]
  simp [fitN]
theorem fitN_neg (most : Int) (l : List Int) (h : most < 0) : fitN most l 0 = 0 := by
  cases l with
  | nil => rfl
  | cons x l =>
    simp only [fitN]
    have := (ofI_01 x).1
    rw [if_pos (by omega)]

theorem fitN_spec (most : Int) (l : List Int) : ∀ c, c ≤ most → c + sumW (l.take (fitN most l c)) ≤ most ∧ (fitN most l c < l.length → most < c + sumW (l.take (fitN most l c + 1))) := by
  induction l with
  | nil => intro c h; simp [fitN, sumW]; omega
  | cons x l ih =>
    intro c h
    simp only [fitN]
    split
    · next hs => simp [sumW]; omega
    · next hs =>
      have := ih (c + ofI x) (by omega)
      have e1 : sumW ((x :: l).take (1 + fitN most l (c + ofI x))) = ofI x + sumW (l.take (fitN most l (c + ofI x))) := by
        rw [Nat.add_comm]; simp [sumW]
      have e2 : sumW ((x :: l).take (1 + fitN most l (c + ofI x) + 1)) = ofI x + sumW (l.take (fitN most l (c + ofI x) + 1)) := by
        rw [Nat.add_comm 1]; simp [sumW]
      rw [e1, e2]
      refine ⟨by omega, fun hl => ?_⟩
      have := this.2 (by simp only [List.length_cons] at hl; omega)
      omega
end Go.Proofs.YtfjiogockpmogaaDoor

