/-
  Walks of an editor's line: inWord, walk, erase, most.
  Walks: slices.Insert of one element ahead of a row of the call's own.
  Walks: first, at texts and at noted lines; strings.Join without a separator.
  Walks: slices.All over a row of texts, and its iterator; throughWord over any iterator of places and texts.
  Walks: the word boundaries.
  Walk: is of an editor's line.
  Walk: join of an editor's line.
-/
import Derived.Test.YtfhfhjcdeeepbaaGreatDoorGpText
import Derived.Test.YtfhfhjcdeeepbaaGreatDoorGpNobo
import Derived.Test.YtfhfhjcdeeepbaaGreatDoorRegT
import Derived.Lib.Overlaps
import Derived.Test.YtfhfhjcdeeepbaaGreatDoorShelf5
import Derived.Test.YtfhfhjcdeeepbaaGreatDoorGpBack
import Derived.WalkMore
import Derived.Deep.CutRange
import Derived.Test.YtfhfhjcdeeepbaaGreatDoorGfF
import Derived.Test.YtfhfhjcdeeepbaaGreatDoorGpFilled
namespace Go.Proofs.YtfhfhjcdeeepbaaGreatDoor
open Go.RowKit Go.Sort
set_option linter.unusedVariables false
set_option linter.unusedSimpArgs false

/-- does a cluster whose first byte this is belong to a word? -/
def wordU (x : UInt8) : Bool := decide ((48 ≤ (x.toNat : Int) ∧ (x.toNat : Int) ≤ 57) ∨ (65 ≤ (x.toNat : Int) ∧ (x.toNat : Int) ≤ 90) ∨ (97 ≤ (x.toNat : Int) ∧ (x.toNat : Int) ≤ 122) ∨ 128 ≤ (x.toNat : Int))
def wordB (c : List UInt8) : Bool := match c with | [] => false | x :: _ => wordU x
set_option maxRecDepth 100000 in
set_option maxHeartbeats 2000000 in
theorem inword_any (c : List UInt8) (hc : c ≠ []) (w : World) (hl : c.length ≤ 4000000) :
    Calls Tryz.prog 102 #[.string ⟨c.toArray⟩] w fun e w' => e = .returned (.bool (wordB c)) ∧ w = w' := by
  obtain ⟨x, r, rfl⟩ := List.exists_cons_of_ne_nil hc
  have hx : wordB (x :: r) = wordU x := rfl
  have HX := Lib.hid hx
  have hs : (0 : Int) < ((⟨(x :: r).toArray⟩ : ByteArray).size : Int) := by rw [size_of]; simp
  have hs' : (0 : Nat) < ((⟨(x :: r).toArray⟩ : ByteArray).size) := by rw [size_of]; simp
  have hg : (⟨(x :: r).toArray⟩ : ByteArray)[0]'hs' = x := rfl
  clear hx hc
  generalize hs0 : (⟨(x :: r).toArray⟩ : ByteArray) = s at *
  have HG := Lib.hid hg
  clear hg hs0
  go_enter Tryz.func102, Tryz.ntmps102
  go_wp2
  all_goals go_ret
  all_goals refine ⟨ret_bool ?_, rfl⟩
  all_goals rw [HX.out]
  all_goals have hgo := HG.out
  all_goals simp only [hgo] at *
  all_goals (unfold wordU; first | (rw [Bool.eq_iff_iff]; simp; omega) | (simp; omega))

/-- a line, boxed -/
theorem line_box {w : World} {v : Value} : Below w.heap.size w (w.alloc (.cells #[v] 45)) ∧ Boxed (w.alloc (.cells #[v] 45)) w.heap.size 45 v :=
  ⟨(Below.refl _ w).alloc (Nat.le_refl _) _, Boxed.new w _ v⟩
theorem box_bel {w w' : World} {b : Nat} {T : TypeId} {v : Value} (h : Boxed w b T v) (hb : Below w.heap.size w w') : Boxed w' b T v := (hb.block b h.lt).trans h

set_option maxRecDepth 100000 in
set_option maxHeartbeats 2000000 in
theorem lwalk_any {w : World} {lo g n C most f t : Nat} {A : Option Addr} {p s : List (List UInt8)} (h : GpAt w lo g A n C most f t p s) (a : Int) :
    Calls Tryz.prog 52 #[.agg #[.pointer (some ⟨g, 0, none⟩)], .int .i64 a] w fun e w' =>
      e = .returned (.bool (!decide (clampN a (ln p s) = p.length))) ∧ (∃ f' t', GpAt w' lo g A n C most f' t' ((p ++ s).take (clampN a (ln p s))) ((p ++ s).drop (clampN a (ln p s)))) ∧ Chg (GpOwn g A) w w' := by
  obtain ⟨hb0, hx0⟩ := line_box (w := w) (v := .pointer (some ⟨g, 0, none⟩))
  have H0 := Lib.hid (h.below hb0)
  have HB0 := Lib.hid hb0
  have HX0 := Lib.hid hx0
  have hfp := h.fp
  have q1 := fun (w1 : World) (h1 : GpAt w1 lo g A n C most f t p s) => gmove_any h1 a
  generalize hca : clampN a (ln p s) = k at *
  have Q1 := Lib.hid q1
  have HFP := Lib.hid hfp
  clear h q1 hca hb0 hfp hx0
  go_enter Tryz.func52, Tryz.ntmps52
  go_wp2_with (fail)
  refine (gcursor_any H0.out).mono ?_
  rintro e w1 ⟨rfl, hb1⟩
  have H1 := Lib.hid (H0.out.below hb1)
  have HB1 := Lib.hid (HB0.out.trans (hb1.mono HB0.out.size))
  have hcell := Boxed.cell (box_bel HX0.out hb1)
  clear hb1
  go_wp2_with (fail)
  refine (Q1.out _ H1.out).mono ?_
  rintro e w2 ⟨rfl, hg2, hc2⟩
  have HG2 := Lib.hid hg2
  have HC2 := Lib.hid hc2
  clear hg2 hc2
  go_wp2_with (fail)
  go_ret
  exact ⟨ret_bool (by rw [Bool.eq_iff_iff]; simp [bne]; have := HFP.out; omega), HG2.out, (Chg.of_below HB1.out).trans HC2.out (fun _ h => .inl h)⟩
set_option maxHeartbeats 1000000 in
theorem lwalk_none (a : Int) (w : World) :
    Calls Tryz.prog 52 #[.agg #[.pointer none], .int .i64 a] w fun e w' => e = .returned (.bool false) ∧ Below w.heap.size w w' := by
  obtain ⟨hb0, hx0⟩ := line_box (w := w) (v := .pointer none)
  have HB0 := Lib.hid hb0
  clear hb0 hx0
  go_enter Tryz.func52, Tryz.ntmps52
  go_wp2_with (first
    | (go_at_call 26; refine (gcursor_not (.inl rfl)).mono ?_; rintro e w1 ⟨rfl, rfl⟩)
    | (go_at_call 74; refine (gmove_not (.inl rfl) _).mono ?_; rintro e w1 ⟨rfl, rfl⟩))
  go_ret
  exact ⟨rfl, HB0.out⟩

/-! What a deletion leaves, whether it deletes or not. -/
def delL (l : List (List UInt8)) (a b : Nat) : List (List UInt8) := if a < b then l.take a ++ l.drop b else l
def delK (f a b : Nat) : Nat := if a < b then delC f a b else f
set_option maxRecDepth 100000 in
set_option maxHeartbeats 2000000 in
theorem lerase_any {w : World} {lo g n C most f t : Nat} {A : Option Addr} {p s : List (List UInt8)} (h : GpAt w lo g A n C most f t p s) (x y : Int) :
    Calls Tryz.prog 73 #[.agg #[.pointer (some ⟨g, 0, none⟩)], .int .i64 x, .int .i64 y] w fun e w' =>
      e = .returned (.bool (decide (clampN x (ln p s) < clampN y (ln p s)))) ∧
      (∃ f' t', GpAt w' lo g A n C most f' t' ((delL (p ++ s) (clampN x (ln p s)) (clampN y (ln p s))).take (delK p.length (clampN x (ln p s)) (clampN y (ln p s)))) ((delL (p ++ s) (clampN x (ln p s)) (clampN y (ln p s))).drop (delK p.length (clampN x (ln p s)) (clampN y (ln p s))))) ∧ Chg (GpOwn g A) w w' := by
  obtain ⟨hb0, hx0⟩ := line_box (w := w) (v := .pointer (some ⟨g, 0, none⟩))
  have H0 := Lib.hid (h.below hb0)
  have HB0 := Lib.hid hb0
  have hfp := h.fp
  have hcy := clampN_le y (ln p s)
  by_cases hlt : clampN x (ln p s) < clampN y (ln p s)
  · have q1 := fun (w1 : World) (h1 : GpAt w1 lo g A n C most f t p s) => gdelete_yes h1 x y hlt
    have hdl : delL (p ++ s) (clampN x (ln p s)) (clampN y (ln p s)) = (p ++ s).take (clampN x (ln p s)) ++ (p ++ s).drop (clampN y (ln p s)) := by unfold delL; rw [if_pos hlt]
    have hdk : delK p.length (clampN x (ln p s)) (clampN y (ln p s)) = delC f (clampN x (ln p s)) (clampN y (ln p s)) := by unfold delK; rw [if_pos hlt, hfp]
    rw [hdl, hdk, decide_eq_true hlt]
    generalize clampN x (ln p s) = a at *
    generalize clampN y (ln p s) = b at *
    have Q1 := Lib.hid q1
    have hpos : (0 : Int) < ((b - a : Nat) : Int) := by omega
    have HPOS := Lib.hid hpos
    clear h q1 hb0 hfp hx0 hdl hdk hcy
    go_enter Tryz.func73, Tryz.ntmps73
    go_wp2_with (fail)
    refine (Q1.out _ H0.out).mono ?_
    rintro e w2 ⟨g2, tl, f', t', rfl, hsz, hbk, hg2, hc2⟩
    have HG2 := Lib.hid hg2
    have HC2 := Lib.hid hc2
    clear hg2 hc2 hbk
    go_wp2_with (fail)
    go_ret
    exact ⟨ret_bool (by simp; have := HPOS.out; omega), ⟨_, _, HG2.out⟩, (Chg.of_below HB0.out).trans HC2.out (fun _ h => .inl h)⟩
  · have q1 := fun (w1 : World) (h1 : GpAt w1 lo g A n C most f t p s) => gdelete_no h1 x y (Nat.le_of_not_lt hlt)
    have hdl : delL (p ++ s) (clampN x (ln p s)) (clampN y (ln p s)) = p ++ s := by unfold delL; rw [if_neg hlt]
    have hdk : delK p.length (clampN x (ln p s)) (clampN y (ln p s)) = p.length := by unfold delK; rw [if_neg hlt]
    rw [hdl, hdk, decide_eq_false hlt, List.take_left, List.drop_left]
    have Q1 := Lib.hid q1
    clear h q1 hb0 hfp hx0 hdl hdk hcy hlt
    go_enter Tryz.func73, Tryz.ntmps73
    go_wp2_with (fail)
    refine (Q1.out _ H0.out).mono ?_
    rintro e w2 ⟨rfl, hb2⟩
    have HB2 := Lib.hid hb2
    clear hb2
    go_wp2_with (fail)
    go_ret
    exact ⟨rfl, ⟨_, _, H0.out.below HB2.out⟩, Chg.of_below (HB0.out.trans (HB2.out.mono HB0.out.size))⟩
set_option maxHeartbeats 1000000 in
theorem lerase_none (x y : Int) (w : World) :
    Calls Tryz.prog 73 #[.agg #[.pointer none], .int .i64 x, .int .i64 y] w fun e w' => e = .returned (.bool false) ∧ Below w.heap.size w w' := by
  obtain ⟨hb0, hx0⟩ := line_box (w := w) (v := .pointer none)
  have HB0 := Lib.hid hb0
  clear hb0 hx0
  go_enter Tryz.func73, Tryz.ntmps73
  go_wp2_with (go_at_call 99; refine (gdelete_not (.inl rfl) _ _).mono ?_; rintro e w1 ⟨rfl, rfl⟩)
  go_ret
  exact ⟨rfl, HB0.out⟩

set_option maxRecDepth 100000 in
set_option maxHeartbeats 2000000 in
theorem lmost_any {w : World} {lo g n C most f t : Nat} {A : Option Addr} {p s : List (List UInt8)} (h : GpAt w lo g A n C most f t p s) :
    Calls Tryz.prog 48 #[.agg #[.pointer (some ⟨g, 0, none⟩)]] w fun e w' => e = .returned (.int .i64 (most : Nat)) ∧ Below w.heap.size w w' := by
  obtain ⟨hb0, hx0⟩ := line_box (w := w) (v := .pointer (some ⟨g, 0, none⟩))
  have hle := h.ln_le
  have hm4 := h.m4
  have H0 := Lib.hid (h.below hb0)
  have HB0 := Lib.hid hb0
  have k0 := cell_regrown hx0.cell
  have hsum : ((ln p s : Nat) : Int) + ((most - ln p s : Nat) : Int) = (most : Int) := by omega
  have hwr : IntKind.i64.wrap (((ln p s : Nat) : Int) + ((most - ln p s : Nat) : Int)) = (most : Int) := by rw [hsum]; exact IntWalk.i64_in _ (by omega)
  have HW := Lib.hid hwr
  have HS := Lib.hid hsum
  have Q1 := Lib.hid (fun d os => Calls.regrown_of (glen_any (H0.out.below (below_regrown _ d os))))
  have Q2 := Lib.hid (fun d os => Calls.regrown_of (groom_any (H0.out.below (below_regrown _ d os))))
  have HM4 := Lib.hid hm4
  clear h hb0 hx0 hsum hwr hle hm4
  go_enter Tryz.func48, Tryz.ntmps48
  go_wp2_with (fail)
  refine region_below0 (by kernel_rfl) (by kernel_rfl) ?_
  repeat (first
    | go_big_quiet_step (first | exact Q1.out _ _ | exact Q2.out _ _)
    | quiet_step (first | exact Q1.out _ _ | exact Q2.out _ _))
  refine wpQuiet_nil ?_
  intro _ hw'
  obtain ⟨⟨dq, osq⟩, hw''⟩ := hw'
  subst hw''
  have HBQ := Lib.hid (below_regrown (w.alloc (.cells #[.pointer (some ⟨g, 0, none⟩)] 45)) dq osq)
  go_wp2_with (fail)
  go_ret
  exact ⟨ret_int (by first | exact HW.out | exact HS.out | (have := HS.out; omega) | (have h1 := HS.out; have h2 := HM4.out; unfold wrap64; omega)), HB0.out.trans (HBQ.out.mono HB0.out.size)⟩
set_option maxHeartbeats 1000000 in
theorem lmost_none (w : World) :
    Calls Tryz.prog 48 #[.agg #[.pointer none]] w fun e w' => e = .returned (.int .i64 0) ∧ Below w.heap.size w w' := by
  obtain ⟨hb0, hx0⟩ := line_box (w := w) (v := .pointer none)
  have HB0 := Lib.hid hb0
  have k0 := cell_regrown hx0.cell
  have Q1 := Lib.hid (fun d os => Calls.regrown_of ((glen_not (w := grow (redrawn (w.alloc (.cells #[.pointer none] 45)) d) os) (p := none) (.inl rfl)).mono fun e w' ⟨a, b⟩ => ⟨a, b ▸ Below.refl _ _⟩))
  have Q2 := Lib.hid (fun d os => Calls.regrown_of ((groom_not (w := grow (redrawn (w.alloc (.cells #[.pointer none] 45)) d) os) (p := none) (.inl rfl)).mono fun e w' ⟨a, b⟩ => ⟨a, b ▸ Below.refl _ _⟩))
  clear hb0 hx0
  go_enter Tryz.func48, Tryz.ntmps48
  go_wp2_with (fail)
  refine region_below0 (by kernel_rfl) (by kernel_rfl) ?_
  repeat (first
    | go_big_quiet_step (first | exact Q1.out _ _ | exact Q2.out _ _)
    | quiet_step (first | exact Q1.out _ _ | exact Q2.out _ _))
  refine wpQuiet_nil ?_
  intro _ hw'
  obtain ⟨⟨dq, osq⟩, hw''⟩ := hw'
  subst hw''
  have HBQ := Lib.hid (below_regrown (w.alloc (.cells #[.pointer none] 45)) dq osq)
  go_wp2_with (fail)
  go_ret
  exact ⟨rfl, HB0.out.trans (HBQ.out.mono HB0.out.size)⟩
end Go.Proofs.YtfhfhjcdeeepbaaGreatDoor

namespace Go.Proofs.YtfhfhjcdeeepbaaGreatDoor
open Go.RowKit Go.Sort
set_option linter.unusedVariables false
set_option linter.unusedSimpArgs false

theorem nt_info : (Tryz.prog.info? 64).map (fun i => (i.zero, i.size, i.bytes)) = some (some (.agg #[.string ⟨#[]⟩, .int .i64 0]), 2, 24) := by kernel_rfl
/-- what is left of a row that grew, or lies anew -/
def RowP (w : World) (base : Nat) (E : TypeId) (Z : Nat) (A : Option Addr) (n : Nat) (xs : List Value) (e : Ending) (w' : World) : Prop :=
  ∃ A' c', e = .returned (.slice A' n c') ∧ w'.ownsRow base E Z (.slice A' n c') n xs ∧ Chg (fun k => blk A = some k) w w' ∧ ∀ k, blk A' = some k → blk A = some k ∨ w.heap.size ≤ k
theorem row_of_append {w w' : World} {base n : Nat} {E : TypeId} {Z : Nat} {A : Option Addr} {m c : Nat} {v' : Value} {xs : List Value} (h : w'.ownsRow base E Z v' n xs) (hg : w.grownBy w' (Value.slice A m c).ownBlock) (hb : v'.ownBlock = (Value.slice A m c).ownBlock ∨ v'.ownBlock = some w.heap.size) :
    RowP w base E Z A n xs (.returned v') w' := by
  obtain ⟨A', c', rfl, _, _⟩ := own_of h
  rw [ownBlock_slice, ownBlock_slice] at hb
  rw [ownBlock_slice] at hg
  refine ⟨A', c', rfl, h, chg_of_grown' hg, fun k hk => ?_⟩
  rcases hb with hb | hb
  · exact .inl (hb ▸ hk)
  · rw [hb] at hk
    injection hk with hk
    exact .inr (by omega)
theorem blk_self {b k : Nat} (h : blk (some ⟨b, 0, none⟩) = some k) : b ≤ k := by
  have : b = k := by simpa [blk] using h
  omega
theorem own_room {w' : World} {base n cap Z g : Nat} {E : TypeId} {cur xs : List Value} (hb : base ≤ g) (h : Blk w' g E cur) (hnc : n ≤ cap) (hm : cap ≤ maxLen) (hc : cur.length = cap * Z) (ht : cur.take (n * Z) = xs) (hx : xs.length = n * Z) : w'.ownsRow base E Z (.slice (some ⟨g, 0, none⟩) n cap) n xs :=
  ⟨hx, .inr ⟨g, cap, cur.toArray, rfl, hb, h, hnc, hm, by simpa using hc, by simpa using ht⟩⟩
theorem own_open {w : World} {base n c size : Nat} {e : TypeId} {A : Option Addr} {xs : List Value} (h : w.ownsRow base e size (.slice A n c) n xs) (hn : 0 < n) :
    ∃ g cur, A = some ⟨g, 0, none⟩ ∧ base ≤ g ∧ Blk w g e cur ∧ cur.take (n * size) = xs ∧ n ≤ c ∧ c ≤ maxLen ∧ cur.length = c * size := by
  rcases h with ⟨hl, ⟨hv, h0⟩ | ⟨g, cap, cur, hv, hb, hh, hnc, hc, hcur, ht⟩⟩
  · omega
  · injection hv with h1 _ h3
    have h3' : c = cap := by omega
    subst h3'
    exact ⟨g, cur.toList, h1, hb, by unfold Blk; rw [Array.toArray_toList]; exact hh, ht, hnc, hc, by rw [Array.length_toList, hcur]⟩
theorem ins_splice (xs it tl : List Value) (k : Nat) (hk : it.length = k) (ht : k ≤ tl.length) : splice (splice (xs ++ tl) k xs) 0 it = it ++ (xs ++ tl.drop k) := by
  have e1 : splice (xs ++ tl) k xs = (xs ++ tl).take k ++ (xs ++ tl.drop k) := by
    unfold splice
    rw [show k + xs.length = xs.length + k by omega, ← List.drop_drop, List.drop_left]
  rw [e1]
  unfold splice
  rw [List.take_zero, List.nil_append, Nat.zero_add, hk, List.drop_left' (by rw [List.length_take, List.length_append]; omega)]
theorem ins_splice2 (xs it zs : List Value) (k : Nat) (hk : it.length = k) (hz : k + xs.length ≤ zs.length) : splice (splice zs 0 it) k xs = it ++ (xs ++ zs.drop (k + xs.length)) := by
  have e1 : splice zs 0 it = it ++ zs.drop k := by unfold splice; rw [List.take_zero, List.nil_append, Nat.zero_add, hk]
  rw [e1]
  unfold splice
  rw [List.take_left' hk, ← hk, ← List.drop_drop, List.drop_left, hk, List.drop_drop, Nat.add_comm k]
theorem ins_len (cs ds : List Value) (o : Nat) : (splice cs o ds).length = o + ds.length + (cs.length - (o + ds.length)) - (o - min o cs.length) := by
  unfold splice
  simp only [List.length_append, List.length_take, List.length_drop]
  omega
theorem ins_take (xs it tl : List Value) (k n : Nat) (hk : it.length = k) (hx : xs.length = n * k) : (it ++ (xs ++ tl)).take ((n + 1) * k) = it ++ xs := by
  rw [← List.append_assoc, List.take_left' (by rw [List.length_append, hk, hx, Nat.add_mul]; omega)]

theorem insS_extern (w : World) (vb g : Nat) (o lb cb : Nat) (it cur : List Value) (hv : Blk w vb 9 it) (hg : Blk w g 9 cur) (hne : vb ≠ g) (hc : cur ≠ []) :
    (callFunc 129 #[.slice (some ⟨vb, 0, none⟩) 1 1, .slice (some ⟨g, o, none⟩) lb cb]).run Tryz.prog w = .ok (.value (.bool false)) w := by
  have hsa : w.shape? vb = some (9, it.toArray.size) := by unfold World.shape?; rw [show w.heap[vb]? = _ from hv]
  have hsb : w.shape? g = some (9, cur.toArray.size) := by unfold World.shape?; rw [show w.heap[g]? = _ from hg]
  rw [run_callFunc_extern Tryz.func129 (by kernel_rfl) (by kernel_rfl) (by kernel_rfl) (e := Extern.SlicesOverlaps.overlaps #[38, 38] #[4]) (by kernel_rfl),
    Lib.run_overlaps_apart w 38 4 9 Tryz.underlying38 1 Tryz.sizeOf9 ⟨vb, 0, none⟩ ⟨g, o, none⟩ 1 1 lb cb hne 9 9 _ _ hsa hsb (by cases cur with | nil => exact absurd rfl hc | cons a r => simp) (hv.frozen 0) (hv.frozen _)]
  rfl

set_option maxRecDepth 100000 in
set_option maxHeartbeats 4000000 in
theorem insS_any (base : Nat) (A : Option Addr) (n c : Nat) (xs : List Value) (w : World) (hown : w.ownsRow base 9 1 (.slice A n c) n xs) (vb : Nat) (it : List Value) (hit : it.length = 1) (hv : Blk w vb 9 it) (hne : blk A ≠ some vb)
    (h1 : ∀ v ∈ xs, v.oneCell' = true) (h1v : ∀ v ∈ it, v.oneCell' = true) (hn : n ≤ 1000) (hbase : base ≤ w.heap.size) :
    Calls Tryz.prog 123 #[.slice A n c, .int .i64 0, .slice (some ⟨vb, 0, none⟩) 1 1] w (RowP w base 9 1 A (n + 1) (it ++ xs)) := by
  obtain ⟨i0, hi0, hz0, hz1, hz2⟩ := info_parts str_info
  rcases Nat.eq_zero_or_pos n with h0 | h0
  · subst h0
    have hx0 : xs = [] := List.eq_nil_of_length_eq_zero (by have := hown.1; simpa using this)
    subst hx0
    have HO := Lib.hid hown
    have hS := hv.sl
    have HS := Lib.hid hS
    have HI := Lib.hid hit
    have H1 := Lib.hid h1v
    have HZ := Lib.hid hz0
    have HI0 := Lib.hid hi0
    have HZ1 := Lib.hid hz1
    have HZ2 := Lib.hid hz2
    clear hown hS hv h1 h1v hit hz0 hi0 hz1 hz2 hne
    go_enter Tryz.func123, Tryz.ntmps123
    go_wp2_with (at_builtin; refine wpList_append_sl _ rfl _ _ 38 rfl base 9 i0 _ 1 _ Tryz.underlying38 HI0.out HZ.out HZ1.out HZ2.out rfl (by omega) _ 0 [] rfl HO.out w.heap.size (some ⟨vb, 0, none⟩) 1 1 it rfl HS.out (by rw [HI.out]) (fun e => by cases e) H1.out (by unfold maxLen; omega) (by omega) hbase ?_; intro v' w2 ho2 hg2 hb2; have HO2 := Lib.hid ho2; have HG2 := Lib.hid hg2; have HB2 := Lib.hid hb2; clear ho2 hg2 hb2)
    all_goals go_ret
    all_goals exact row_of_append (by simpa using HO2.out) HG2.out HB2.out
  · obtain ⟨g, cur, rfl, hbg, hblk, htk, hnc, hcm, hcl⟩ := own_open hown h0
    have hxl : xs.length = n * 1 := hown.1
    have hgv : vb ≠ g := fun e => hne (by rw [e]; rfl)
    have hsz : (Tryz.prog.info? 9).map (·.size) = some 1 := by kernel_rfl
    have hcur : cur = xs ++ cur.drop (n * 1) := by rw [← htk, List.take_append_drop]
    have hm1 : c ≤ 9223372036854775807 := by unfold maxLen at hcm; omega
    have hnn : ¬ (0 : Int) = (n : Int) := by omega
    have hn0 : ¬ n = 0 := by omega
    have hb1 : (n : Int) + 1 ≤ 2000 := by omega
    clear hown hne htk
    by_cases hroom : n + 1 ≤ c
    · have hri : ¬ ((n : Int) + 1 > (c : Int)) := by omega
      have hc1 : ¬ c = 1 := by omega
      have hc0 : ¬ c = 0 := by omega
      have hov := fun (lb cb : Nat) => insS_extern w vb g 1 lb cb it cur hv hblk hgv (by intro e; rw [e] at hcl; simp at hcl; omega)
      have hw1 : IntKind.i64.wrap 1 = 1 := by decide
      have hb2 : (1 : Int) ≤ (n : Int) + 1 := by omega
      have hb3 : (0 : Int) ≤ (n : Int) + 1 := by omega
      obtain ⟨tl, htl⟩ : ∃ tl, tl = cur.drop (n * 1) := ⟨_, rfl⟩
      rw [← htl] at hcur
      have htll : 1 ≤ tl.length := by rw [htl, List.length_drop, hcl]; omega
      have hcl' : (xs ++ tl).length = c * 1 := by rw [← hcur, hcl]
      clear htl hcl
      subst hcur
      have HB := Lib.hid hblk
      have HV := Lib.hid hv
      have H1 := Lib.hid h1
      have H1V := Lib.hid h1v
      have HXL := Lib.hid hxl
      have HIT := Lib.hid hit
      have HCL := Lib.hid hcl'
      have HTL := Lib.hid htll
      have HCM := Lib.hid hcm
      have hxc : ∀ j v, xs[j]? = some v → w.cell? ⟨g, j, none⟩ = some v := fun j v hj => by
        rw [hblk.cell, List.getElem?_append_left (List.getElem?_eq_some_iff.1 hj).1]; exact hj
      have HXC := Lib.hid hxc
      clear hblk hv h1 h1v hxl hit hcl' htll hcm hz0 hi0 hz1 hz2 hxc hn0
      go_enter Tryz.func123, Tryz.ntmps123
      go_wp2_with (simp only [hov])
      go_region_law (refine step_copy_k rfl (.tmp 73) (.tmp 76) _ _ rfl 9 1 Tryz.underlying38 hsz (some ⟨g, 1, none⟩) (some ⟨g, 0, none⟩) n (c - 1) (n + 1) c (by simp [Act.eval, Act.put]) (by simp [Act.eval, Act.put]) g 1 9 _ HB.out xs n (by show n = min (n + 1) n; omega) HXL.out (fun _ => ⟨rfl, _, rfl, fun j v hj => by rw [add_at', Nat.zero_add]; exact HXC.out j v hj⟩) (by rw [List.length_append]; have := HTL.out; omega) H1.out ?_; intro w3 hb3 hg3; have HB3 := Lib.hid hb3; have HG3 := Lib.hid hg3; clear hb3 hg3)
      have HV3 : Hid (Blk w3 vb 9 it) := Lib.hid ((HG3.out.block vb HV.out.lt (fun e => hgv (Option.some.inj e))).trans HV.out)
      go_wp2_with ((with_reducible refine at_dst 82 ?_); refine wpList_copy_k rfl (.tmp 80) (.tmp 81) _ _ rfl 9 1 Tryz.underlying38 hsz (some ⟨g, 0, none⟩) (some ⟨vb, 0, none⟩) (n + 1) c 1 1 rfl rfl g 0 9 _ HB3.out it 1 (by show 1 = min 1 (n + 1); omega) HIT.out (fun _ => ⟨rfl, _, rfl, fun j v hj => by rw [add_at', Nat.zero_add, HV3.out.cell]; exact hj⟩) (by rw [ins_len, HIT.out, List.length_append]; have := HTL.out; omega) H1V.out ?_; intro w4 hb4 hg4; have HB4 := Lib.hid hb4; have HG4 := Lib.hid hg4; clear hb4 hg4)
      go_ret
      have hfin := HB4.out
      rw [ins_splice xs it tl 1 HIT.out HTL.out] at hfin
      refine ⟨_, c, rfl, own_room hbg hfin hroom HCM.out (by have := HCL.out; have := HTL.out; have := HIT.out; simp only [List.length_append, List.length_drop] at *; omega) (ins_take xs it _ 1 n HIT.out HXL.out) (by rw [List.length_append, HIT.out, HXL.out, Nat.add_mul]; omega), ?_, fun k hk => .inl hk⟩
      exact ((Chg.refl _ _).drew.grown HG3.out (fun k hk => .inl hk)).grown HG4.out (fun k hk => .inl hk)
    · have hri : ((n : Int) + 1 > (c : Int)) := by omega
      have hn63 : (0 + 1) + n ≤ 2000 := by omega
      have hcn : c = n := by omega
      subst hcn
      have hz := fun (ty : TypeId) => Lib.run_append_grow_zeros w 38 3 ty 9 i0 _ .i64 .i64 Tryz.underlying38 int_kind hi0 hz0 (some ⟨g, 0, none⟩) 0 c [] (by exact run_firstCells_some w.drew i0.size 0 ⟨g, 0, none⟩ 0 c [] (by simp) (fun j v hj => by simp at hj)) (c + 1) (by omega) (by omega) (by omega) (by omega)
        (by rw [hz2]; omega) (by rw [Nat.zero_add]; exact growslice_fits (by omega) (by rw [hz2]; omega))
      simp only [Nat.zero_add] at hz
      obtain ⟨G, hG⟩ : ∃ G, G = grownCap w (c + 1) c 9 := ⟨_, rfl⟩
      have hGn : c + 1 ≤ G := by rw [hG]; exact grownCap_ge w _ _ _
      have hGm : G ≤ maxLen := by rw [hG]; exact grownCap_le_maxLen w _ _ _ (by unfold maxLen; omega)
      rw [← hG] at hz
      obtain ⟨zs, hzs⟩ : ∃ zs : List Value, zs.toArray = (([] : List Value).toArray ++ Builtin.zeroCells (Value.string ⟨#[]⟩).cells (c + 1) ++ Builtin.zeroCells (Value.string ⟨#[]⟩).cells (G - (c + 1))) := ⟨_, Array.toArray_toList⟩
      have hzl : zs.length = G * 1 := by
        have h := congrArg Array.size hzs
        simp [Builtin.zeroCells, Value.cells] at h
        rw [h]
        omega
      have hz' : ∀ (ty : TypeId), (Builtin.append_ #[38, 3] ty #[.slice (some ⟨g, 0, none⟩) 0 c, .int .i64 (c + 1 : Nat)]).run Tryz.prog w = .ok (.slice (some ⟨w.heap.size, 0, none⟩) (c + 1) G) (w.drew.alloc (.cells zs.toArray 9)) := fun ty => by rw [hz ty, hzs]
      have hci : ((c + 1 : Nat) : Int) = (c : Int) + 1 := by omega
      rw [hci] at hz'
      have HZ := Lib.hid hz'
      have HZL := Lib.hid hzl
      have HB := Lib.hid hblk
      have HV := Lib.hid hv
      have H1 := Lib.hid h1
      have H1V := Lib.hid h1v
      have HXL := Lib.hid hxl
      have HIT := Lib.hid hit
      have HGM := Lib.hid hGm
      have hxc : ∀ j v, xs[j]? = some v → w.cell? ⟨g, j, none⟩ = some v := fun j v hj => by
        rw [hblk.cell, hcur, List.getElem?_append_left (List.getElem?_eq_some_iff.1 hj).1]; exact hj
      have HXC := Lib.hid hxc
      have hgl := hblk.lt
      have hvl := hv.lt
      have hw1 : IntKind.i64.wrap 1 = 1 := by decide
      have hb2 : (1 : Int) ≤ (c : Int) + 1 := by omega
      have hb3 : (0 : Int) ≤ (c : Int) + 1 := by omega
      have hb4 : (c : Int) + 1 ≤ G := by omega
      have hb5 : ¬ G = 0 := by omega
      have hb6 : ¬ G = 1 := by omega
      have hc0 : ¬ c = 0 := by omega
      clear hblk hv h1 h1v hxl hit hcm hz0 hi0 hz1 hz2 hxc hn0 hcur hcl hG hzs hzl hz hz' hci hGm hnc hroom
      go_enter Tryz.func123, Tryz.ntmps123
      have hwg : (w.drew.alloc (.cells zs.toArray 9)).cell? = (w.drew.alloc (.cells zs.toArray 9)).cell? := rfl
      go_wp2_with (first | (at_builtin; refine Lib.wpList_append_run _ rfl _ _ _ _ rfl _ _ rfl rfl _ _ (HZ.out _) ?_; have hb1 := Blk.new w.drew 9 zs; have hbb1 := ((Below.refl w.heap.size w).drew).alloc (Nat.le_refl _) (.cells zs.toArray 9); have HB1 := Lib.hid hb1; have HBB1 := Lib.hid hbb1; clear hb1 hbb1; generalize hW1 : w.drew.alloc (.cells zs.toArray 9) = w1 at *; clear hW1) | ((with_reducible refine at_dst 45 ?_); refine wpList_copy_k rfl (.tmp 43) (.tmp 44) _ _ rfl 9 1 Tryz.underlying38 hsz (some ⟨w.heap.size, 0, none⟩) (some ⟨vb, 0, none⟩) (c + 1) G 1 1 rfl rfl w.heap.size 0 9 _ HB1.out it 1 (by show 1 = min 1 (c + 1); omega) HIT.out (fun _ => ⟨rfl, _, rfl, fun j v hj => by rw [add_at', Nat.zero_add]; exact (HBB1.out.cell (p := ⟨vb, j, none⟩) hvl).trans ((HV.out.cell j).trans hj)⟩) (by rw [HIT.out, HZL.out]; omega) H1V.out ?_; intro w2 hb2' hg2; have HB2 := Lib.hid hb2'; have HG2 := Lib.hid hg2; clear hb2' hg2))
      have hne2 : g ≠ w.heap.size := by omega
      go_region_law (refine step_copy_k rfl (.tmp 50) (.tmp 53) _ _ rfl 9 1 Tryz.underlying38 hsz (some ⟨w.heap.size, 1, none⟩) (some ⟨g, 0, none⟩) c (G - 1) c c (by simp [Act.eval, Act.put]) (by simp [Act.eval, Act.put]) w.heap.size 1 9 _ HB2.out xs c (by show c = min c c; omega) HXL.out (fun _ => ⟨rfl, _, rfl, fun j v hj => by rw [add_at', Nat.zero_add]; exact (chg_of_grown HG2.out).cell (p := ⟨g, j, none⟩) ((HBB1.out.cell (p := ⟨g, j, none⟩) hgl).trans (HXC.out j v hj)) (fun e => hne2 e)⟩) (by rw [ins_len, HIT.out, HZL.out, HXL.out]; omega) H1.out ?_; intro w3 hb3' hg3; have HB3 := Lib.hid hb3'; have HG3 := Lib.hid hg3; clear hb3' hg3)
      go_wp2_with (fail)
      go_ret
      have hfin := HB3.out
      rw [ins_splice2 xs it zs 1 HIT.out (by rw [HXL.out, HZL.out]; omega)] at hfin
      refine ⟨_, G, rfl, own_room hbase hfin hGn HGM.out (by have h1 := HZL.out; have h2 := HXL.out; have h3 := HIT.out; rw [List.length_append, List.length_append, List.length_drop, h1, h2, h3]; omega) (ins_take xs it _ 1 c HIT.out HXL.out) (by rw [List.length_append, HIT.out, HXL.out, Nat.add_mul]; omega), ?_, fun k hk => .inr (blk_self hk)⟩
      exact (((Chg.of_below HBB1.out).grown HG2.out (fun k hk => .inr (by injection hk with hk; omega))).drew.grown HG3.out (fun k hk => .inr (by injection hk with hk; omega)))

theorem insN_extern (w : World) (vb g : Nat) (o lb cb : Nat) (it cur : List Value) (hv : Blk w vb 64 it) (hg : Blk w g 64 cur) (hne : vb ≠ g) (hc : cur ≠ []) :
    (callFunc 112 #[.slice (some ⟨vb, 0, none⟩) 1 1, .slice (some ⟨g, o, none⟩) lb cb]).run Tryz.prog w = .ok (.value (.bool false)) w := by
  have hsa : w.shape? vb = some (64, it.toArray.size) := by unfold World.shape?; rw [show w.heap[vb]? = _ from hv]
  have hsb : w.shape? g = some (64, cur.toArray.size) := by unfold World.shape?; rw [show w.heap[g]? = _ from hg]
  rw [run_callFunc_extern Tryz.func112 (by kernel_rfl) (by kernel_rfl) (by kernel_rfl) (e := Extern.SlicesOverlaps.overlaps #[46, 46] #[4]) (by kernel_rfl),
    Lib.run_overlaps_apart w 46 4 64 Tryz.underlying46 2 Tryz.sizeOf64 ⟨vb, 0, none⟩ ⟨g, o, none⟩ 1 1 lb cb hne 64 64 _ _ hsa hsb (by cases cur with | nil => exact absurd rfl hc | cons a r => simp) (hv.frozen 0) (hv.frozen _)]
  rfl

set_option maxRecDepth 100000 in
set_option maxHeartbeats 4000000 in
theorem insN_any (base : Nat) (A : Option Addr) (n c : Nat) (xs : List Value) (w : World) (hown : w.ownsRow base 64 2 (.slice A n c) n xs) (vb : Nat) (it : List Value) (hit : it.length = 2) (hv : Blk w vb 64 it) (hne : blk A ≠ some vb)
    (h1 : ∀ v ∈ xs, v.oneCell' = true) (h1v : ∀ v ∈ it, v.oneCell' = true) (hn : n ≤ 1000) (hbase : base ≤ w.heap.size) :
    Calls Tryz.prog 87 #[.slice A n c, .int .i64 0, .slice (some ⟨vb, 0, none⟩) 1 1] w (RowP w base 64 2 A (n + 1) (it ++ xs)) := by
  obtain ⟨i0, hi0, hz0, hz1, hz2⟩ := info_parts nt_info
  rcases Nat.eq_zero_or_pos n with h0 | h0
  · subst h0
    have hx0 : xs = [] := List.eq_nil_of_length_eq_zero (by have := hown.1; simpa using this)
    subst hx0
    have HO := Lib.hid hown
    have hS := hv.sl
    have HS := Lib.hid hS
    have HI := Lib.hid hit
    have H1 := Lib.hid h1v
    have HZ := Lib.hid hz0
    have HI0 := Lib.hid hi0
    have HZ1 := Lib.hid hz1
    have HZ2 := Lib.hid hz2
    clear hown hS hv h1 h1v hit hz0 hi0 hz1 hz2 hne
    go_enter Tryz.func87, Tryz.ntmps87
    go_wp2_with (at_builtin; refine wpList_append_sl _ rfl _ _ 46 rfl base 64 i0 _ 2 _ Tryz.underlying46 HI0.out HZ.out HZ1.out HZ2.out rfl (by omega) _ 0 [] rfl HO.out w.heap.size (some ⟨vb, 0, none⟩) 1 1 it rfl HS.out (by rw [HI.out]) (fun e => by cases e) H1.out (by unfold maxLen; omega) (by omega) hbase ?_; intro v' w2 ho2 hg2 hb2; have HO2 := Lib.hid ho2; have HG2 := Lib.hid hg2; have HB2 := Lib.hid hb2; clear ho2 hg2 hb2)
    all_goals go_ret
    all_goals exact row_of_append (by simpa using HO2.out) HG2.out HB2.out
  · obtain ⟨g, cur, rfl, hbg, hblk, htk, hnc, hcm, hcl⟩ := own_open hown h0
    have hxl : xs.length = n * 2 := hown.1
    have hgv : vb ≠ g := fun e => hne (by rw [e]; rfl)
    have hsz : (Tryz.prog.info? 64).map (·.size) = some 2 := by kernel_rfl
    have hcur : cur = xs ++ cur.drop (n * 2) := by rw [← htk, List.take_append_drop]
    have hm1 : c ≤ 9223372036854775807 := by unfold maxLen at hcm; omega
    have hnn : ¬ (0 : Int) = (n : Int) := by omega
    have hn0 : ¬ n = 0 := by omega
    have hb1 : (n : Int) + 1 ≤ 2000 := by omega
    clear hown hne htk
    by_cases hroom : n + 1 ≤ c
    · have hri : ¬ ((n : Int) + 1 > (c : Int)) := by omega
      have hc1 : ¬ c = 1 := by omega
      have hc0 : ¬ c = 0 := by omega
      have hov := fun (lb cb : Nat) => insN_extern w vb g 2 lb cb it cur hv hblk hgv (by intro e; rw [e] at hcl; simp at hcl; omega)
      have hw1 : IntKind.i64.wrap 1 = 1 := by decide
      have hb2 : (1 : Int) ≤ (n : Int) + 1 := by omega
      have hb3 : (0 : Int) ≤ (n : Int) + 1 := by omega
      obtain ⟨tl, htl⟩ : ∃ tl, tl = cur.drop (n * 2) := ⟨_, rfl⟩
      rw [← htl] at hcur
      have htll : 2 ≤ tl.length := by rw [htl, List.length_drop, hcl]; omega
      have hcl' : (xs ++ tl).length = c * 2 := by rw [← hcur, hcl]
      clear htl hcl
      subst hcur
      have HB := Lib.hid hblk
      have HV := Lib.hid hv
      have H1 := Lib.hid h1
      have H1V := Lib.hid h1v
      have HXL := Lib.hid hxl
      have HIT := Lib.hid hit
      have HCL := Lib.hid hcl'
      have HTL := Lib.hid htll
      have HCM := Lib.hid hcm
      have hxc : ∀ j v, xs[j]? = some v → w.cell? ⟨g, j, none⟩ = some v := fun j v hj => by
        rw [hblk.cell, List.getElem?_append_left (List.getElem?_eq_some_iff.1 hj).1]; exact hj
      have HXC := Lib.hid hxc
      clear hblk hv h1 h1v hxl hit hcl' htll hcm hz0 hi0 hz1 hz2 hxc hn0
      go_enter Tryz.func87, Tryz.ntmps87
      go_wp2_with (simp only [hov])
      go_region_law (refine step_copy_k rfl (.tmp 73) (.tmp 76) _ _ rfl 64 2 Tryz.underlying46 hsz (some ⟨g, 2, none⟩) (some ⟨g, 0, none⟩) n (c - 1) (n + 1) c (by simp [Act.eval, Act.put]) (by simp [Act.eval, Act.put]) g 2 64 _ HB.out xs n (by show n = min (n + 1) n; omega) HXL.out (fun _ => ⟨rfl, _, rfl, fun j v hj => by rw [add_at', Nat.zero_add]; exact HXC.out j v hj⟩) (by rw [List.length_append]; have := HTL.out; omega) H1.out ?_; intro w3 hb3 hg3; have HB3 := Lib.hid hb3; have HG3 := Lib.hid hg3; clear hb3 hg3)
      have HV3 : Hid (Blk w3 vb 64 it) := Lib.hid ((HG3.out.block vb HV.out.lt (fun e => hgv (Option.some.inj e))).trans HV.out)
      go_wp2_with ((with_reducible refine at_dst 82 ?_); refine wpList_copy_k rfl (.tmp 80) (.tmp 81) _ _ rfl 64 2 Tryz.underlying46 hsz (some ⟨g, 0, none⟩) (some ⟨vb, 0, none⟩) (n + 1) c 1 1 rfl rfl g 0 64 _ HB3.out it 1 (by show 1 = min 1 (n + 1); omega) HIT.out (fun _ => ⟨rfl, _, rfl, fun j v hj => by rw [add_at', Nat.zero_add, HV3.out.cell]; exact hj⟩) (by rw [ins_len, HIT.out, List.length_append]; have := HTL.out; omega) H1V.out ?_; intro w4 hb4 hg4; have HB4 := Lib.hid hb4; have HG4 := Lib.hid hg4; clear hb4 hg4)
      go_ret
      have hfin := HB4.out
      rw [ins_splice xs it tl 2 HIT.out HTL.out] at hfin
      refine ⟨_, c, rfl, own_room hbg hfin hroom HCM.out (by have := HCL.out; have := HTL.out; have := HIT.out; simp only [List.length_append, List.length_drop] at *; omega) (ins_take xs it _ 2 n HIT.out HXL.out) (by rw [List.length_append, HIT.out, HXL.out, Nat.add_mul]; omega), ?_, fun k hk => .inl hk⟩
      exact ((Chg.refl _ _).drew.grown HG3.out (fun k hk => .inl hk)).grown HG4.out (fun k hk => .inl hk)
    · have hri : ((n : Int) + 1 > (c : Int)) := by omega
      have hn63 : (0 + 1) + n ≤ 2000 := by omega
      have hcn : c = n := by omega
      subst hcn
      have hz := fun (ty : TypeId) => Lib.run_append_grow_zeros w 46 3 ty 64 i0 _ .i64 .i64 Tryz.underlying46 int_kind hi0 hz0 (some ⟨g, 0, none⟩) 0 c [] (by exact run_firstCells_some w.drew i0.size 0 ⟨g, 0, none⟩ 0 c [] (by simp) (fun j v hj => by simp at hj)) (c + 1) (by omega) (by omega) (by omega) (by omega)
        (by rw [hz2]; omega) (by rw [Nat.zero_add]; exact growslice_fits (by omega) (by rw [hz2]; omega))
      simp only [Nat.zero_add] at hz
      obtain ⟨G, hG⟩ : ∃ G, G = grownCap w (c + 1) c 64 := ⟨_, rfl⟩
      have hGn : c + 1 ≤ G := by rw [hG]; exact grownCap_ge w _ _ _
      have hGm : G ≤ maxLen := by rw [hG]; exact grownCap_le_maxLen w _ _ _ (by unfold maxLen; omega)
      rw [← hG] at hz
      obtain ⟨zs, hzs⟩ : ∃ zs : List Value, zs.toArray = (([] : List Value).toArray ++ Builtin.zeroCells (Value.agg #[Value.string ⟨#[]⟩, Value.int IntKind.i64 0]).cells (c + 1) ++ Builtin.zeroCells (Value.agg #[Value.string ⟨#[]⟩, Value.int IntKind.i64 0]).cells (G - (c + 1))) := ⟨_, Array.toArray_toList⟩
      have hzl : zs.length = G * 2 := by
        have h := congrArg Array.size hzs
        simp [Builtin.zeroCells, Value.cells] at h
        rw [h]
        omega
      have hz' : ∀ (ty : TypeId), (Builtin.append_ #[46, 3] ty #[.slice (some ⟨g, 0, none⟩) 0 c, .int .i64 (c + 1 : Nat)]).run Tryz.prog w = .ok (.slice (some ⟨w.heap.size, 0, none⟩) (c + 1) G) (w.drew.alloc (.cells zs.toArray 64)) := fun ty => by rw [hz ty, hzs]
      have hci : ((c + 1 : Nat) : Int) = (c : Int) + 1 := by omega
      rw [hci] at hz'
      have HZ := Lib.hid hz'
      have HZL := Lib.hid hzl
      have HB := Lib.hid hblk
      have HV := Lib.hid hv
      have H1 := Lib.hid h1
      have H1V := Lib.hid h1v
      have HXL := Lib.hid hxl
      have HIT := Lib.hid hit
      have HGM := Lib.hid hGm
      have hxc : ∀ j v, xs[j]? = some v → w.cell? ⟨g, j, none⟩ = some v := fun j v hj => by
        rw [hblk.cell, hcur, List.getElem?_append_left (List.getElem?_eq_some_iff.1 hj).1]; exact hj
      have HXC := Lib.hid hxc
      have hgl := hblk.lt
      have hvl := hv.lt
      have hw1 : IntKind.i64.wrap 1 = 1 := by decide
      have hb2 : (1 : Int) ≤ (c : Int) + 1 := by omega
      have hb3 : (0 : Int) ≤ (c : Int) + 1 := by omega
      have hb4 : (c : Int) + 1 ≤ G := by omega
      have hb5 : ¬ G = 0 := by omega
      have hb6 : ¬ G = 1 := by omega
      have hc0 : ¬ c = 0 := by omega
      clear hblk hv h1 h1v hxl hit hcm hz0 hi0 hz1 hz2 hxc hn0 hcur hcl hG hzs hzl hz hz' hci hGm hnc hroom
      go_enter Tryz.func87, Tryz.ntmps87
      have hwg : (w.drew.alloc (.cells zs.toArray 64)).cell? = (w.drew.alloc (.cells zs.toArray 64)).cell? := rfl
      go_wp2_with (first | (at_builtin; refine Lib.wpList_append_run _ rfl _ _ _ _ rfl _ _ rfl rfl _ _ (HZ.out _) ?_; have hb1 := Blk.new w.drew 64 zs; have hbb1 := ((Below.refl w.heap.size w).drew).alloc (Nat.le_refl _) (.cells zs.toArray 64); have HB1 := Lib.hid hb1; have HBB1 := Lib.hid hbb1; clear hb1 hbb1; generalize hW1 : w.drew.alloc (.cells zs.toArray 64) = w1 at *; clear hW1) | ((with_reducible refine at_dst 45 ?_); refine wpList_copy_k rfl (.tmp 43) (.tmp 44) _ _ rfl 64 2 Tryz.underlying46 hsz (some ⟨w.heap.size, 0, none⟩) (some ⟨vb, 0, none⟩) (c + 1) G 1 1 rfl rfl w.heap.size 0 64 _ HB1.out it 1 (by show 1 = min 1 (c + 1); omega) HIT.out (fun _ => ⟨rfl, _, rfl, fun j v hj => by rw [add_at', Nat.zero_add]; exact (HBB1.out.cell (p := ⟨vb, j, none⟩) hvl).trans ((HV.out.cell j).trans hj)⟩) (by rw [HIT.out, HZL.out]; omega) H1V.out ?_; intro w2 hb2' hg2; have HB2 := Lib.hid hb2'; have HG2 := Lib.hid hg2; clear hb2' hg2))
      have hne2 : g ≠ w.heap.size := by omega
      go_region_law (refine step_copy_k rfl (.tmp 50) (.tmp 53) _ _ rfl 64 2 Tryz.underlying46 hsz (some ⟨w.heap.size, 2, none⟩) (some ⟨g, 0, none⟩) c (G - 1) c c (by simp [Act.eval, Act.put]) (by simp [Act.eval, Act.put]) w.heap.size 2 64 _ HB2.out xs c (by show c = min c c; omega) HXL.out (fun _ => ⟨rfl, _, rfl, fun j v hj => by rw [add_at', Nat.zero_add]; exact (chg_of_grown HG2.out).cell (p := ⟨g, j, none⟩) ((HBB1.out.cell (p := ⟨g, j, none⟩) hgl).trans (HXC.out j v hj)) (fun e => hne2 e)⟩) (by rw [ins_len, HIT.out, HZL.out, HXL.out]; omega) H1.out ?_; intro w3 hb3' hg3; have HB3 := Lib.hid hb3'; have HG3 := Lib.hid hg3; clear hb3' hg3)
      go_wp2_with (fail)
      go_ret
      have hfin := HB3.out
      rw [ins_splice2 xs it zs 2 HIT.out (by rw [HXL.out, HZL.out]; omega)] at hfin
      refine ⟨_, G, rfl, own_room hbase hfin hGn HGM.out (by have h1 := HZL.out; have h2 := HXL.out; have h3 := HIT.out; rw [List.length_append, List.length_append, List.length_drop, h1, h2, h3]; omega) (ins_take xs it _ 2 c HIT.out HXL.out) (by rw [List.length_append, HIT.out, HXL.out, Nat.add_mul]; omega), ?_, fun k hk => .inr (blk_self hk)⟩
      exact (((Chg.of_below HBB1.out).grown HG2.out (fun k hk => .inr (by injection hk with hk; omega))).drew.grown HG3.out (fun k hk => .inr (by injection hk with hk; omega)))
end Go.Proofs.YtfhfhjcdeeepbaaGreatDoor

namespace Go.Proofs.YtfhfhjcdeeepbaaGreatDoor
open Go.RowKit Go.Sort
set_option linter.unusedVariables false
set_option linter.unusedSimpArgs false

theorem own_cut {w : World} {base n c Z m : Nat} {E : TypeId} {A : Option Addr} {xs : List Value} (h : w.ownsRow base E Z (.slice A n c) n xs) (hm : m ≤ n) : w.ownsRow base E Z (.slice A m c) m (xs.take (m * Z)) := by
  rcases h with ⟨hl, ⟨hv, h0⟩ | ⟨g, cap, cur, hv, hb, hh, hnc, hc, hcur, ht⟩⟩
  · injection hv with h1 h2 h3
    subst h1
    have : m = 0 := by omega
    subst this
    have : c = 0 := by omega
    subst this
    exact ⟨by simp, .inl ⟨rfl, rfl⟩⟩
  · injection hv with h1 h2 h3
    subst h1
    have : c = cap := by omega
    subst this
    have hmz : m * Z ≤ n * Z := Nat.mul_le_mul_right _ hm
    exact ⟨by rw [List.length_take]; omega, .inr ⟨g, c, cur, rfl, hb, hh, by omega, hc, hcur, by rw [← ht, List.take_take, Nat.min_eq_left hmz]⟩⟩
theorem own_drew {w : World} {base n Z : Nat} {E : TypeId} {v : Value} {xs : List Value} (h : w.ownsRow base E Z v n xs) : w.drew.ownsRow base E Z v n xs := h
theorem own_lt {w : World} {base n c Z : Nat} {E : TypeId} {A : Option Addr} {xs : List Value} (h : w.ownsRow base E Z (.slice A n c) n xs) : ∀ k, blk A = some k → base ≤ k ∧ k < w.heap.size := by
  intro k hk
  rcases h with ⟨hl, ⟨hv, h0⟩ | ⟨g, cap, cur, hv, hb, hh, hnc, hc, hcur, ht⟩⟩
  · injection hv with h1; subst h1; cases hk
  · injection hv with h1; subst h1
    have : g = k := by simpa [blk] using hk
    subst this
    exact ⟨hb, (Array.getElem?_eq_some_iff.1 hh).1⟩
theorem own_chg {w w' : World} {base n c Z : Nat} {E : TypeId} {A : Option Addr} {xs : List Value} {S : Nat → Prop} (h : w.ownsRow base E Z (.slice A n c) n xs) (hc : Chg S w w') (hn : ∀ k, blk A = some k → ¬ S k) : w'.ownsRow base E Z (.slice A n c) n xs := by
  rcases h with ⟨hl, h0 | ⟨g, cap, cur, hv, hb, hh, hnc, hcc, hcur, ht⟩⟩
  · exact ⟨hl, .inl h0⟩
  · refine ⟨hl, .inr ⟨g, cap, cur, hv, hb, hc.heap hh (hn g (by injection hv with h1; rw [h1]; rfl)), hnc, hcc, hcur, ht⟩⟩
theorem own_below {w w' : World} {base n c Z : Nat} {E : TypeId} {A : Option Addr} {xs : List Value} (h : w.ownsRow base E Z (.slice A n c) n xs) (hb : Below w.heap.size w w') : w'.ownsRow base E Z (.slice A n c) n xs :=
  own_chg h (Chg.of_below (S := noB) hb) (fun _ _ h => h)
theorem own_ncap {w : World} {base n c size : Nat} {e : TypeId} {A : Option Addr} {xs : List Value} (h : w.ownsRow base e size (.slice A n c) n xs) : n ≤ c := by
  rcases h with ⟨hl, ⟨hv, h0⟩ | ⟨g, cap, cur, hv, hb, hh, hnc, hc, hcur, ht⟩⟩
  · omega
  · injection hv with _ _ e
    omega
/-- what first leaves -/
theorem RowP.via {w w1 : World} {base n : Nat} {E : TypeId} {Z : Nat} {A : Option Addr} {xs : List Value} {e : Ending} {w' : World} (hb : Below w.heap.size w w1) (h : RowP w1 base E Z A n xs e w') : RowP w base E Z A n xs e w' := by
  obtain ⟨A', c', he, ho, hc, hk⟩ := h
  exact ⟨A', c', he, ho, (Chg.of_below hb).trans hc (fun _ h => .inl h), fun k h => (hk k h).imp id (fun h2 => Nat.le_trans hb.size h2)⟩
theorem slS_h (A : Option Addr) (n C hi : Nat) (h2 : hi ≤ C) (w : World) :
    (Instr.slice 38 (.slice A n C) none (some (.int .i64 hi)) none).run Tryz.prog w = .ok (.slice A hi C) w := by
  rw [run_slice_h w 38 A n C strs_elem .i64 hi (by omega) (by omega), strs_esize]
  cases A <;> simp [Result.andThen, sliced, Addr.add]
/-! strings.Join without a separator -/
theorem join_flat (l : List (List UInt8)) : Lib.join l [] = l.flatten := by
  induction l with
  | nil => rfl
  | cons a t ih => cases t with
    | nil => simp [Lib.join]
    | cons b r => simp [Lib.join, List.intercalate, List.intersperse] at ih ⊢; exact ih
theorem join_any (l : List (List UInt8)) (X : Option Addr) (m c B : Nat) (hm : m = l.length) (hc : m ≤ c) (w : World) (hS : Sl w B X (sv l)) (hB : B ≤ w.heap.size) (hl : l.length ≤ 100000) (hf : l.flatten.length ≤ 100000000) :
    Calls Tryz.prog 67 #[.slice X m c, .string ⟨#[]⟩] w fun e w' => e = .returned (.string ⟨(l.flatten).toArray⟩) ∧ Below w.heap.size w w' := by
  subst hm
  cases l with
  | nil => exact (sh_strings_Join_none X c ⟨#[]⟩ w).mono fun e w' ⟨he, hw⟩ => ⟨he, hw ▸ Below.refl _ _⟩
  | cons a t =>
    obtain ⟨b, off, rfl, hb, hcell⟩ := hS.open_ (by rw [sv_length]; simp)
    have hx := sh_strings_Join b off c ((a :: t).map fun x => (⟨x.toArray⟩ : ByteArray)) ⟨#[]⟩ w (fun j x hj => hcell j _ (by
        unfold sv
        rw [List.getElem?_map] at hj ⊢
        cases h9 : (a :: t)[j]? with
        | none => rw [h9] at hj; cases hj
        | some y => rw [h9] at hj; simp at hj ⊢; exact hj)) (by omega) (by simp at hl ⊢; omega) (by simpa using hc)
      (by rw [List.map_map]; show (Lib.join (((a :: t)).map fun x => x) []).length ≤ _; rw [List.map_id', join_flat]; omega)
    rw [List.length_map] at hx
    refine hx.mono ?_
    rintro e w' ⟨rfl, hb'⟩
    refine ⟨?_, hb'⟩
    rw [List.map_map]
    show Ending.returned (.string ⟨(Lib.join (((a :: t)).map fun x => x) []).toArray⟩) = _
    rw [List.map_id', join_flat]

set_option maxRecDepth 100000 in
set_option maxHeartbeats 4000000 in
theorem firstS_any (base : Nat) (A : Option Addr) (n c : Nat) (xs : List Value) (w : World) (hown : w.ownsRow base 9 1 (.slice A n c) n xs) (x : ByteArray)
    (h1 : ∀ v ∈ xs, v.oneCell' = true) (hn : n ≤ 16) (hbase : base ≤ w.heap.size) :
    Calls Tryz.prog 106 #[.string x, .slice A n c, .int .i64 16] w (RowP w base 9 1 A (min n 15 + 1) (.string x :: xs.take (min n 15))) := by
  have hmn : min n 15 ≤ n := Nat.min_le_left _ _
  have hcut := own_cut hown hmn
  have hnc := own_ncap hown
  have hlt := own_lt hown
  rw [Nat.mul_one] at hcut
  have hmi : (if (n : Int) < 15 then (n : Int) else 15) = ((min n 15 : Nat) : Int) := by split <;> omega
  have hmi2 : min (n : Int) 15 = ((min n 15 : Nat) : Int) := by omega
  have h1c : ∀ v ∈ xs.take (min n 15), v.oneCell' = true := fun v hv => h1 v (List.mem_of_mem_take hv)
  generalize hxs : xs.take (min n 15) = ys at *
  generalize hm : min n 15 = m at *
  have hmc : m ≤ c := by omega
  have hsl := slS_h A n c m hmc
  have hm15 : m ≤ 15 := by omega
  have HO := Lib.hid hcut
  have HI := Lib.hid hmi
  have HI2 := Lib.hid hmi2
  have H1 := Lib.hid h1c
  have HLT := Lib.hid hlt
  have HSL := Lib.hid hsl
  clear hown h1 hcut hmi hmi2 h1c hlt hsl hm hxs hmn
  go_enter Tryz.func106, Tryz.ntmps106
  go_wp2_with (first
    | (rw [HI.out]) | (rw [HI2.out]) | (rw [HSL.out])
    | (go_at_call 123; refine (insS_any base A m c ys _ ((own_below HO.out ((Below.refl _ _).alloc (Nat.le_refl _) _))) w.heap.size [.string x] rfl (Blk.new w 9 [.string x]) (fun e => by have := (HLT.out _ e).2; omega) H1.out (by intro v hv; simp at hv; subst hv; rfl) (by omega) (by simp; omega)).mono ?_; rintro e w2 ⟨A2, c2, rfl, ho2, hc2, hk2⟩; have HO2 := Lib.hid ho2; have HC2 := Lib.hid hc2; have HK2 := Lib.hid hk2; clear ho2 hc2 hk2))
  go_ret
  exact RowP.via ((Below.refl _ _).alloc (Nat.le_refl _) _) ⟨A2, c2, rfl, HO2.out, HC2.out, HK2.out⟩

theorem nts_elem : Tryz.prog.underlying 46 = some (.slice (Tryz.prog.elem 46)) := by kernel_rfl
theorem nts_esize (w : World) : (sizeOf (Tryz.prog.elem 46)).run Tryz.prog w = .ok 2 w := by kernel_rfl
theorem slN_h (A : Option Addr) (n C hi : Nat) (h2 : hi ≤ C) (w : World) :
    (Instr.slice 46 (.slice A n C) none (some (.int .i64 hi)) none).run Tryz.prog w = .ok (.slice A hi C) w := by
  rw [run_slice_h w 46 A n C nts_elem .i64 hi (by omega) (by omega), nts_esize]
  cases A <;> simp [Result.andThen, sliced, Addr.add]
set_option maxRecDepth 100000 in
set_option maxHeartbeats 4000000 in
theorem firstN_any (base : Nat) (A : Option Addr) (n c : Nat) (xs : List Value) (w : World) (hown : w.ownsRow base 64 2 (.slice A n c) n xs) (x : ByteArray) (q : Int)
    (h1 : ∀ v ∈ xs, v.oneCell' = true) (hn : n ≤ 64) (hbase : base ≤ w.heap.size) :
    Calls Tryz.prog 66 #[.agg #[.string x, .int .i64 q], .slice A n c, .int .i64 64] w (RowP w base 64 2 A (min n 63 + 1) ([.string x, .int .i64 q] ++ xs.take (min n 63 * 2))) := by
  have hmn : min n 63 ≤ n := Nat.min_le_left _ _
  have hcut := own_cut hown hmn
  have hnc := own_ncap hown
  have hlt := own_lt hown
  have hmi : (if (n : Int) < 63 then (n : Int) else 63) = ((min n 63 : Nat) : Int) := by split <;> omega
  have hmi2 : min (n : Int) 63 = ((min n 63 : Nat) : Int) := by omega
  have h1c : ∀ v ∈ xs.take (min n 63 * 2), v.oneCell' = true := fun v hv => h1 v (List.mem_of_mem_take hv)
  generalize hxs : xs.take (min n 63 * 2) = ys at *
  generalize hm : min n 63 = m at *
  have hmc : m ≤ c := by omega
  have hsl := slN_h A n c m hmc
  have hm15 : m ≤ 63 := by omega
  have HO := Lib.hid hcut
  have HI := Lib.hid hmi
  have HI2 := Lib.hid hmi2
  have H1 := Lib.hid h1c
  have HLT := Lib.hid hlt
  have HSL := Lib.hid hsl
  clear hown h1 hcut hmi hmi2 h1c hlt hsl hm hxs hmn
  have hx0 := (Blk.new w 64 [.string x, .int .i64 q]).cell 0
  have hx1 := (Blk.new w 64 [.string x, .int .i64 q]).cell 1
  have hw1 : IntKind.i64.wrap 63 = 63 := by decide
  have hi1 := HI.out
  have hi2 := HI2.out
  have hs1 := HSL.out
  have hm0 : (0 : Int) ≤ m := by omega
  have hmc' : (m : Int) ≤ c := by omega
  obtain ⟨W1, hW1⟩ : ∃ W1, W1 = w.alloc (.cells #[.string x, .int .i64 q] 64) := ⟨_, rfl⟩
  have hb1 : Below w.heap.size w W1 := by rw [hW1]; exact (Below.refl _ _).alloc (Nat.le_refl _) _
  have hz1 : W1.heap.size = w.heap.size + 1 := by rw [hW1]; simp
  have HZ1 := Lib.hid hz1
  have HW1 := Lib.hid hW1
  have HB1 := Lib.hid hb1
  clear hz1 hb1
  go_enter Tryz.func66, Tryz.ntmps66
  go_wp2_with (fail)
  rw [← hW1] at hx0 hx1 ⊢
  clear hW1
  go_region_law (refine step_call rfl 87 _ _ rfl (enters_of Tryz.func87 (by kernel_rfl) rfl) #[.slice A m c, .int .i64 0, .slice (some ⟨W1.heap.size, 0, none⟩) 1 1] (by simp [Act.eval, Act.put]) (insN_any base A m c ys _ ((own_below (own_below HO.out HB1.out) (((Below.refl _ W1).drew).alloc (Nat.le_refl _) _))) W1.heap.size [.string x, .int .i64 q] rfl (Blk.new W1.drew 64 [.string x, .int .i64 q]) (fun e => by have h1 := (HLT.out _ e).2; have h2 := HZ1.out; omega) H1.out (by intro v hv; simp at hv; rcases hv with rfl | rfl <;> rfl) (by omega) (by have h2 := HZ1.out; simp; omega)) ?_; rintro e w2 ⟨A2, c2, rfl, ho2, hc2, hk2⟩; have HO2 := Lib.hid ho2; have HC2 := Lib.hid hc2; have HK2 := Lib.hid hk2; clear ho2 hc2 hk2; refine ⟨_, rfl, ?_⟩)
  all_goals (go_wp2_with (fail); go_ret; exact RowP.via (HB1.out.trans ((((Below.refl _ W1).drew).alloc (Nat.le_refl _) _).mono HB1.out.size)) ⟨A2, c2, rfl, HO2.out, HC2.out, HK2.out⟩)
end Go.Proofs.YtfhfhjcdeeepbaaGreatDoor

namespace Go.Proofs.YtfhfhjcdeeepbaaGreatDoor
open Go.RowKit Go.Shelf Go.Sort
attribute [local go_sem] Oper.semAt_some
set_option linter.unusedVariables false
set_option linter.unusedSimpArgs false

set_option maxHeartbeats 400000 in
theorem salls_any (X : Option Addr) (n c : Nat) (w : World) : Calls Tryz.prog 77 #[.slice X n c] w fun e w' =>
    e = .returned (.func (.func 105) #[] #[.pointer (some ⟨w.heap.size, 0, none⟩)]) ∧ w' = w.alloc (.cells #[.slice X n c] 38) := by
  go_enter Tryz.func77, Tryz.ntmps77
  go_wp2
  go_ret
  exact ⟨rfl, rfl⟩

set_option maxRecDepth 100000 in
set_option maxHeartbeats 4000000 in
theorem salls_stops (line : List (List UInt8)) (L c : Nat) (X : Option Addr) (m : Nat) (bd : Nat) (w : World) (hL : line.length = L) (h4 : L ≤ 4096) (hS : Sl w w.heap.size X (sv line)) (hbd : Boxed w bd 38 (.slice X L c)) (f0 : Nat → Prop) (f1 : f0 bd) (f2 : ∀ k, blk X = some k → f0 k) :
    SeqP Fence.wide (m + 2) Tryz.prog 105 #[.pointer (some ⟨bd, 0, none⟩)] encG f0 (fun x => line[x.1]? = some x.2) (fun ys => ys = ats line) (fun pre => pre <+: ats line) L w := by
  intro l J Jx W hsz hf0 hJ hJx hY h0
  have hbdW : Boxed W bd 38 (.slice X L c) := (hf0 bd f1).trans hbd
  have hcd := hbdW.cell
  have HY := Lib.hid hY
  have H0 := Lib.hid h0
  have HS := Lib.hid hS
  have HF0 := Lib.hid hf0
  have HFR := Lib.hid f2
  have HLL := Lib.hid hL
  clear hJ hJx hY h0 hf0 hbd hbdW hS f2 f1 hL
  refine callsIn_of_wp Tryz.func105 rfl trivial ?_ rfl
  simp only [Tryz.ntmps105, List.size_toArray, List.length_cons, List.length_nil, Nat.reduceAdd, Nat.reduceSub, Array.replicate_succ, Array.replicate_zero, List.push_toArray, List.append_toArray, List.nil_append, List.cons_append]
  gi_wp2
  gi_loopw [7] (fun v wr => ∃ k : Nat, v = .int .i64 k ∧ k ≤ L ∧ J ((ats line).take k) f0 wr ∧ (∀ j, f0 j → wr.heap[j]? = W.heap[j]?)) (fun v _ => L - (intOf v).toNat)
  case atStart => exact ⟨0, rfl, by omega, H0.out, fun _ _ => rfl⟩
  case round =>
    obtain ⟨k, rfl, hk, hj, hf⟩ := hrel
    have HJp := Lib.hid hj
    have HFF := Lib.hid hf
    clear hj hf
    by_cases hlt : k < L
    · have hki : (k : Int) < L := by omega
      have hkl : k < line.length := by rw [HLL.out]; exact hlt
      obtain ⟨b, off, hA2, hbb, hcell⟩ := sv_at HS.out hkl
      subst hA2
      have hrow : wr.cell? ⟨b, off + k, none⟩ = some (.string ⟨(line[k]).toArray⟩) := (World.cell?_of_block (w := w) (a := ⟨b, off + k, none⟩) ((HFF.out b (HFR.out b rfl)).trans (HF0.out b (HFR.out b rfl)))).trans hcell
      have hx := ats_get hkl
      have htk : (ats line).take (k + 1) = (ats line).take k ++ [(k, line[k])] := by
        rw [List.take_add_one, hx]; rfl
      have hlk : ((ats line).take k).length < L := by rw [List.length_take, ats_length]; omega
      have hyy := HY.out _ (k, line[k]) f0 _ HJp.out hlk (List.getElem?_eq_getElem hkl)
      generalize line[k] = d at hrow hx htk hyy
      have HTK := Lib.hid htk
      have HPX : Hid ((ats line).take k ++ [(k, d)] <+: ats line) := by show _ <+: _; rw [← htk]; exact List.take_prefix _ _
      obtain ⟨fn, tmps, assign, body, hy, hR⟩ := hyy
      simp only [encG] at hy
      clear hcell hx htk hlk hbb hcd
      gi_wp2
      refine hR.mono ?_
      rintro e W3 (⟨rfl, hJ3, hk3⟩ | ⟨rfl, hJ3, hk3⟩)
      · have hJ4 : J ((ats line).take (k + 1)) f0 W3 := by rw [HTK.out]; exact hJ3
        have hf4 : ∀ j, f0 j → W3.heap[j]? = W.heap[j]? := fun j hj => (hk3.mine j hj).trans (HFF.out j hj)
        gi_wp2
        exact ⟨⟨k + 1, by go_num, by omega, hJ4, hf4⟩, by simp only [intOf]; omega⟩
      · gi_wp2
        refine bodyPost_ret (results_none rfl _ _ _) rfl ?_
        exact ⟨⟨_, rfl⟩, .inr ⟨_, f0, HPX.out, hJ3⟩⟩
    · have hki : ¬ (k : Int) < L := by omega
      have hfin := HJp.out
      rw [List.take_of_length_le (by rw [ats_length, HLL.out]; omega)] at hfin
      clear hcd
      gi_wp2
      go_end0
      first | exact ⟨⟨_, rfl⟩, .inl ⟨_, f0, rfl, hfin⟩⟩ | exact ⟨⟨_, rfl⟩, .inl ⟨f0, hfin⟩⟩

/-- how many clusters there are up to the first word and in it -/
def thruN : Bool → List (List UInt8) → Nat
  | _, [] => 0
  | b, x :: r => if b && !wordB x then 0 else thruN (wordB x) r + 1
theorem thruN_le : ∀ (l : List (List UInt8)) (b : Bool), thruN b l ≤ l.length := by
  intro l
  induction l with
  | nil => intro b; simp [thruN]
  | cons x r ih =>
    intro b
    rw [thruN]
    split
    · exact Nat.zero_le _
    · have := ih (wordB x); simp; omega
/-- did the last one belong to a word? -/
def insd (pre : List (Nat × List UInt8)) : Bool := match pre.getLast? with | none => false | some x => wordB x.2
theorem insd_snoc (pre : List (Nat × List UInt8)) (x : Nat × List UInt8) : insd (pre ++ [x]) = wordB x.2 := by unfold insd; simp
/-- no break so far -/
def Thr (pre : List (Nat × List UInt8)) : Prop := ∀ rest : List (List UInt8), thruN false (pre.map (·.2) ++ rest) = thruN (insd pre) rest + pre.length
theorem Thr.nil : Thr [] := fun rest => rfl
theorem Thr.snoc {pre : List (Nat × List UInt8)} {x : Nat × List UInt8} (h : Thr pre) (hx : (insd pre && !wordB x.2) = false) : Thr (pre ++ [x]) := by
  intro rest
  rw [List.map_append, List.append_assoc, h, insd_snoc]
  show thruN (insd pre) (x.2 :: rest) + pre.length = _
  rw [thruN, hx]
  simp
  omega
structure ThB (h : Nat) (pre : List (Nat × List UInt8)) (W : World) : Prop where
  b0 : Boxed W h 3 (.int .i64 pre.length)
  b1 : Boxed W (h + 1) 4 (.bool (insd pre))
  th : Thr pre
theorem ThB.ab {h b : Nat} (hb : h + 2 ≤ b) : AbP b (fun pre (_ : Nat → Prop) W => ThB h pre W) := fun pre f f' X Y q ht hf =>
  ⟨ht.block _ _ q.b0 (.inl (by omega)), ht.block _ _ q.b1 (.inl (by omega)), q.th⟩
/-- How it is left within a round. -/
def ThX (w : World) (c : Code) (pre : List (Nat × List UInt8)) (f : Nat → Prop) (W : World) : Prop :=
  c = .exit 0 ∧ (∃ p x, pre = p ++ [x] ∧ (insd p && !wordB x.2) = true ∧ ThB w.heap.size p W) ∧ Below w.heap.size w W

set_option maxRecDepth 100000 in
set_option maxHeartbeats 8000000 in
theorem thru_seq (gf : Nat) (bd : Nat) (w : World) (f0 : Nat → Prop) (T : List (Nat × List UInt8)) (N : Nat) (hN : N ≤ 10000) (El : Nat × List UInt8 → Prop) (hEl : ∀ x, El x → x.2 ≠ [] ∧ x.2.length ≤ 4000000) (hf : ∀ k, f0 k → k < w.heap.size)
    (eg : ∀ args w, (callFunc gf args).run Tryz.prog w = .ok (.enter gf args) w)
    (hseq : ∀ W, Below w.heap.size w W → SeqP Fence.wide 8 Tryz.prog gf #[.pointer (some ⟨bd, 0, none⟩)] encG f0 El (fun ys => ys = T) (fun pre => pre <+: T) N W) :
    Calls Tryz.prog 75 #[.func (.func gf) #[] #[.pointer (some ⟨bd, 0, none⟩)]] w fun e w' => e = .returned (.int .i64 (thruN false (T.map (·.2)) : Nat)) ∧ Below w.heap.size w w' := by
  have HSEQ := Lib.hid hseq
  have HF := Lib.hid hf
  have HEG := Lib.hid eg
  have HEL := Lib.hid hEl
  clear hseq hf eg hEl
  refine (callsIn_wide (n := 9)).1 ?_
  refine callsIn_of_wp_marks Tryz.func75 rfl trivial ?_ rfl
  simp only [Tryz.ntmps75, List.size_toArray, List.length_cons, List.length_nil, Nat.reduceAdd, Nat.reduceSub, Array.replicate_succ, Array.replicate_zero, List.push_toArray, List.append_toArray, List.nil_append, List.cons_append]
  refine wpIn_wide.2 ?_
  go_wp2_with (fail)
  refine (wpIn_wide (n := 9)).1 ?_
  have y0 := (Boxed.new w 3 (.int .i64 0)).alloc (.cells #[.bool false] 4)
  have y1 := Boxed.new (w.alloc (.cells #[.int .i64 0] 3)) 4 (.bool false)
  simp only [World.size_alloc] at y1
  have hb0 : Below w.heap.size w ((w.alloc (.cells #[.int .i64 0] 3)).alloc (.cells #[.bool false] 4)) := ((Below.refl _ w).alloc (Nat.le_refl _) _).alloc (by simp) _
  have hsz : ((w.alloc (.cells #[.int .i64 0] 3)).alloc (.cells #[.bool false] 4)).heap.size = w.heap.size + 2 := by simp
  generalize hX1 : (w.alloc (.cells #[.int .i64 0] 3)).alloc (.cells #[.bool false] 4) = X1 at *
  clear hX1
  refine range_priv rfl (by omega) (gf := gf) (lb := #[.pointer (some ⟨bd, 0, none⟩)]) rfl trivial HEG.out
    (HSEQ.out X1 hb0)
    (Nat.le_refl _) (fun k hk => ⟨by have := HF.out k hk; omega, rfl⟩) (fun _ => rfl)
    (fun pre f W => ThB w.heap.size pre W ∧ Below w.heap.size w W)
    (ThX w)
    (AbP.and (ThB.ab (by omega)) (AbP.below (by omega) (Nat.le_refl _)))
    (fun c pre f f' A B hp ht hf => by
      obtain ⟨hc, ⟨p, x, h1, h2, h3⟩, hB⟩ := hp
      exact ⟨hc, ⟨p, x, h1, h2, ThB.ab (by omega) p f f' A B h3 ht hf⟩, AbP.below (n₀ := w.heap.size) (β := Unit) (by omega) (Nat.le_refl _) () f f' A B hB ht hf⟩)
    ⟨⟨y0, y1, Thr.nil⟩, hb0⟩
    (fun x => { tmps := #[.func (.func gf) #[] #[.pointer (some ⟨bd, 0, none⟩)], undef, .int .i64 0, .pointer (some ⟨w.heap.size, 0, none⟩), .pointer (some ⟨w.heap.size + 1, 0, none⟩), undef, .string ⟨x.2.toArray⟩, .func (.func gf) #[] #[.pointer (some ⟨bd, 0, none⟩)], .int .i64 x.1, .string ⟨x.2.toArray⟩, undef, undef, undef, undef, undef, undef, undef, undef, undef, undef, undef], defers := [] }) ?assign ?body ?done ?stop
  case assign =>
    intro l x W K hK
    simp only [encG]
    rw [put_two]
    gi_wp2
    exact hK
  case body =>
    rintro lo pre x f W hff hz ⟨hTB, hbW⟩ hlen hel
    obtain ⟨hx1, hx2⟩ := HEL.out x hel
    have hiw := fun (W : World) => inword_any x.2 hx1 W hx2
    have hnf : ∀ k, w.heap.size ≤ k → k < X1.heap.size → ¬ f k := fun k h1 h2 hk => by
      rcases hff k hk with h' | h'
      · have := HF.out k h'; omega
      · omega
    have hnf0 := hnf w.heap.size (by omega) (by omega)
    have hnf1 := hnf (w.heap.size + 1) (by omega) (by omega)
    have k0 := hTB.b0.cell
    have k1 := hTB.b1.cell
    have fz0 := hTB.b0.frozen
    have fz1 := hTB.b1.frozen
    have hpi : (pre.length : Int) ≤ 10000 := by omega
    have HTB := Lib.hid hTB
    have HBW := Lib.hid hbW
    have HIW := Lib.hid hiw
    have HN0 := Lib.hid hnf0
    have HN1 := Lib.hid hnf1
    have k0' : (W.setCell ⟨w.heap.size + 1, 0, none⟩ (.bool (wordB x.2))).cell? ⟨w.heap.size, 0, none⟩ = some (.int .i64 pre.length) := (World.cell?_setCell_other _ ⟨w.heap.size + 1, 0, none⟩ ⟨w.heap.size, 0, none⟩ _ (by simp)).trans k0
    have hfin : (insd pre && !wordB x.2) = false → Rk X1.heap.size f W ((W.setCell ⟨w.heap.size + 1, 0, none⟩ (.bool (wordB x.2))).setCell ⟨w.heap.size, 0, none⟩ (.int .i64 ((pre.length : Int) + 1))) ∧ ThB w.heap.size (pre ++ [x]) ((W.setCell ⟨w.heap.size + 1, 0, none⟩ (.bool (wordB x.2))).setCell ⟨w.heap.size, 0, none⟩ (.int .i64 ((pre.length : Int) + 1))) ∧ Below w.heap.size w ((W.setCell ⟨w.heap.size + 1, 0, none⟩ (.bool (wordB x.2))).setCell ⟨w.heap.size, 0, none⟩ (.int .i64 ((pre.length : Int) + 1))) := fun hb => by
      refine ⟨((Rk.refl _ _ _).setCell hnf1 _).setCell hnf0 _, ⟨?_, ?_, hTB.th.snoc hb⟩, (hbW.setCell (p := ⟨w.heap.size + 1, 0, none⟩) (by simp) _).setCell (p := ⟨w.heap.size, 0, none⟩) (Nat.le_refl _) _⟩
      · have := (hTB.b0.other (by omega : w.heap.size ≠ w.heap.size + 1) (.bool (wordB x.2))).set (.int .i64 ((pre.length : Int) + 1))
        simpa using this
      · rw [insd_snoc]
        exact (hTB.b1.set (.bool (wordB x.2))).other (by omega) _
    have HFIN := Lib.hid hfin
    clear hTB hbW hiw hnf hnf0 hnf1 hff hel hlen y0 y1 hb0 hfin hx1 hx2
    generalize hbb : insd pre = b at *
    have HBB := Lib.hid hbb
    clear hbb
    cases b
    · have FIN := HFIN.out rfl
      have HF2 := Lib.hid FIN
      clear FIN HFIN
      gi_wp2
      refine ⟨trivial, ?_⟩
      gi_wp2
      refine ⟨trivial, ?_⟩
      refine (CallsIn.inRound lo (callsIn_wide.2 (HIW.out W))).mono ?_
      rintro e W3 ⟨rfl, rfl⟩
      gi_wp2
      exact HF2.out
    · generalize hwb : wordB x.2 = v at *
      have HWB := Lib.hid hwb
      clear hwb
      cases v
      · clear HFIN
        gi_wp2
        refine ⟨trivial, ?_⟩
        refine (CallsIn.inRound lo (callsIn_wide.2 (HIW.out W))).mono ?_
        rintro e W3 ⟨rfl, rfl⟩
        gi_wp2
        exact ⟨KeepsFrom.refl _ _, rfl, ⟨pre, x, rfl, by rw [HBB.out, HWB.out]; rfl, HTB.out⟩, HBW.out⟩
      · have FIN := HFIN.out rfl
        have HF2 := Lib.hid FIN
        clear FIN HFIN
        gi_wp2
        refine ⟨trivial, ?_⟩
        refine (CallsIn.inRound lo (callsIn_wide.2 (HIW.out W))).mono ?_
        rintro e W3 ⟨rfl, rfl⟩
        gi_wp2
        refine ⟨trivial, ?_⟩
        refine (CallsIn.inRound lo (callsIn_wide.2 (HIW.out W))).mono ?_
        rintro e W3 ⟨rfl, rfl⟩
        gi_wp2
        exact HF2.out
  case done =>
    rintro D ys f W hD rfl ⟨hTB, hB⟩ hK
    have hc := hTB.b0.cell
    have hth := hTB.th []
    rw [List.append_nil] at hth
    have HTH := Lib.hid hth
    have HB := Lib.hid hB
    clear hTB hB hth y0 y1 hb0
    go_wp2
    refine ⟨by simp, .inl ⟨_, _, rfl, run_takeDeferred hK, ?_⟩⟩
    refine ⟨_, results_tmp rfl _ _ _, ?_, HB.out.trans (belowK_b (w := w) (Nat.le_refl _) W D _ _ (by omega) hK rfl rfl)⟩
    rw [HTH.out]
    simp [thruN]
  case stop =>
    rintro D c pre f W hD hpre ⟨rfl, ⟨p, x, hp, hpl, hTB⟩, hB⟩ hK
    have hth : thruN false (T.map (·.2)) = p.length := by
      obtain ⟨t, ht⟩ := hpre
      rw [← ht, hp, List.append_assoc, List.map_append, hTB.th, List.map_append]
      show thruN (insd p) (x.2 :: _) + p.length = _
      rw [thruN, if_pos hpl]
      omega
    have hc := hTB.b0.cell
    have HTH := Lib.hid hth
    have HB := Lib.hid hB
    clear hTB hB hth y0 y1 hb0 hp hpl hpre
    gi_wp2
    go_wp2
    refine ⟨by simp, .inl ⟨_, _, rfl, run_takeDeferred hK, ?_⟩⟩
    refine ⟨_, results_tmp rfl _ _ _, ?_, HB.out.trans (belowK_b (w := w) (Nat.le_refl _) W D _ _ (by omega) hK rfl rfl)⟩
    rw [HTH.out]
    rfl
end Go.Proofs.YtfhfhjcdeeepbaaGreatDoor

namespace Go.Proofs.YtfhfhjcdeeepbaaGreatDoor
open Go.RowKit Go.Shelf Go.Sort
set_option linter.unusedVariables false
set_option linter.unusedSimpArgs false

theorem ats_in {l : List (List UInt8)} {x : Nat × List UInt8} (h : l[x.1]? = some x.2) (hi : ∀ c ∈ l, isC c = true) : x.2 ≠ [] ∧ x.2.length ≤ 4000000 := by
  have h1 := hi x.2 (List.mem_of_getElem? h)
  refine ⟨fun e => ?_, by have := isC_len h1; omega⟩
  rw [e] at h1
  exact absurd h1 (by decide)
theorem backO_lt {w w' : World} {lo g n C most f t : Nat} {A : Option Addr} {p s : List (List UInt8)} {b : Nat} (h : GpAt w lo g A n C most f t p s) (hb : b < w'.heap.size) (hs : w.heap.size ≤ w'.heap.size) : ∀ k, (k = b ∨ GpOwn g A k) → k < w'.heap.size := by
  intro k hk
  rcases hk with rfl | hk
  · exact hb
  · have := (h.own_lt k hk).2
    omega
/-- how far the previous word boundary is -/
def wl (p : List (List UInt8)) : Nat := thruN false p.reverse
theorem wl_le (p : List (List UInt8)) : wl p ≤ p.length := by have := thruN_le p.reverse false; rw [List.length_reverse] at this; exact this

set_option maxRecDepth 100000 in
set_option maxHeartbeats 4000000 in
theorem lwordl_any {w : World} {lo g n C most f t : Nat} {A : Option Addr} {p s : List (List UInt8)} (h : GpAt w lo g A n C most f t p s) :
    Calls Tryz.prog 53 #[.agg #[.pointer (some ⟨g, 0, none⟩)]] w fun e w' => e = .returned (.int .i64 (p.length - wl p : Nat)) ∧ Below w.heap.size w w' := by
  obtain ⟨hb0, hx0⟩ := line_box (w := w) (v := .pointer (some ⟨g, 0, none⟩))
  obtain ⟨W1, hW1⟩ : ∃ W1, W1 = w.alloc (.cells #[.pointer (some ⟨g, 0, none⟩)] 45) := ⟨_, rfl⟩
  have G1 : Hid (GpAt W1 lo g A n C most f t p s) := Lib.hid (by rw [hW1]; exact h.below hb0)
  have HB1 : Hid (Below w.heap.size w W1) := Lib.hid (by rw [hW1]; exact hb0)
  have hcd1 : W1.cell? ⟨w.heap.size, 0, none⟩ = some (.pointer (some ⟨g, 0, none⟩)) := by rw [hW1]; exact hx0.cell
  have HBL : Hid (w.heap.size < W1.heap.size) := Lib.hid (by rw [hW1]; simp)
  have hfp := h.fp
  have hf4 : f ≤ 4096 := by have := h.lnf; have := h.ln_le; have := h.m4; omega
  have hwl := wl_le p
  have HIS : Hid (∀ c ∈ p, isC c = true) := Lib.hid (fun c hc => h.is c (List.mem_append_left _ hc))
  obtain ⟨d, hd⟩ : ∃ d, d = wl p := ⟨_, rfl⟩
  rw [← hd] at hwl ⊢
  have HD := Lib.hid hd
  have hsub : ((f : Int) - (d : Int)) = ((p.length - d : Nat) : Int) := by omega
  have HSUB := Lib.hid hsub
  have hdi : (d : Int) ≤ f := by omega
  have hw1 : IntKind.i64.wrap ((f : Int) - (d : Int)) = (f : Int) - d := IntWalk.i64_in _ (by omega)
  clear h hb0 hx0 hfp hwl hsub hd
  go_enter Tryz.func53, Tryz.ntmps53
  go_upto_region 1 with (fail)
  rw [← hW1]
  clear hW1
  go_region_law (first
    | (refine step_call rfl 26 _ _ rfl (enters_of Tryz.func26 (by kernel_rfl) rfl) #[.pointer (some ⟨g, 0, none⟩)] (by simp [Act.eval, Act.put]) (gcursor_any (w := W1.drew) (G1.out.drewN 1)) ?_; rintro e w2 ⟨rfl, hb2⟩; refine ⟨_, rfl, ?_⟩; have hb12 : Below W1.heap.size W1 w2 := ((Below.refl _ W1).drew).trans hb2; have hcd2 : w2.cell? ⟨w.heap.size, 0, none⟩ = some (.pointer (some ⟨g, 0, none⟩)) := (hb12.cell (p := ⟨w.heap.size, 0, none⟩) HBL.out).trans hcd1; have G2 := Lib.hid (G1.out.below hb12); have HB12 := Lib.hid hb12; clear hb2 hb12)
    | (refine step_call rfl 76 _ _ rfl (enters_of Tryz.func76 (by kernel_rfl) rfl) #[.pointer (some ⟨g, 0, none⟩)] (by simp [Act.eval, Act.put]) (gback_any _ w2) ?_; rintro e w3 ⟨rfl, hw3⟩; refine ⟨_, rfl, ?_⟩; have HW3 := Lib.hid hw3; clear hw3)
    | (refine step_call rfl 75 _ _ rfl (enters_of Tryz.func75 (by kernel_rfl) rfl) #[.func (.func 103) #[] #[.pointer (some ⟨w2.heap.size, 0, none⟩)]] (by simp [Act.eval, Act.put])
        (thru_seq 103 w2.heap.size w3 (fun k => k = w2.heap.size ∨ GpOwn g A k) (ats p).reverse f (by omega) (fun x => p[x.1]? = some x.2) (fun x hx => ats_in hx HIS.out)
          (backO_lt G2.out (by rw [HW3.out]; simp) (by rw [HW3.out]; simp)) (enters_of Tryz.func103 (by kernel_rfl) rfl)
          (fun V hV => gback_stops ((G2.out.below (by rw [HW3.out]; exact (Below.refl _ _).alloc (Nat.le_refl _) _)).below hV) w2.heap.size (box_bel (by rw [HW3.out]; exact Boxed.new _ _ _) hV) _ (.inl rfl) (fun k hk => .inr hk) (backO_lt G2.out (by have h9 := hV.size; rw [HW3.out] at h9; simp at h9; omega) (by have h9 := hV.size; rw [HW3.out] at h9; simp at h9; omega)))) ?_
       rintro e w4 ⟨rfl, hb4⟩; refine ⟨_, rfl, ?_⟩; have HB4 := Lib.hid hb4; clear hb4; rw [List.map_reverse, ats_snd, show thruN false p.reverse = d from HD.out.symm]))
  all_goals
    clear hcd1 hcd2
    go_wp2_with (fail)
    go_ret
    exact ⟨ret_int (by first | exact HSUB.out | (have h1 := HSUB.out; unfold wrap64; omega)), HB1.out.trans ((HB12.out.trans (((by rw [HW3.out]; exact (Below.refl _ _).alloc (Nat.le_refl _) _ : Below w2.heap.size w2 w3).trans (HB4.out.mono (by rw [HW3.out]; simp))).mono HB12.out.size)).mono HB1.out.size)⟩
/-- how far the next word boundary is -/
def wr (s : List (List UInt8)) : Nat := thruN false s
theorem wr_le (s : List (List UInt8)) : wr s ≤ s.length := thruN_le s false
theorem bh_blk {A : Option Addr} {c k j : Nat} (h : blk (bh A c k) = some j) : blk A = some j := by
  unfold bh at h
  split at h
  · exact h
  · cases A with
    | none => cases h
    | some a => simp only [Option.map, blk, Addr.add] at h ⊢; split at h <;> exact h
theorem allO_lt {w w' : World} {X : Option Addr} {xs : List Value} {b n : Nat} (hS : ∀ k, blk X = some k → k < n) (hb : b < w'.heap.size) (hn : n ≤ w'.heap.size) : ∀ k, (k = b ∨ blk X = some k) → k < w'.heap.size := by
  intro k hk
  rcases hk with rfl | hk
  · exact hb
  · have := hS k hk
    omega

set_option maxRecDepth 100000 in
set_option maxHeartbeats 8000000 in
theorem lwordr_any {w : World} {lo g n C most f t : Nat} {A : Option Addr} {p s : List (List UInt8)} (h : GpAt w lo g A n C most f t p s) :
    Calls Tryz.prog 54 #[.agg #[.pointer (some ⟨g, 0, none⟩)]] w fun e w' => e = .returned (.int .i64 (p.length + wr s : Nat)) ∧ Below w.heap.size w w' := by
  obtain ⟨hb0, hx0⟩ := line_box (w := w) (v := .pointer (some ⟨g, 0, none⟩))
  obtain ⟨W1, hW1⟩ : ∃ W1, W1 = w.alloc (.cells #[.pointer (some ⟨g, 0, none⟩)] 45) := ⟨_, rfl⟩
  have G1 : Hid (GpAt W1 lo g A n C most f t p s) := Lib.hid (by rw [hW1]; exact h.below hb0)
  have HB1 : Hid (Below w.heap.size w W1) := Lib.hid (by rw [hW1]; exact hb0)
  have hcd1 : W1.cell? ⟨w.heap.size, 0, none⟩ = some (.pointer (some ⟨g, 0, none⟩)) := by rw [hW1]; exact hx0.cell
  have HBL : Hid (w.heap.size < W1.heap.size) := Lib.hid (by rw [hW1]; simp)
  have hfp := h.fp
  have hlnf := h.lnf
  have hln : ln p s = f + s.length := by unfold ln; omega
  have hl4 : ln p s ≤ 4096 := by have := h.ln_le; have := h.m4; omega
  have hwr := wr_le s
  have HIS : Hid (∀ c ∈ s, isC c = true) := Lib.hid (fun c hc => h.is c (List.mem_append_right _ hc))
  obtain ⟨d, hd⟩ : ∃ d, d = wr s := ⟨_, rfl⟩
  rw [← hd] at hwr ⊢
  have HD := Lib.hid hd
  have hsum : ((f : Int) + (d : Int)) = ((p.length + d : Nat) : Int) := by omega
  have HSUM := Lib.hid hsum
  obtain ⟨L, hL⟩ : ∃ L, L = ln p s := ⟨_, rfl⟩
  have hLl := hL
  rw [← hL] at hln hl4
  have HL := Lib.hid hLl
  have QL := Lib.hid (fun (W : World) (hW : GpAt W lo g A n C most f t p s) => (show Calls Tryz.prog 30 #[.pointer (some ⟨g, 0, none⟩)] W (CatP W L (sv (p ++ s))) by rw [hL]; exact gline_any hW))
  have HLN := Lib.hid hln
  have HFP := Lib.hid hfp
  have hdi : (f : Int) + d ≤ 4096 := by omega
  have hfL : f ≤ L := by omega
  have t1 : True := trivial
  have HSV : Hid ((sv (p ++ s)).drop f = sv s) := Lib.hid (by rw [sv_append, List.drop_left' (by rw [sv_length, hfp])])
  clear h hb0 hx0 hfp hwr hsum hd hL hLl hln hlnf
  go_enter Tryz.func54, Tryz.ntmps54
  go_upto_region 1 with (fail)
  rw [← hW1]
  clear hW1
  go_region_law (first
    | (have _t := t1; refine step_call rfl 26 _ _ rfl (enters_of Tryz.func26 (by kernel_rfl) rfl) #[.pointer (some ⟨g, 0, none⟩)] (by simp [Act.eval, Act.put]) (gcursor_any (w := W1.drew) (G1.out.drewN 1)) ?_; clear _t t1; rintro e w2 ⟨rfl, hb2⟩; refine ⟨_, rfl, ?_⟩; have hb12 : Below W1.heap.size W1 w2 := ((Below.refl _ W1).drew).trans hb2; have hcd2 : w2.cell? ⟨w.heap.size, 0, none⟩ = some (.pointer (some ⟨g, 0, none⟩)) := (hb12.cell (p := ⟨w.heap.size, 0, none⟩) HBL.out).trans hcd1; have G2 := Lib.hid (G1.out.below hb12); have HB12 := Lib.hid hb12; clear hb2 hb12)
    | (refine step_call rfl 30 _ _ rfl (enters_of Tryz.func30 (by kernel_rfl) rfl) #[.pointer (some ⟨g, 0, none⟩)] (by simp [Act.eval, Act.put]) (QL.out _ G2.out) ?_; rintro e w3 ⟨A2, c2, rfl, ho, hb3⟩; refine ⟨_, rfl, ?_⟩; have hcd3 : w3.cell? ⟨w.heap.size, 0, none⟩ = some (.pointer (some ⟨g, 0, none⟩)) := (hb3.cell (p := ⟨w.heap.size, 0, none⟩) (show w.heap.size < w2.heap.size by have := HB12.out.size; have := HBL.out; omega)).trans hcd2; have G3 := Lib.hid (G2.out.below hb3); have HB3 := Lib.hid hb3; have HO3 := Lib.hid ho; clear hb3 ho; have t2 : True := trivial; have E := fun V => sl_l A2 L c2 f hfL V)
    | (have _t := t2; refine step_call rfl 26 _ _ rfl (enters_of Tryz.func26 (by kernel_rfl) rfl) #[.pointer (some ⟨g, 0, none⟩)] (by simp [Act.eval, Act.put]) (gcursor_any G3.out) ?_; clear _t t2; rintro e w4 ⟨rfl, hb4⟩; refine ⟨_, rfl, ?_⟩; have HB4 := Lib.hid hb4; clear hb4)
    | (refine step_call rfl 77 _ _ rfl (enters_of Tryz.func77 (by kernel_rfl) rfl) #[.slice (bh A2 c2 f) (L - f) (c2 - f)] (by simp [Act.eval, Act.put]) (salls_any (bh A2 c2 f) (L - f) (c2 - f) w4) ?_; rintro e w5 ⟨rfl, hw5⟩; refine ⟨_, rfl, ?_⟩; have HW5 := Lib.hid hw5; clear hw5)
    | (refine step_call rfl 75 _ _ rfl (enters_of Tryz.func75 (by kernel_rfl) rfl) #[.func (.func 105) #[] #[.pointer (some ⟨w4.heap.size, 0, none⟩)]] (by simp [Act.eval, Act.put])
        (thru_seq 105 w4.heap.size w5 (fun k => k = w4.heap.size ∨ blk (bh A2 c2 f) = some k) (ats s) (L - f) (by omega) (fun x => s[x.1]? = some x.2) (fun x hx => ats_in hx HIS.out)
          (allO_lt (w := w4) (xs := []) (n := w3.heap.size) (fun k hk => (HO3.out.blk_lt k (bh_blk hk)).2) (by rw [HW5.out]; simp) (by rw [HW5.out]; have := HB4.out.size; simp; omega)) (enters_of Tryz.func105 (by kernel_rfl) rfl)
          (fun V hV => salls_stops s (L - f) (c2 - f) (bh A2 c2 f) 6 w4.heap.size V (by have := HLN.out; omega) (by omega)
            (((by have h9 := (HO3.out.sl.drop (k := f) (cap := c2) (by have := HO3.out.cap; have := HO3.out.len; omega)); rw [HSV.out] at h9; exact (h9.below HB4.out).more HB4.out.size : Sl w4 w4.heap.size (bh A2 c2 f) (sv s)).alloc (Nat.le_refl _) (.cells #[.slice (bh A2 c2 f) (L - f) (c2 - f)] 38) |> fun h9 => (HW5.out ▸ h9 : Sl w5 w4.heap.size (bh A2 c2 f) (sv s))).below (hV.mono (by rw [HW5.out]; simp)) |>.more (by have h9 := hV.size; rw [HW5.out] at h9; simp at h9; omega))
            (box_bel (by rw [HW5.out]; exact Boxed.new _ _ _) hV) _ (.inl rfl) (fun k hk => .inr hk))) ?_
       rintro e w6 ⟨rfl, hb6⟩; refine ⟨_, rfl, ?_⟩; have HB6 := Lib.hid hb6; clear hb6; rw [ats_snd, show thruN false s = d from HD.out.symm]))
  all_goals
    clear hcd1 hcd2 hcd3 E
    go_wp2_with (fail)
    go_ret
    exact ⟨ret_int (by first | exact HSUM.out | exact (IntWalk.i64_in _ (by omega)).trans HSUM.out), HB1.out.trans ((HB12.out.trans ((HB3.out.trans ((HB4.out.trans (((by rw [HW5.out]; exact (Below.refl _ _).alloc (Nat.le_refl _) _ : Below w4.heap.size w4 w5).trans (HB6.out.mono (by rw [HW5.out]; simp))).mono HB4.out.size)).mono HB3.out.size)).mono HB12.out.size)).mono HB1.out.size)⟩
end Go.Proofs.YtfhfhjcdeeepbaaGreatDoor

namespace Go.Proofs.YtfhfhjcdeeepbaaGreatDoor
open Go.RowKit Go.Shelf Go.Sort
attribute [local go_sem] Oper.semAt_some
set_option linter.unusedVariables false
set_option linter.unusedSimpArgs false

/-- alike so far -/
def alk (n : Nat) (L : List (List UInt8)) (pre : List (Nat × List UInt8)) : Bool := decide (n = L.length ∧ ∀ x ∈ pre, L[x.1]? = some x.2)
theorem alk_snoc (n : Nat) (L : List (List UInt8)) (pre : List (Nat × List UInt8)) (x : Nat × List UInt8) : alk n L (pre ++ [x]) = (alk n L pre && decide (L[x.1]? = some x.2)) := by
  unfold alk
  rw [Bool.eq_iff_iff]
  simp only [decide_eq_true_eq, Bool.and_eq_true, List.mem_append, List.mem_singleton]
  constructor
  · rintro ⟨h1, h2⟩
    exact ⟨⟨h1, fun y hy => h2 y (.inl hy)⟩, h2 x (.inr rfl)⟩
  · rintro ⟨⟨h1, h2⟩, h3⟩
    refine ⟨h1, fun y hy => ?_⟩
    rcases hy with hy | rfl
    · exact h2 y hy
    · exact h3
theorem alk_all (line L : List (List UInt8)) : alk line.length L (ats line) = decide (line = L) := by
  unfold alk
  rw [Bool.eq_iff_iff]
  simp only [decide_eq_true_eq]
  constructor
  · rintro ⟨h1, h2⟩
    refine List.ext_getElem h1 (fun i hi hi' => ?_)
    have := h2 (i, line[i]) (List.mem_of_getElem? (ats_get hi))
    rw [List.getElem?_eq_getElem hi'] at this
    exact (Option.some.inj this).symm
  · rintro rfl
    refine ⟨rfl, fun x hx => ?_⟩
    obtain ⟨i, hi⟩ := List.getElem?_of_mem hx
    have hil : i < line.length := by
      have := (List.getElem?_eq_some_iff.1 hi).1
      rwa [ats_length] at this
    rw [ats_get hil] at hi
    injection hi with hi
    subst hi
    exact List.getElem?_eq_getElem hil
theorem alk_pre {n : Nat} {L : List (List UInt8)} {p T : List (Nat × List UInt8)} (h : alk n L p = false) (hp : p <+: T) : alk n L T = false := by
  unfold alk at *
  simp only [decide_eq_false_iff_not] at *
  rintro ⟨h1, h2⟩
  exact h ⟨h1, fun x hx => h2 x (hp.subset hx)⟩
structure IsB (c h : Nat) (v : Value) (n : Nat) (L : List (List UInt8)) (pre : List (Nat × List UInt8)) (W : World) : Prop where
  b0 : Boxed W c 38 v
  b1 : Boxed W h 4 (.bool (alk n L pre))
theorem IsB.ab {c h b n : Nat} {v : Value} {L : List (List UInt8)} (hc : c < b) (hb : h < b) : AbP b (fun pre (_ : Nat → Prop) W => IsB c h v n L pre W) := fun pre f f' X Y q ht hf =>
  ⟨ht.block _ _ q.b0 (.inl hc), ht.block _ _ q.b1 (.inl hb)⟩
/-- How it is left within a round. -/
def IsX (w : World) (cb h : Nat) (v : Value) (n : Nat) (L : List (List UInt8)) (c : Code) (pre : List (Nat × List UInt8)) (f : Nat → Prop) (W : World) : Prop :=
  c = .exit 0 ∧ (∃ p x, pre = p ++ [x] ∧ alk n L p = false ∧ IsB cb h v n L p W) ∧ Below w.heap.size w W

set_option maxRecDepth 100000 in
set_option maxHeartbeats 8000000 in
theorem lis_any {w : World} {lo g n C most f t : Nat} {A : Option Addr} {p s : List (List UInt8)} (h : GpAt w lo g A n C most f t p s) (L : List (List UInt8)) (X : Option Addr) (m c : Nat) (hm : m = L.length) (hm5 : m ≤ 1000000) (hX : Sl w w.heap.size X (sv L)) :
    Calls Tryz.prog 49 #[.agg #[.pointer (some ⟨g, 0, none⟩)], .slice X m c] w fun e w' => e = .returned (.bool (decide (p ++ s = L))) ∧ Below w.heap.size w w' := by
  have hb0 : Below w.heap.size w ((w.alloc (.cells #[.pointer (some ⟨g, 0, none⟩)] 45)).alloc (.cells #[.slice X m c] 38)) := ((Below.refl _ w).alloc (Nat.le_refl _) _).alloc (by simp) _
  have y0 := (Boxed.new w 45 (.pointer (some ⟨g, 0, none⟩))).alloc (.cells #[.slice X m c] 38)
  have y1 := Boxed.new (w.alloc (.cells #[.pointer (some ⟨g, 0, none⟩)] 45)) 38 (.slice X m c)
  have hs1 : ((w.alloc (.cells #[.pointer (some ⟨g, 0, none⟩)] 45)).alloc (.cells #[.slice X m c] 38)).heap.size = w.heap.size + 2 := by simp
  simp only [World.size_alloc] at y1
  obtain ⟨W1, hW1⟩ : ∃ W1, W1 = (w.alloc (.cells #[.pointer (some ⟨g, 0, none⟩)] 45)).alloc (.cells #[.slice X m c] 38) := ⟨_, rfl⟩
  rw [← hW1] at hb0 y0 y1 hs1
  have G1 : Hid (GpAt W1 lo g A n C most f t p s) := Lib.hid (h.below hb0)
  have HB1 := Lib.hid hb0
  have HY0 := Lib.hid y0
  have HY1 := Lib.hid y1
  have HS1 := Lib.hid hs1
  have k0 := y0.cell
  have k1 := y1.cell
  have HX := Lib.hid hX
  have HM := Lib.hid hm
  obtain ⟨l, hl⟩ : ∃ l, l = p ++ s := ⟨_, rfl⟩
  have hll : ln p s = l.length := by rw [hl, ln_eq]
  have h4 : ln p s ≤ 4096 := by have := h.ln_le; have := h.m4; omega
  have hal : (((ln p s : Nat) : Int) == (m : Int)) = alk l.length L [] := by
    rw [Bool.eq_iff_iff]
    unfold alk
    simp
    omega
  have HAL := Lib.hid hal
  have HL := Lib.hid hl
  have HLL := Lib.hid hll
  have HOWN := Lib.hid (fun k hk => (h.own_lt k hk).2)
  have QA := Lib.hid (fun (V : World) (hV : Below W1.heap.size W1 V) (B : Nat) hB f0 f1 f2 => gall_stops (h.below (hb0.trans (hV.mono hb0.size))) B hB f0 f1 f2)
  clear h hb0 y0 y1 hs1 hX hm hl hll hal
  refine (callsIn_wide (n := 9)).1 ?_
  refine callsIn_of_wp_marks Tryz.func49 rfl trivial ?_ rfl
  simp only [Tryz.ntmps49, List.size_toArray, List.length_cons, List.length_nil, Nat.reduceAdd, Nat.reduceSub, Array.replicate_succ, Array.replicate_zero, List.push_toArray, List.append_toArray, List.nil_append, List.cons_append]
  refine wpIn_wide.2 ?_
  go_wp2_with (fail)
  go_step3
  go_wp2_with (fail)
  rw [← hW1]
  clear hW1
  go_cut [5] from 8 to 13 (fun v5 wr => ∃ a : Nat, v5 = .pointer (some ⟨a, 0, none⟩) ∧ w.heap.size + 2 ≤ a ∧ Boxed wr a 4 (.bool (alk l.length L [])) ∧ Below W1.heap.size W1 wr)
  case first =>
    refine wp_noPanic ?_
    have GB : Hid (Below W1.heap.size W1 (W1.alloc (.cells #[.bool false] 4)).drew) := Lib.hid (((Below.refl _ W1).alloc (Nat.le_refl _) _).drew)
    have a0 : (W1.alloc (.cells #[.bool false] 4)).cell? ⟨w.heap.size, 0, none⟩ = some (.pointer (some ⟨g, 0, none⟩)) := (GB.out.cell (p := ⟨w.heap.size, 0, none⟩) HY0.out.lt).trans k0
    have a1 : (W1.alloc (.cells #[.bool false] 4)).cell? ⟨w.heap.size + 1, 0, none⟩ = some (.slice X m c) := (GB.out.cell (p := ⟨w.heap.size + 1, 0, none⟩) HY1.out.lt).trans k1
    go_region_law (first
      | (refine step_call rfl 32 _ _ rfl (enters_of Tryz.func32 (by kernel_rfl) rfl) #[.pointer (some ⟨g, 0, none⟩)] (by simp [Act.eval, Act.put]) (glen_any (w := W1.drew) (G1.out.drewN 1)) ?_; rintro e w2 ⟨rfl, hb2⟩; refine ⟨_, rfl, ?_⟩; have hb12 : Below W1.heap.size W1 w2 := ((Below.refl _ W1).drew).trans hb2; have k2 : w2.cell? ⟨w.heap.size + 1, 0, none⟩ = some (.slice X m c) := (hb12.cell (p := ⟨w.heap.size + 1, 0, none⟩) HY1.out.lt).trans k1; have G2 := Lib.hid (G1.out.below hb12); have HB12 := Lib.hid hb12; have CA : Hid True := Lib.hid trivial; have k2a : (w2.alloc (.cells #[.bool false] 4)).cell? ⟨w.heap.size + 1, 0, none⟩ = some (.slice X m c) := (((Below.refl _ w2).alloc (Nat.le_refl _) (.cells #[.bool false] 4)).cell (p := ⟨w.heap.size + 1, 0, none⟩) (show w.heap.size + 1 < w2.heap.size by have h1 := HB12.out.size; have h2 := HY1.out.lt; omega)).trans k2; clear hb2 hb12)
      | (refine step_call rfl 32 _ _ rfl (enters_of Tryz.func32 (by kernel_rfl) rfl) #[.pointer (some ⟨g, 0, none⟩)] (by simp [Act.eval, Act.put]) (glen_any (w := (W1.alloc (.cells #[.bool false] 4)).drew) (G1.out.below GB.out)) ?_; rintro e w2 ⟨rfl, hb2⟩; refine ⟨_, rfl, ?_⟩; have hb12 : Below W1.heap.size W1 w2 := GB.out.trans (hb2.mono GB.out.size); have hbx : Boxed w2 W1.heap.size 4 (.bool false) := box_bel (w := (W1.alloc (.cells #[.bool false] 4)).drew) (Boxed.new W1 4 (.bool false)) hb2; have ka := hbx.cell; have kf := hbx.frozen; have k2 : w2.cell? ⟨w.heap.size + 1, 0, none⟩ = some (.slice X m c) := (hb12.cell (p := ⟨w.heap.size + 1, 0, none⟩) HY1.out.lt).trans k1; have G2 := Lib.hid (G1.out.below hb12); have HB12 := Lib.hid hb12; have CA := Lib.hid hbx; clear hb2 hb12 hbx))
    all_goals (simp only [NoPanic]; go_wp2_with (fail); go_meet; rw [HAL.out])
    all_goals first
      | exact ⟨_, rfl, by have h1 := HB12.out.size; have h2 := HS1.out; omega, Boxed.new w2 4 _, HB12.out.alloc HB12.out.size _⟩
      | exact ⟨_, rfl, by have h2 := HS1.out; omega, CA.out.set _, HB12.out.setCell (p := ⟨W1.heap.size, 0, none⟩) (Nat.le_refl _) _⟩
  case rest =>
    obtain ⟨a, rfl, ha, hba, hbel⟩ := hcut
    have kc := (box_bel HY0.out hbel).cell
    have GC := Lib.hid (G1.out.below hbel)
    have hyc := box_bel HY1.out hbel
    have hwc : w.heap.size + 2 ≤ wc.heap.size := by have h1 := hbel.size; have h2 := HS1.out; omega
    have hal := hba.lt
    have HBC := Lib.hid (HB1.out.trans (hbel.mono HB1.out.size))
    have HBEL := Lib.hid hbel
    clear k0 k1 hbel
    go_wp2_with (fail)
    go_step3
    go_wp2_with (go_at_call 37; refine (gall_any _ _).mono ?_; rintro e w' ⟨rfl, rfl⟩)
    refine (wpIn_wide (n := 9)).1 ?_
    have yg := Boxed.new wc 43 (.pointer (some ⟨g, 0, none⟩))
    have hb3 : Below wc.heap.size wc (wc.alloc (.cells #[.pointer (some ⟨g, 0, none⟩)] 43)) := (Below.refl _ _).alloc (Nat.le_refl _) _
    have hyc3 := box_bel hyc hb3
    have hba3 := box_bel hba hb3
    have hsz : (wc.alloc (.cells #[.pointer (some ⟨g, 0, none⟩)] 43)).heap.size = wc.heap.size + 1 := by simp
    have hB3 : Below w.heap.size w (wc.alloc (.cells #[.pointer (some ⟨g, 0, none⟩)] 43)) := HBC.out.trans (hb3.mono HBC.out.size)
    have hseq := QA.out _ (HBEL.out.trans (hb3.mono HBEL.out.size)) wc.heap.size yg.cell (fun k => k = wc.heap.size ∨ GpOwn g A k) (.inl rfl) (fun k hk => .inr hk)
    rw [← HL.out] at hseq
    generalize hX1 : wc.alloc (.cells #[.pointer (some ⟨g, 0, none⟩)] 43) = X1 at *
    clear hX1
    have hown : ∀ k, GpOwn g A k → k < w.heap.size := fun k hk => HOWN.out k hk
    refine range_priv rfl (by omega) (gf := 64) (lb := #[.pointer (some ⟨wc.heap.size, 0, none⟩)]) rfl trivial (enters_of Tryz.func64 (by kernel_rfl) rfl)
      hseq (Nat.le_refl _) (fun k hk => ⟨by rcases hk with rfl | hk; · omega
                                            · have := hown k hk; omega, rfl⟩) (fun _ => rfl)
      (fun pre f W => IsB (w.heap.size + 1) a (.slice X m c) l.length L pre W ∧ Below w.heap.size w W)
      (IsX w (w.heap.size + 1) a (.slice X m c) l.length L)
      (AbP.and (IsB.ab (by omega) (by omega)) (AbP.below (by omega) (Nat.le_refl _)))
      (fun c pre f f' A B hp ht hf => by
        obtain ⟨hc, ⟨p, x, h1, h2, h3⟩, hB⟩ := hp
        exact ⟨hc, ⟨p, x, h1, h2, IsB.ab (by omega) (by omega) p f f' A B h3 ht hf⟩, AbP.below (n₀ := w.heap.size) (β := Unit) (by omega) (Nat.le_refl _) () f f' A B hB ht hf⟩)
      ⟨⟨hyc3, hba3⟩, hB3⟩
      (fun x => { tmps := #[.agg #[.pointer (some ⟨g, 0, none⟩)], .slice X m c, .pointer (some ⟨w.heap.size, 0, none⟩), .pointer (some ⟨w.heap.size + 1, 0, none⟩), .bool false, .pointer (some ⟨a, 0, none⟩), .int .i64 x.1, .string ⟨x.2.toArray⟩, u8, u9, u10, u11, u12, u13, .pointer (some ⟨w.heap.size, 0, none⟩), .pointer (some ⟨g, 0, none⟩), .func (.func 64) #[] #[.pointer (some ⟨wc.heap.size, 0, none⟩)], .int .i64 x.1, .string ⟨x.2.toArray⟩, undef, undef, undef, undef, undef, undef, undef, undef, undef, undef, undef], defers := [] }) ?assign ?body ?done ?stop
    case assign =>
      intro l x W K hK
      simp only [encG]
      rw [put_two]
      gi_wp2
      exact hK
    case body =>
      rintro lo pre x f W hff hz ⟨hIB, hbW⟩ hlen hel
      have k0 := hIB.b0.cell
      have k1 := hIB.b1.cell
      have fz := hIB.b1.frozen
      have hxl : x.1 < l.length := (List.getElem?_eq_some_iff.1 hel).1
      have hsn := alk_snoc l.length L pre x
      have hnf : ¬ f a := fun hk => by
        rcases hff a hk with h' | h'
        · rcases h' with h' | h'
          · omega
          · have := hown _ h'; omega
        · omega
      have HNF := Lib.hid hnf
      have HIB := Lib.hid hIB
      have HBW := Lib.hid hbW
      have HSX := Lib.hid (HX.out.below hbW)
      generalize hav : alk l.length L pre = v at *
      have HAV := Lib.hid hav
      cases v
      · clear hIB hbW hav hsn hnf hff hel hlen hseq yg hb3 hyc hyc3 hba hba3 hB3
        gi_wp2
        exact ⟨KeepsFrom.refl _ _, rfl, ⟨pre, x, rfl, HAV.out, HIB.out⟩, HBW.out⟩
      · have hLl : l.length = L.length := by unfold alk at hav; simp only [decide_eq_true_eq] at hav; exact hav.1
        have hxL : x.1 < L.length := by omega
        obtain ⟨b, off, rfl, hbb, hcell⟩ := sv_at HSX.out hxL
        have hmx : (x.1 : Int) < m := by have := HM.out; omega
        have hcmp : (x.2 == L[x.1]) = decide (L[x.1]? = some x.2) := by
          rw [List.getElem?_eq_getElem hxL, Bool.eq_iff_iff]
          simp
          exact eq_comm
        generalize hu : decide (L[x.1]? = some x.2) = u at *
        have HSN := Lib.hid hsn
        rw [Bool.true_and] at hsn
        clear hIB hbW hav hnf hff hel hlen hseq yg hb3 hyc hyc3 hba hba3 hB3 hu hLl hxl
        cases u
        · have hset := HIB.out.b1.set (.bool false)
          have HSET := Lib.hid hset
          have hsn' : alk l.length L (pre ++ [x]) = false := hsn
          have HSN' := Lib.hid hsn'
          clear hsn hset hsn'
          gi_wp2
          exact ⟨(Rk.refl _ _ _).setCell HNF.out _, ⟨HIB.out.b0.other (by omega) _, by rw [HSN'.out]; exact HSET.out⟩, HBW.out.setCell (p := ⟨a, 0, none⟩) (by simp; omega) _⟩
        · have hsn' : alk l.length L (pre ++ [x]) = true := hsn
          have HSN' := Lib.hid hsn'
          clear hsn hsn'
          gi_wp2
          exact ⟨Rk.refl _ _ _, ⟨HIB.out.b0, by rw [HSN'.out, ← HAV.out]; exact HIB.out.b1⟩, HBW.out⟩
    case done =>
      rintro D ys f W hD rfl ⟨hIB, hB⟩ hK
      have hc := hIB.b1.cell
      have hfin : alk l.length L (ats l) = decide (p ++ s = L) := by rw [alk_all, HL.out]
      rw [hfin] at hc
      have HB := Lib.hid hB
      clear hIB hB hfin hseq yg hb3 hyc hyc3 hba hba3 hB3
      go_wp2
      refine ⟨by simp, .inl ⟨_, _, rfl, run_takeDeferred hK, ?_⟩⟩
      exact ⟨_, results_tmp rfl _ _ _, rfl, HB.out.trans (belowK_b (w := w) (Nat.le_refl _) W D _ _ (by omega) hK rfl rfl)⟩
    case stop =>
      rintro D c pre f W hD hpre ⟨rfl, ⟨p', x, hp, hpl, hIB⟩, hB⟩ hK
      have hc := hIB.b1.cell
      have hfin : alk l.length L p' = decide (p ++ s = L) := by
        rw [hpl, ← HL.out, ← alk_all]
        exact (alk_pre hpl ((List.prefix_append p' [x]).trans (hp ▸ hpre))).symm
      rw [hfin] at hc
      have HB := Lib.hid hB
      clear hIB hB hfin hseq yg hb3 hyc hyc3 hba hba3 hB3 hp hpl hpre
      gi_wp2
      go_wp2
      refine ⟨by simp, .inl ⟨_, _, rfl, run_takeDeferred hK, ?_⟩⟩
      exact ⟨_, results_tmp rfl _ _ _, rfl, HB.out.trans (belowK_b (w := w) (Nat.le_refl _) W D _ _ (by omega) hK rfl rfl)⟩
end Go.Proofs.YtfhfhjcdeeepbaaGreatDoor

namespace Go.Proofs.YtfhfhjcdeeepbaaGreatDoor
open Go.RowKit Go.Shelf Go.Sort
attribute [local go_sem] Oper.semAt_some
set_option linter.unusedVariables false
set_option linter.unusedSimpArgs false

/-- marks joined to a cluster -/
def jf (c : List UInt8) (xs : List Int) : List UInt8 := xs.foldl (fun d r => (joinB d r).1) c
def lead (xs : List Int) : List Int := xs.takeWhile fun r => !decide (0 < ofI r)
def jmk (c : List UInt8) (xs : List Int) : List UInt8 := jf c (lead xs)
theorem jf_snoc (c : List UInt8) (xs : List Int) (r : Int) : jf c (xs ++ [r]) = (joinB (jf c xs) r).1 := by simp [jf]
theorem joinB_isC {l : List UInt8} {r : Int} (h : isC l = true) : isC (joinB l r).1 = true := by
  unfold joinB
  split
  · next h2 =>
    obtain ⟨c, hw, rfl⟩ := gisC_inv h
    obtain ⟨hr, hm⟩ := mk_isR h2.2.1
    have hj := wf_jn hw hr hm
    have : jn c r = c ++ [r] := by
      unfold jn
      rw [if_neg]
      rintro (h3 | h3)
      · exact wf_ne hw h3
      · have := h2.2.2; omega
    rw [this] at hj
    have := gisC_wf hj
    rwa [eb_snoc] at this
  · exact h
theorem jf_isC (xs : List Int) : ∀ {l : List UInt8}, isC l = true → isC (jf l xs) = true := by
  induction xs with
  | nil => intro l h; exact h
  | cons r t ih => intro l h; exact ih (joinB_isC h)
theorem jf_nil (xs : List Int) : jf [] xs = [] := by
  induction xs with
  | nil => rfl
  | cons r t ih =>
    show jf (joinB [] r).1 t = []
    have : (joinB [] r).1 = [] := by unfold joinB; rw [if_neg (fun h => absurd h.1 (by decide))]
    rw [this]; exact ih
theorem jf_len {xs : List Int} {l : List UInt8} (h : l = [] ∨ isC l = true) : (jf l xs).length ≤ 64 := by
  rcases h with rfl | h
  · rw [jf_nil]; simp
  · exact isC_len (jf_isC xs h)
theorem lead_all {xs : List Int} (h : ∀ r ∈ xs, ¬ 0 < ofI r) : lead xs = xs := by
  unfold lead
  have := List.takeWhile_append_of_pos (l₁ := xs) (l₂ := []) (p := fun r => !decide (0 < ofI r)) (fun x hx => by simpa using h x hx)
  simpa using this
theorem lead_stop {p t : List Int} {r : Int} (h : ∀ r ∈ p, ¬ 0 < ofI r) (hr : 0 < ofI r) : lead (p ++ r :: t) = p := by
  unfold lead
  rw [List.takeWhile_append_of_pos (fun x hx => by simpa using h x hx), List.takeWhile_cons]
  simp [hr]
/-- what join leaves -/
def JoinP (w : World) (lo g : Nat) (A : Option Addr) (n C most f t : Nat) (l : List (List UInt8)) (d : Bool) (e : Ending) (w' : World) : Prop :=
  e = .returned (.bool d) ∧ (∃ p' s', p' ++ s' = l ∧ GpAt w' lo g A n C most f t p' s') ∧ Chg (GpOwn g A) w w'
theorem own_cells {w : World} {lo g n C most f t : Nat} {A : Option Addr} {p s : List (List UInt8)} (h : GpAt w lo g A n C most f t p s) : ∀ k o, GpOwn g A k → w.heap[k]? = some o → o.isCells = true := by
  intro k o hk ho
  rcases hk with rfl | hk
  · rw [show w.heap[k]? = _ from h.head] at ho
    cases ho; rfl
  · rcases h.all with ⟨rfl, _⟩ | ⟨ab, tl, rfl, _, _, hb, _⟩
    · cases hk
    · have : ab = k := by simpa [blk] using hk
      subst this
      rw [show w.heap[ab]? = _ from hb] at ho
      cases ho; rfl
def NoW (pre : List (Nat × Int)) : Prop := ∀ q ∈ pre, ¬ 0 < ofI q.2
def JI (w : World) (jb lb g : Nat) (old : List UInt8) (pre : List (Nat × Int)) (W : World) : Prop :=
  ((Boxed W jb 9 (.string ⟨(jf old (pre.map (·.2))).toArray⟩) ∧ Boxed W lb 45 (.pointer (some ⟨g, 0, none⟩))) ∧ NoW pre) ∧ Below w.heap.size w W
def JX (w : World) (jb lb g : Nat) (old : List UInt8) (c : Code) (pre : List (Nat × Int)) (W : World) : Prop :=
  c = .exit 0 ∧ ∃ p q, pre = p ++ [q] ∧ 0 < ofI q.2 ∧ JI w jb lb g old p W
set_option maxRecDepth 100000 in
set_option maxHeartbeats 8000000 in
theorem ljoin_core {w : World} {lo g n C most f t : Nat} {A : Option Addr} {p s : List (List UInt8)} (h : GpAt w lo g A n C most f t p s) (hT : Tabs w) (x : ByteArray) (hx : x.size ≤ 4000000) (old : List UInt8) (b : Bool) (c' : List UInt8) (l' : List (List UInt8)) (hold : old = [] ∨ isC old = true)
    (hc' : c' = jmk old (rs x.data.toList))
    (hAt : ∀ W, GpAt W lo g A n C most f t p s → Calls Tryz.prog 89 #[.pointer (some ⟨g, 0, none⟩), .int .i64 ((f : Int) - 1)] W fun e w' => e = .returned (.tuple #[.string ⟨old.toArray⟩, .bool b]) ∧ Below W.heap.size W w')
    (hRep : ∀ W, GpAt W lo g A n C most f t p s → Tabs W → Calls Tryz.prog 91 #[.pointer (some ⟨g, 0, none⟩), .int .i64 ((f : Int) - 1), .string ⟨c'.toArray⟩] W fun e w' => (∃ v, e = .returned v) ∧ (∃ p' s', p' ++ s' = l' ∧ GpAt w' lo g A n C most f t p' s') ∧ Chg (GpOwn g A) W w') :
    Calls Tryz.prog 69 #[.agg #[.pointer (some ⟨g, 0, none⟩)], .string x] w (JoinP w lo g A n C most f t l' (!decide (c' = old))) := by
  obtain ⟨hb0, hx0⟩ := line_box (w := w) (v := .pointer (some ⟨g, 0, none⟩))
  have G0 := Lib.hid (h.below hb0)
  have HB0 := Lib.hid hb0
  have HX0 := Lib.hid hx0
  have QAT := Lib.hid hAt
  have QREP := Lib.hid hRep
  have HT := Lib.hid (hT.below hb0)
  have HTW := Lib.hid hT
  have HOLD := Lib.hid hold
  have HC' := Lib.hid hc'
  have HG := Lib.hid h
  have hf4 : f ≤ 4096 := by have := h.lnf; have := h.ln_le; have := h.m4; omega
  have hdec : (!(c' == old)) = (!decide (c' = old)) := by rw [Bool.eq_iff_iff]; simp
  have HDEC := Lib.hid hdec
  clear h hb0 hx0 hAt hRep hT hold hc' hdec
  refine (callsIn_wide (n := 9)).1 ?_
  refine callsIn_of_wp_marks Tryz.func69 rfl trivial ?_ rfl
  simp only [Tryz.ntmps69, List.size_toArray, List.length_cons, List.length_nil, Nat.reduceAdd, Nat.reduceSub, Array.replicate_succ, Array.replicate_zero, List.push_toArray, List.append_toArray, List.nil_append, List.cons_append]
  refine wpIn_wide.2 ?_
  go_wp2_with (first
    | (go_at_call 26; refine (gcursor_any G0.out).mono ?_; rintro e w1 ⟨rfl, hb1⟩; have hk1 := Boxed.cell (box_bel HX0.out hb1); have G1 := Lib.hid (G0.out.below hb1); have HB1 := Lib.hid hb1; clear hb1)
    | (go_at_call 89; refine (QAT.out _ G1.out).mono ?_; rintro e w2 ⟨rfl, hb2⟩; have hk2 := Boxed.cell (box_bel (box_bel HX0.out HB1.out) hb2); have G2 := Lib.hid (G1.out.below hb2); have HB2 := Lib.hid hb2; clear hb2)
    | (go_at_call 83; refine (all_any _ _).mono ?_; rintro e w' ⟨rfl, rfl⟩))
  refine (wpIn_wide (n := 9)).1 ?_
  have hB2w : Below w.heap.size w w2 := HB0.out.trans ((HB1.out.trans (HB2.out.mono HB1.out.size)).mono HB0.out.size)
  have hL2 : Boxed w2 w.heap.size 45 (.pointer (some ⟨g, 0, none⟩)) := box_bel (box_bel HX0.out HB1.out) HB2.out
  have hB := (Boxed.new w2 9 (.string ⟨old.toArray⟩)).alloc (.cells #[.string x] 9)
  have hS := Boxed.new (w2.alloc (.cells #[.string ⟨old.toArray⟩] 9)) 9 (.string x)
  rw [World.size_alloc] at hS
  have hbX : Below w2.heap.size w2 ((w2.alloc (.cells #[.string ⟨old.toArray⟩] 9)).alloc (.cells #[.string x] 9)) := ((Below.refl _ w2).alloc (Nat.le_refl _) _).alloc (by simp) _
  have hLX := box_bel hL2 hbX
  have hB3 : Below w.heap.size w ((w2.alloc (.cells #[.string ⟨old.toArray⟩] 9)).alloc (.cells #[.string x] 9)) := hB2w.trans (hbX.mono hB2w.size)
  have hlb : w.heap.size < w2.heap.size := hL2.lt
  have hsz : ((w2.alloc (.cells #[.string ⟨old.toArray⟩] 9)).alloc (.cells #[.string x] 9)).heap.size = w2.heap.size + 2 := by simp
  generalize hX1 : (w2.alloc (.cells #[.string ⟨old.toArray⟩] 9)).alloc (.cells #[.string x] 9) = X1 at *
  clear hX1 hk1 hk2
  have hI : OwnFrom X1.heap.size (JI w w2.heap.size w.heap.size g old) :=
    OwnFrom.and (OwnFrom.and (OwnFrom.and (Own.from (boxed_own _ _ _) _) (Own.from (boxed_own _ _ _) _)) (fun _ _ _ _ hs _ _ => hs)) (ownFrom_below (Nat.le_refl _) (by omega))
  have HI := Lib.hid hI
  refine wpIn_rangeFunc_ownG rfl (by omega) (gf := 107) (lb := #[.pointer (some ⟨w2.heap.size + 1, 0, none⟩)]) rfl trivial (enters_of Tryz.func107 (by kernel_rfl) rfl)
    (all_stops 8 (by omega) (w2.heap.size + 1) w.heap.size x hx X1 hS.cell) KpS.t (KpS.b (by omega)) (Below.refl _ _) (fun _ => rfl)
    (JI w w2.heap.size w.heap.size g old)
    (JX w w2.heap.size w.heap.size g old)
    hI
    (fun c pre X Y row hs hg hr => by
      obtain ⟨h1, p, q, h2, h3, h4⟩ := hs
      exact ⟨h1, p, q, h2, h3, hI p X Y row h4 hg hr⟩)
    ⟨⟨⟨hB, hLX⟩, fun q hq => by cases hq⟩, hB3⟩
    (fun x_ => { tmps := #[.agg #[.pointer (some ⟨g, 0, none⟩)], .string x, .pointer (some ⟨w.heap.size, 0, none⟩), undef, .bool false, .int .i64 ((f : Int) - 1), .string ⟨old.toArray⟩, .bool b, .pointer (some ⟨w2.heap.size, 0, none⟩), undef, .int .i32 x_.2, .pointer (some ⟨w.heap.size, 0, none⟩), .pointer (some ⟨g, 0, none⟩), .int .i64 f, .int .i64 ((f : Int) - 1), .tuple #[.string ⟨old.toArray⟩, .bool b], .pointer (some ⟨w.heap.size, 0, none⟩), .pointer (some ⟨g, 0, none⟩), .int .i64 ((f : Int) - 1), .tuple #[.string ⟨old.toArray⟩, .bool b], .string ⟨old.toArray⟩, .bool b, .string ⟨old.toArray⟩, .string x, .func (.func 107) #[] #[.pointer (some ⟨w2.heap.size + 1, 0, none⟩)], .int .i64 x_.1, .int .i32 x_.2, undef, undef, undef, undef, undef, undef, undef, undef, undef, undef, undef, undef, undef, undef, undef, undef, undef], defers := [] }) ?assign ?body ?done ?stop
  case assign =>
    intro l x W K hK
    simp only [encR]
    rw [put_two]
    gi_wp2
    exact hK
  case body =>
    rintro lo_ pre q W ⟨⟨⟨hbj, hbl⟩, hpr⟩, hbW⟩ hlen
    have htW : Tabs W := HTW.out.below hbW
    have hof := of_any q.2 W htW
    have HOF := Lib.hid hof
    have HBJ := Lib.hid hbj
    have HBL := Lib.hid hbl
    have HPR := Lib.hid hpr
    have HBW := Lib.hid hbW
    have HTB := Lib.hid htW
    by_cases hpos : 0 < ofI q.2
    · have HPOS := Lib.hid hpos
      have hpos' : (ofI q.2) > 0 := hpos
      clear hof hbj hbl hpr hbW htW hB hS hLX hB3 hI hL2 hbX hB2w hpos
      gi_wp2
      refine ⟨trivial, ?_⟩
      refine (CallsIn.inRound lo_ (callsIn_wide.2 HOF.out)).mono ?_
      rintro e W3 ⟨rfl, hb3⟩
      gi_wp2
      exact ⟨(keeps_of_below hb3).from _, rfl, pre, q, rfl, HPOS.out, ⟨⟨box_bel HBJ.out hb3, box_bel HBL.out hb3⟩, HPR.out⟩, HBW.out.trans (hb3.mono HBW.out.size)⟩
    · have HPOS := Lib.hid hpos
      have hpos' : ¬ (ofI q.2) > 0 := hpos
      have hjl := jf_len (xs := pre.map (·.2)) HOLD.out
      have hjn := fun (V : World) (hV : Tabs V) => cjoin_any (jf old (pre.map (·.2))) (by omega) q.2 V hV
      have hsn : jf old ((pre ++ [q]).map (·.2)) = (joinB (jf old (pre.map (·.2))) q.2).1 := by rw [List.map_append]; exact jf_snoc _ _ _
      have HJN := Lib.hid hjn
      have HSN := Lib.hid hsn
      clear hof hbj hbl hpr hbW htW hB hS hLX hB3 hI hL2 hbX hB2w hpos hjn hsn hjl
      gi_wp2
      refine ⟨trivial, ?_⟩
      refine (CallsIn.inRound lo_ (callsIn_wide.2 HOF.out)).mono ?_
      rintro e W3 ⟨rfl, hb3⟩
      have k3 := (box_bel HBJ.out hb3).cell
      have HB3 := Lib.hid hb3
      clear hb3
      gi_wp2
      refine ⟨trivial, ?_⟩
      refine (CallsIn.inRound lo_ (callsIn_wide.2 (HJN.out W3 (HTB.out.below HB3.out)))).mono ?_
      rintro e W4 ⟨rfl, hb4⟩
      have hb34 := HB3.out.trans (hb4.mono HB3.out.size)
      have hb := box_bel HBJ.out hb34
      have k4 := hb.cell
      have f4 := hb.frozen
      have HB := Lib.hid hb
      have HB34 := Lib.hid hb34
      clear hb hb4 hb34 k3
      gi_wp2
      refine ⟨((keeps_of_below HB34.out).trans (KeepsOthers.setCell _ _ _)).from _, ⟨(HB34.out.mono HBW.out.size).setCell (p := ⟨w2.heap.size, 0, none⟩) (show w.heap.size ≤ w2.heap.size by omega) _, fun e => ?_⟩, ⟨⟨?_, (box_bel HBL.out HB34.out).other (by omega) _⟩, fun y hy => ?_⟩, (HBW.out.trans (HB34.out.mono HBW.out.size)).setCell (p := ⟨w2.heap.size, 0, none⟩) (show w.heap.size ≤ w2.heap.size by omega) _⟩
      · rw [World.cell?_setCell_other _ _ _ _ (by simp)]
        exact (HB34.out.cell (p := ⟨w2.heap.size + 1, 0, none⟩) (cell_lt' e)).trans e
      · rw [HSN.out]
        exact HB.out.set _
      · rcases List.mem_append.1 hy with hy | hy
        · exact HPR.out y hy
        · simp at hy; subst hy; have h9 := HPOS.out; show ¬ 0 < ofI y.2; omega
  case done =>
    rintro D ys W hD rfl ⟨⟨⟨hbj, hbl⟩, hpr⟩, hbW⟩ hK
    have hld : jf old ((rnsOf x.data.toList).map (·.2)) = c' := by
      rw [HC'.out]
      unfold jmk
      rw [lead_all (xs := rs x.data.toList) (fun r hr => by
        obtain ⟨q, hq, rfl⟩ := List.mem_map.1 hr
        exact hpr q hq)]
      rfl
    rw [hld] at hbj
    have HFIN := Lib.hid hbj
    have HBL := Lib.hid hbl
    have HBW := Lib.hid hbW
    have HTB := Lib.hid (HTW.out.below hbW)
    have kj := hbj.cell
    have kl := hbl.cell
    have hno : ¬ GpOwn g A w2.heap.size := fun e => by have := (HG.out.own_lt _ e).2; omega
    have hnD : ¬ GpOwn g A D := fun e => by have := (HG.out.own_lt _ e).2; omega
    have HNO := Lib.hid hno
    have HND := Lib.hid hnD
    have HK := Lib.hid hK
    clear hbj hbl hpr hbW hB hS hLX hB3 hI HI hL2 hbX hB2w hld hno hnD hK
    go_wp2_with (go_at_call 91; refine (QREP.out W (HG.out.below HBW.out) HTB.out).mono ?_; rintro e w5 ⟨⟨v, rfl⟩, hg5, hc5⟩; have k5 := hc5.cell (p := ⟨w2.heap.size, 0, none⟩) kj HNO.out; have HG5 := Lib.hid hg5; have HC5 := Lib.hid hc5; clear hg5 hc5)
    have hK5 : w5.heap[D]? = some (.deferred (some [])) := HC5.out.heap HK.out HND.out
    refine ⟨by simp, .inl ⟨_, _, rfl, run_takeDeferred hK5, ?_⟩⟩
    refine ⟨_, results_tmp rfl _ _ _, (by rw [← HDEC.out]; rfl), ?_, ?_⟩
    · obtain ⟨p', s', he, hg⟩ := HG5.out
      refine ⟨p', s', he, hg.same (fun k hk => ?_)⟩
      exact (grownBy_putObj' w5 D (.deferred none)).block k (hg.own_lt k hk).2 (fun e => HND.out (by injection e with e; subst e; exact hk))
    · exact ((Chg.of_below HBW.out).trans HC5.out (fun _ h => .inl h)).grown (grownBy_putObj' w5 D (.deferred none)) (fun k e => .inr (by injection e with e; omega))
  case stop =>
    rintro D c pre W hD hpre ⟨rfl, p', q, hp, hpos, ⟨⟨hbj, hbl⟩, hpr⟩, hbW⟩ hK
    have hld : jf old (p'.map (·.2)) = c' := by
      rw [HC'.out]
      unfold jmk
      obtain ⟨t', ht⟩ := hpre
      have e1 : rs x.data.toList = p'.map (·.2) ++ q.2 :: t'.map (·.2) := by
        unfold rs
        rw [← ht, hp]
        simp
      rw [e1, lead_stop (fun r hr => by
        obtain ⟨q, hq, rfl⟩ := List.mem_map.1 hr
        exact hpr q hq) hpos]
    rw [hld] at hbj
    clear hp hpos hpre
    have HFIN := Lib.hid hbj
    have HBL := Lib.hid hbl
    have HBW := Lib.hid hbW
    have HTB := Lib.hid (HTW.out.below hbW)
    have kj := hbj.cell
    have kl := hbl.cell
    have hno : ¬ GpOwn g A w2.heap.size := fun e => by have := (HG.out.own_lt _ e).2; omega
    have hnD : ¬ GpOwn g A D := fun e => by have := (HG.out.own_lt _ e).2; omega
    have HNO := Lib.hid hno
    have HND := Lib.hid hnD
    have HK := Lib.hid hK
    clear hbj hbl hpr hbW hB hS hLX hB3 hI HI hL2 hbX hB2w hld hno hnD hK
    gi_wp2
    go_wp2_with (go_at_call 91; refine (QREP.out W (HG.out.below HBW.out) HTB.out).mono ?_; rintro e w5 ⟨⟨v, rfl⟩, hg5, hc5⟩; have k5 := hc5.cell (p := ⟨w2.heap.size, 0, none⟩) kj HNO.out; have HG5 := Lib.hid hg5; have HC5 := Lib.hid hc5; clear hg5 hc5)
    have hK5 : w5.heap[D]? = some (.deferred (some [])) := HC5.out.heap HK.out HND.out
    refine ⟨by simp, .inl ⟨_, _, rfl, run_takeDeferred hK5, ?_⟩⟩
    refine ⟨_, results_tmp rfl _ _ _, (by rw [← HDEC.out]; rfl), ?_, ?_⟩
    · obtain ⟨p', s', he, hg⟩ := HG5.out
      refine ⟨p', s', he, hg.same (fun k hk => ?_)⟩
      exact (grownBy_putObj' w5 D (.deferred none)).block k (hg.own_lt k hk).2 (fun e => HND.out (by injection e with e; subst e; exact hk))
    · exact ((Chg.of_below HBW.out).trans HC5.out (fun _ h => .inl h)).grown (grownBy_putObj' w5 D (.deferred none)) (fun k e => .inr (by injection e with e; omega))
/-- the clusters ahead of the cursor behind a join -/
def joinP (p : List (List UInt8)) (xs : List Int) : List (List UInt8) := match p.getLast? with
  | none => p
  | some c => p.dropLast ++ [jmk c xs]
theorem joinP_length (p : List (List UInt8)) (xs : List Int) : (joinP p xs).length = p.length := by
  unfold joinP
  split
  · rfl
  · next c h =>
    have : p ≠ [] := by rintro rfl; cases h
    have := List.length_pos_iff.2 this
    rw [List.length_append, List.length_dropLast]
    simp
    omega
set_option maxHeartbeats 2000000 in
theorem ljoin_any {w : World} {lo g n C most f t : Nat} {A : Option Addr} {p s : List (List UInt8)} (h : GpAt w lo g A n C most f t p s) (hT : Tabs w) (x : ByteArray) (hx : x.size ≤ 4000000) :
    Calls Tryz.prog 69 #[.agg #[.pointer (some ⟨g, 0, none⟩)], .string x] w fun e w' => e = .returned (.bool (!decide (joinP p (rs x.data.toList) = p))) ∧ GpAt w' lo g A n C most f t (joinP p (rs x.data.toList)) s ∧ Chg (GpOwn g A) w w' := by
  have hfp := h.fp
  rcases List.eq_nil_or_concat p with rfl | ⟨q, c, rfl⟩
  · have hf0 : f = 0 := by simpa using hfp.symm
    subst hf0
    have hj : jmk [] (rs x.data.toList) = [] := jf_nil _
    refine (ljoin_core h hT x hx [] false [] ([] ++ s) (.inl rfl) hj.symm (fun W hW => ?_) (fun W hW hTW => ?_)).mono ?_
    · exact gat_no hW _ (by unfold hasB; simp)
    · refine (greplace_no hW _ [] (by unfold hasB; simp)).mono ?_
      rintro e w' ⟨rfl, hb⟩
      exact ⟨⟨_, rfl⟩, ⟨[], s, rfl, hW.below hb⟩, Chg.of_below hb⟩
    · rintro e w' ⟨rfl, ⟨p', s', he, hg⟩, hc⟩
      have hp' : p' = [] := List.eq_nil_of_length_eq_zero hg.fp
      subst hp'
      obtain rfl : s' = s := by simpa using he
      exact ⟨ret_bool (by simp [joinP]), hg, hc⟩
  · rw [List.concat_eq_append] at *
    have hfl : f = q.length + 1 := by rw [← hfp]; simp
    have hci : isC c = true := h.is c (by simp)
    have hlen : c.length ≤ 64 := isC_len hci
    have hL : q.length < ln (q ++ [c]) s := by unfold ln; simp; omega
    have hget : ((q ++ [c]) ++ s)[q.length]? = some c := by simp
    have hset : ((q ++ [c]) ++ s).set q.length (jmk c (rs x.data.toList)) = (q ++ [jmk c (rs x.data.toList)]) ++ s := by simp
    have hji : isC (jmk c (rs x.data.toList)) = true := jf_isC _ hci
    have hjl := isC_len hji
    have hidx : ((f : Int) - 1) = (q.length : Int) := by omega
    refine (ljoin_core h hT x hx c true (jmk c (rs x.data.toList)) ((q ++ [jmk c (rs x.data.toList)]) ++ s) (.inr hci) rfl (fun W hW => ?_) (fun W hW hTW => ?_)).mono ?_
    · rw [hidx]; exact gat_yes hW _ c hget
    · rw [hidx]
      refine (greplace_ok hW hTW q.length (jmk c (rs x.data.toList)) hL (by omega) hji).mono ?_
      rintro e w' ⟨rfl, p', s', he, hg, hc⟩
      exact ⟨⟨_, rfl⟩, ⟨p', s', by rw [he, hset], hg⟩, hc⟩
    · rintro e w' ⟨rfl, ⟨p', s', he, hg⟩, hc⟩
      have hpl : p'.length = (q ++ [jmk c (rs x.data.toList)]).length := by rw [hg.fp, hfl]; simp
      obtain ⟨rfl, rfl⟩ := List.append_inj he hpl
      have hjp : joinP (q ++ [c]) (rs x.data.toList) = q ++ [jmk c (rs x.data.toList)] := by simp [joinP]
      rw [hjp]
      exact ⟨ret_bool (by rw [Bool.eq_iff_iff]; simp), hg, hc⟩
end Go.Proofs.YtfhfhjcdeeepbaaGreatDoor

