/-
  Walks: lines, and the iterator that it hands back.
  Walk: Fork.
  Plain mathematics of widths: the ranges, and what a rune is. No program is named here.
  Walks: the iterators over the ranges of marks and of wide runes.
  Walks: width.within, over whatever iterator of ranges.
  Walks: width.Control, Mark, Wide, Of, and the reference's.
  Walks: what an invalid grid answers: Scroll, Resize, Fork (as in GrNot, for programs without Same).
  Walks: the reference's ranges.
  Walks: the reference's Mark, Wide, Of.
  Plain mathematics of Sum and Fit. No program is named here.
-/
import Derived.RangeFuncNested
import Derived.RangeFuncBound
import Derived.RangeFuncCalls
import Derived.RangeFuncLeaves
import Derived.Shelf.Abstract
import Derived.Shelf.RegionOpen
import Derived.OwnWalkIn
import Derived.TacticsInMore
import Derived.LoopNIn
import Derived.LoopIn
import Derived.IntWalk
import Derived.Stop.RegionWithIn
import Derived.Test.YtfmkeeaenjeneaaGreatDoorGfA
import Derived.Test.YtfmkeeaenjeneaaGreatDoorGfG
import Derived.Test.YtfmkeeaenjeneaaGreatDoorRows
import Derived.RangeFuncWrites
import Derived.Outline
import Derived.WalkSpells
import Derived.WalkLawsBesides
namespace Go.Proofs.YtfmkeeaenjeneaaGreatDoor
open Go.RowKit Go.Shelf
attribute [local go_sem] Oper.semAt_some
set_option linter.unusedVariables false
set_option linter.unusedSimpArgs false

/-- the rows' numbers and blocks -/
def lns (bs : List Nat) : List (Nat × Nat) := bs.zipIdx.map fun x => (x.2, x.1)
theorem lns_length (bs : List Nat) : (lns bs).length = bs.length := by simp [lns]
theorem lns_get {bs : List Nat} {k : Nat} (h : k < bs.length) : (lns bs)[k]? = some (k, bs[k]) := by
  simp [lns, List.getElem?_zipIdx, List.getElem?_eq_getElem h]
def encL (W : Nat) (x : Nat × Nat) : Array Value := #[.int .i64 x.1, rowV W x.2]

set_option maxHeartbeats 400000 in
theorem lines_any (p : Option Addr) (w : World) : Calls Tryz.prog 61 #[.pointer p] w fun e w' =>
    e = .returned (.func (.func 88) #[] #[.pointer (some ⟨w.heap.size, 0, none⟩)]) ∧ w' = w.alloc (.cells #[.pointer p] 52) := by
  go_enter Tryz.func61, Tryz.ntmps61
  go_wp2
  go_ret
  exact ⟨rfl, rfl⟩

set_option maxRecDepth 100000 in
set_option maxHeartbeats 4000000 in
theorem lines_stops (B g rb WW : Nat) (bs : List Nat) (h5 : bs.length ≤ 500) (f0 : Nat → Prop) (w : World) (hB : w.cell? ⟨B, 0, none⟩ = some (.pointer (some ⟨g, 0, none⟩))) (hg : w.cell? ⟨g, 0, none⟩ = some (.pointer (some ⟨g, 0, none⟩)))
    (hs : w.cell? ⟨g, 1, none⟩ = some (.slice (some ⟨rb, 0, none⟩) bs.length bs.length)) (hr : ∀ (k b : Nat), bs[k]? = some b → w.cell? ⟨rb, k, none⟩ = some (rowV WW b))
    (f1 : f0 B) (f2 : f0 g) (f3 : f0 rb) :
    SeqP Fence.wide 8 Tryz.prog 88 #[.pointer (some ⟨B, 0, none⟩)] (encL WW) f0 (fun x => bs[x.1]? = some x.2) (fun ys => ys = lns bs) (fun pre => pre <+: lns bs) bs.length w := by
  intro l J Jx W hsz hf0 hJ hJx hY h0
  have hfacts : ∀ wr : World, (∀ j, f0 j → wr.heap[j]? = W.heap[j]?) → wr.cell? ⟨B, 0, none⟩ = some (.pointer (some ⟨g, 0, none⟩)) ∧ wr.cell? ⟨g, 0, none⟩ = some (.pointer (some ⟨g, 0, none⟩)) ∧
      wr.cell? ⟨g, 1, none⟩ = some (.slice (some ⟨rb, 0, none⟩) bs.length bs.length) ∧ ∀ (k b : Nat), bs[k]? = some b → wr.cell? ⟨rb, k, none⟩ = some (rowV WW b) := fun wr h => by
    have e : ∀ b o v, f0 b → w.cell? ⟨b, o, none⟩ = some v → wr.cell? ⟨b, o, none⟩ = some v := fun b o v hb hv =>
      (World.cell?_of_block (w := w) (a := ⟨b, o, none⟩) ((h b hb).trans (hf0 b hb))).trans hv
    exact ⟨e _ _ _ f1 hB, e _ _ _ f2 hg, e _ _ _ f2 hs, fun k b hb => e _ _ _ f3 (hr k b hb)⟩
  have HF := Lib.hid hfacts
  have HY := Lib.hid hY
  have H0 := Lib.hid h0
  have HJ := Lib.hid hJ
  clear hfacts hY h0 hJ hJx hf0 hB hg hs hr f1 f2 f3
  refine callsIn_of_wp Tryz.func88 rfl trivial ?_ rfl
  simp only [Tryz.ntmps88, List.size_toArray, List.length_cons, List.length_nil, Nat.reduceAdd, Nat.reduceSub, Array.replicate_succ, Array.replicate_zero, List.push_toArray, List.append_toArray, List.nil_append, List.cons_append]
  obtain ⟨c1, c2, c3, c4⟩ := HF.out W (fun _ _ => rfl)
  gi_wp2_with (refine ⟨trivial, ?_⟩; gi_at_call 59; refine (callsIn_wide.2 (made_yes g _ c2)).mono ?_; rintro e w' ⟨rfl, rfl⟩)
  clear c1 c2 c3 c4
  gi_loopw [13] (fun v13 wr => ∃ k : Nat, v13 = .int .i64 k ∧ k ≤ bs.length ∧ J ((lns bs).take k) f0 wr ∧ (∀ j, f0 j → wr.heap[j]? = W.heap[j]?)) (fun v13 _ => bs.length - (intOf v13).toNat)
  case atStart => exact ⟨0, rfl, by omega, H0.out, fun _ _ => rfl⟩
  case round =>
    obtain ⟨k, rfl, hk, hj, hf⟩ := hrel
    have HJp := Lib.hid hj
    have HFF := Lib.hid hf
    clear hj hf
    by_cases hlt : k < bs.length
    · have hki : (k : Int) < bs.length := by omega
      have hb : bs[k]? = some bs[k] := List.getElem?_eq_getElem hlt
      have hx := lns_get hlt
      obtain ⟨c1, c2, c3, c4⟩ := HF.out _ HFF.out
      have hrow := c4 k _ hb
      have htk : (lns bs).take (k + 1) = (lns bs).take k ++ [(k, bs[k])] := by
        rw [List.take_add_one, hx]; rfl
      have hlk : ((lns bs).take k).length < bs.length := by rw [List.length_take, lns_length]; omega
      have hyy := HY.out _ (k, bs[k]) f0 _ HJp.out hlk hb
      generalize bs[k] = b at hb hx hrow htk hyy
      have HTK := Lib.hid htk
      have HPX : Hid ((lns bs).take k ++ [(k, b)] <+: lns bs) := by show _ <+: _; rw [← htk]; exact List.take_prefix _ _
      obtain ⟨fn, tmps, assign, body, hy, hR⟩ := hyy
      simp only [encL, rowV] at hy
      unfold rowV at hrow
      clear c4 hx htk hlk hb
      gi_wp2
      refine hR.mono ?_
      rintro e W3 (⟨rfl, hJ3, hk3⟩ | ⟨rfl, hJ3, hk3⟩)
      · have hJ4 : J ((lns bs).take (k + 1)) f0 W3 := by rw [HTK.out]; exact hJ3
        have hf4 : ∀ j, f0 j → W3.heap[j]? = W.heap[j]? := fun j hj => (hk3.mine j hj).trans (HFF.out j hj)
        gi_wp2
        exact ⟨⟨k + 1, by go_num, by omega, hJ4, hf4⟩, by simp only [intOf]; omega⟩
      · gi_wp2
        refine bodyPost_ret (results_none rfl _ _ _) rfl ?_
        exact ⟨⟨_, rfl⟩, .inr ⟨_, f0, HPX.out, hJ3⟩⟩
    · have hki : ¬ (k : Int) < bs.length := by omega
      have hfin := HJp.out
      rw [List.take_of_length_le (by rw [lns_length]; omega)] at hfin
      gi_wp2
      go_end0
      first | exact ⟨⟨_, rfl⟩, .inl ⟨_, f0, rfl, hfin⟩⟩ | exact ⟨⟨_, rfl⟩, .inl ⟨f0, hfin⟩⟩
end Go.Proofs.YtfmkeeaenjeneaaGreatDoor

namespace Go.Proofs.YtfmkeeaenjeneaaGreatDoor
open Go.RowKit Go.Shelf
attribute [local go_sem] Oper.semAt_some
set_option linter.unusedVariables false
set_option linter.unusedSimpArgs false

theorem Chg.of_turn {b : Nat} {f : Nat → Prop} {A B : World} (h : Turn b f A B) : Chg (fun k => b ≤ k) A B :=
  ⟨h.os, h.tape, h.output, h.size, fun k hk hn => by rw [Array.getElem?_eq_getElem hk]; exact h.block k _ (Array.getElem?_eq_getElem hk) (.inl (by omega))⟩

/-- builtin copy in a round -/
theorem wpListIn_copy_k {F : Fence} {n : Nat} {P : Program} {w : World} {ops : Array Oper} {rest : List Oper} {o : Oper} {a : Act} {Q : Exit → Act → World → Prop} (hgd : o.guard = none) (d s : Operand) (dT sT : TypeId)
    (ho : o.op = .call { callee := .builtin .copy, args := #[d, s], argTypes := #[dT, sT] }) (elem : TypeId) (sz : Nat) (hu : P.underlying dT = some (.slice elem)) (hs : (P.info? elem).map (·.size) = some sz)
    (dp sp : Option Addr) (dLen dCap sLen sCap : Nat) (hd : a.eval d = .slice dp dLen dCap) (hsp : a.eval s = .slice sp sLen sCap) (g off : Nat) (t : TypeId) (cur : List Value) (hb : Blk w g t cur) (cs : List Value) (k : Nat) (hk : k = Nat.min sLen dLen) (hc : cs.length = k * sz)
    (hpos : 0 < k → dp = some ⟨g, off, none⟩ ∧ ∃ ad, sp = some ad ∧ ∀ j v, cs[j]? = some v → w.cell? (ad.add j) = some v) (hfit : off + cs.length ≤ cur.length) (h1 : ∀ v ∈ cs, v.oneCell' = true)
    (h : ∀ w', Blk w' g t (splice cur off cs) → w.grownBy w' (some g) → wpListIn F n P ops Q rest (a.put o.dst (.int .i64 k)) w') : wpListIn F n P ops Q (o :: rest) a w := by
  obtain ⟨w', hrun, h2, h3⟩ := run_copy_any (P := P) w dT sT o.type elem sz hu hs dp sp dLen dCap sLen sCap g off t cur hb cs k hk hc hpos hfit h1
  refine wpListIn_plain hgd fun K hK' => ?_
  unfold Oper.wpIn
  refine ⟨?_, ?_⟩
  · simp [Oper.about, ho, resolve, Target.leads, Sem.run_pure]
  · rw [Oper.semAt_plain F _ _ (by rw [ho]; intro c hc'; cases hc')]
    simp [execOp, ho, resolve, invoke, builtin, hd, hsp, hrun, Result.andThen]
    exact hK' _ _ (h w' h2 h3)

theorem splice_full (l m : List Cl) (h : l.length = m.length) : splice (rc l) 0 (rc m) = rc m := by
  have := rc_splice_list l m 0
  rw [Nat.zero_mul] at this
  rw [this]
  unfold splice
  rw [List.take_zero, List.nil_append, Nat.zero_add, List.drop_eq_nil_of_le (by omega), List.append_nil]

theorem tdN (w : World) (n : Nat) : Below w.heap.size w (w.drewN n) := ⟨rfl, rfl, rfl, Nat.le_refl _, fun _ _ => rfl⟩
theorem blankG_len (W H : Nat) : (blankG W H).length = H := by simp [blankG]

set_option maxRecDepth 100000 in
set_option maxHeartbeats 4000000 in
theorem fork_any {w : World} {lo g rb W : Nat} {bs : List Nat} {L : List (List Cl)} (h : GrAt w lo g rb bs W L) (hT : BlankT w) :
    Calls Tryz.prog 30 #[.pointer (some ⟨g, 0, none⟩)] w fun e w' => ∃ g2 rb2 bs2, e = .returned (.pointer (some ⟨g2, 0, none⟩)) ∧ GrAt w' w.heap.size g2 rb2 bs2 W L ∧ Below w.heap.size w w' := by
  have hh5 := h.h5
  have hh1 := h.h1
  have hw5 := h.w5
  have hw1 := h.w1
  have HG := Lib.hid h
  have HT := Lib.hid hT
  clear h hT
  refine (callsIn_wide (n := 9)).1 ?_
  refine callsIn_of_wp_marks Tryz.func30 rfl trivial ?_ rfl
  simp only [Tryz.ntmps30, List.size_toArray, List.length_cons, List.length_nil, Nat.reduceAdd, Nat.reduceSub, Array.replicate_succ, Array.replicate_zero, List.push_toArray, List.append_toArray, List.nil_append, List.cons_append]
  refine wpIn_wide.2 ?_
  go_wp2_with (fail)
  refine (size_any HG.out).mono ?_
  rintro e w0 ⟨rfl, n0, rfl⟩
  go_wp2_with (fail)
  refine (new_ok W L.length hw1 hw5 hh1 hh5 (w.drewN n0) (HT.out.bel (tdN w n0))).mono ?_
  rintro e w1 ⟨g2, rb2, bs2, rfl, hg2, hb1⟩
  have hg2' : GrAt w1 w.heap.size g2 rb2 bs2 W (blankG W L.length) := hg2
  have hb1' : Below w.heap.size w w1 := (tdN w n0).trans hb1
  have HF := Lib.hid hg2'
  have HB1 := Lib.hid hb1'
  have HX1 := Lib.hid (Boxed.new w1 52 (.pointer (some ⟨g2, 0, none⟩)))
  clear hg2 hg2' hb1 hb1'
  go_wp2_with (go_at_call 61; refine (lines_any _ _).mono ?_; rintro e w' ⟨rfl, rfl⟩)
  refine (wpIn_wide (n := 9)).1 ?_
  have hbv : Below w1.heap.size w1 ((w1.alloc (.cells #[.pointer (some ⟨g2, 0, none⟩)] 52)).alloc (.cells #[.pointer (some ⟨g, 0, none⟩)] 52)) := ((Below.refl _ w1).alloc (Nat.le_refl _) _).alloc (by simp) _
  have hwb : Below w.heap.size w ((w1.alloc (.cells #[.pointer (some ⟨g2, 0, none⟩)] 52)).alloc (.cells #[.pointer (some ⟨g, 0, none⟩)] 52)) := HB1.out.trans (hbv.mono HB1.out.size)
  have hbx : Boxed ((w1.alloc (.cells #[.pointer (some ⟨g2, 0, none⟩)] 52)).alloc (.cells #[.pointer (some ⟨g, 0, none⟩)] 52)) (w1.heap.size + 1) 52 (.pointer (some ⟨g, 0, none⟩)) := by
    have := Boxed.new (w1.alloc (.cells #[.pointer (some ⟨g2, 0, none⟩)] 52)) 52 (.pointer (some ⟨g, 0, none⟩))
    simpa using this
  have hx1 : Boxed ((w1.alloc (.cells #[.pointer (some ⟨g2, 0, none⟩)] 52)).alloc (.cells #[.pointer (some ⟨g, 0, none⟩)] 52)) w1.heap.size 52 (.pointer (some ⟨g2, 0, none⟩)) := Boxed.alloc HX1.out _
  have hgl := HG.out.own_lt g (.inl rfl)
  have hrl := HG.out.own_lt rb (.inr (.inl rfl))
  have HGB := HG.out.below hwb
  have HFB := HF.out.below hbv
  have HOWN := Lib.hid HF.out.own_lt
  have HLOW := Lib.hid HF.out.lo
  have hszw : ((w1.alloc (.cells #[.pointer (some ⟨g2, 0, none⟩)] 52)).alloc (.cells #[.pointer (some ⟨g, 0, none⟩)] 52)).heap.size = w1.heap.size + 2 := by simp
  have HSZ := Lib.hid hszw
  have hws := HB1.out.size
  have hf0lt : ∀ k, (k < w.heap.size ∨ k = w1.heap.size + 1) → k < ((w1.alloc (.cells #[.pointer (some ⟨g2, 0, none⟩)] 52)).alloc (.cells #[.pointer (some ⟨g, 0, none⟩)] 52)).heap.size := fun k hk => by
    have h2 := HSZ.out
    rcases hk with h | h <;> omega
  clear hszw
  refine range_priv rfl (by omega) (gf := 88) (lb := #[.pointer (some ⟨w1.heap.size + 1, 0, none⟩)]) rfl trivial (enters_of Tryz.func88 (by kernel_rfl) rfl)
    (lines_stops (w1.heap.size + 1) g rb W bs (by rw [HG.out.len]; exact hh5) (fun k => k < w.heap.size ∨ k = w1.heap.size + 1) _ hbx.cell HGB.ptr (by rw [HG.out.len]; exact HGB.rws) (fun k b hb => by rw [HGB.rows.cell, List.getElem?_map, hb]; rfl) (.inr rfl) (.inl hgl) (.inl hrl))
    (Nat.le_refl _) (fun k hk => ⟨hf0lt k hk, rfl⟩) (fun _ => rfl)
    (fun pre f X => Boxed X w1.heap.size 52 (.pointer (some ⟨g2, 0, none⟩)) ∧ (∃ L', L'.length = L.length ∧ GrAt X w.heap.size g2 rb2 bs2 W L' ∧ ∀ x ∈ pre, L'[x.1]? = L[x.1]?) ∧ Below w.heap.size w X)
    (fun c pre f X => False ∧ Below w.heap.size w X)
    (AbP.and (AbP.boxed (fun _ => .pointer (some ⟨g2, 0, none⟩)) (by rw [HSZ.out]; omega)) (AbP.and (fun pre f f' A B hp ht _ => by
      obtain ⟨L', h1, h2, h3⟩ := hp
      exact ⟨L', h1, h2.keep (Chg.of_turn ht) (fun k hk => by have := HOWN.out k hk; have := HSZ.out; omega), h3⟩) (AbP.below (by rw [HSZ.out]; omega) (Nat.le_refl _))))
    (fun _ => AbP.and (AbP.none _) (AbP.below (by rw [HSZ.out]; omega) (Nat.le_refl _)))
    ⟨hx1, ⟨blankG W L.length, blankG_len _ _, HFB, fun x hx => by simp at hx⟩, hwb⟩
    (fun x => { tmps := #[.pointer (some ⟨g, 0, none⟩), undef, .pointer none, .pointer (some ⟨w1.heap.size, 0, none⟩), .int .i64 0, .int .i64 x.1, .slice (some ⟨x.2, 0, none⟩) W W,
      .tuple #[.pointer (some ⟨g2, 0, none⟩), .int .i64 0], .pointer (some ⟨g, 0, none⟩), .tuple #[.int .i64 W, .int .i64 L.length], .int .i64 W, .int .i64 L.length, .tuple #[.pointer (some ⟨g2, 0, none⟩), .int .i64 0],
      .pointer (some ⟨g2, 0, none⟩), .int .i64 0, .int .i64 0, .bool false, .pointer (some ⟨g, 0, none⟩), .func (.func 88) #[] #[.pointer (some ⟨w1.heap.size + 1, 0, none⟩)],
      .int .i64 x.1, .slice (some ⟨x.2, 0, none⟩) W W, undef, undef, undef, undef, undef, undef, undef, undef, undef, undef], defers := [] }) ?assign ?body ?done ?stop
  case assign =>
    intro l x X K hK
    simp only [encL, rowV]
    gi_wp2
    exact hK
  case body =>
    rintro l pre x f X hf hz ⟨hb1, ⟨L', hL', hgx, hp⟩, hbW⟩ hlen hel
    have hxl : x.1 < L.length := by have := (List.getElem?_eq_some_iff.1 hel).1; have := HG.out.len; omega
    have HX := HG.out.below hbW
    obtain ⟨b, l1, hbi, hl1, hrv, hlen1, hwf1, hbl⟩ := HX.at_ hxl
    obtain rfl : b = x.2 := by rw [hel] at hbi; injection hbi with hbi; exact hbi.symm
    obtain ⟨b2, l2, hbi2, hl2, hrv2, hlen2, _, hbl2⟩ := hgx.at_ (i := x.1) (by rw [hL']; exact hxl)
    have hs2 := hgx.rws
    unfold rowV at hrv2
    have hx2i : (x.1 : Int) < L'.length := by omega
    have hc := hb1.cell
    have hown2 : GrOwn g2 rb2 bs2 b2 := .inr (.inr (List.mem_of_getElem? hbi2))
    have hnf : ¬ f b2 := fun hk => by
      have h1 := HOWN.out b2 hown2
      have h2 := HLOW.out b2 hown2
      have h3 := HSZ.out
      rcases hf _ hk with h | h
      · rcases h with h | h <;> omega
      · omega
    have hflt : ∀ k, f k → k < X.heap.size := fun k hk => by
      have h2 := HSZ.out
      have h3 := hbW.size
      rcases hf k hk with h | h
      · rcases h with h | h <;> omega
      · omega
    have hne : w1.heap.size ≠ b2 := fun e => by have h1 := HOWN.out b2 hown2; omega
    have hb2w : w.heap.size ≤ b2 := HLOW.out b2 hown2
    have HP := Lib.hid hp
    have HB1 := Lib.hid hb1
    have HBW := Lib.hid hbW
    have HGX := Lib.hid hgx
    have HFF := Lib.hid hflt
    have HNF := Lib.hid hnf
    have HL1 := Lib.hid hl1
    have HL2 := Lib.hid hl2
    have HBI2 := Lib.hid hbi2
    have HBL := Lib.hid hbl
    have HBL2 := Lib.hid hbl2
    have HLL := Lib.hid hL'
    have HEN1 := Lib.hid hlen1
    have HEN2 := Lib.hid hlen2
    have HWF := Lib.hid hwf1
    have HNE := Lib.hid hne
    clear hp hb1 hbW hgx hflt hnf hf hel hbi hbi2 hlen1 hlen2 hbl hbl2 hl1 hl2 HX hrv hlen hL' hown2 hne hwf1
    obtain ⟨w4, hrun, hn4, hg4⟩ := run_copy_any (P := Tryz.prog) X 78 78 3 83 7 Tryz.underlying78 cl_size (some ⟨b2, 0, none⟩) (some ⟨x.2, 0, none⟩) W W W W b2 0 83 (rc l2) HBL2.out (rc l1) W (by show W = min W W; omega) (by rw [rc_length, HEN1.out]) (fun _ => ⟨rfl, _, rfl, fun j v hv => by rw [Addr.add_mid, Nat.zero_add]; exact (HBL.out.cell j).trans hv⟩) (by rw [rc_length, rc_length, HEN1.out, HEN2.out]; omega) (rc_one _)
    rw [splice_full _ _ (by rw [HEN1.out, HEN2.out])] at hn4
    have HN4 := Lib.hid hn4
    have HG4 := Lib.hid hg4
    clear hn4 hg4
    gi_wp2
    have hn4 := HN4.out
    have hg4 := HG4.out
    have hch := chg_of_grown hg4
    refine ⟨Rk.grown (Rk.refl _ f X) hg4 HFF.out (fun k hk => ?_), ?_, ⟨L'.set x.1 l1, by rw [List.length_set]; exact HLL.out, HGX.out.set HBI2.out hch HEN1.out HWF.out hn4, ?_⟩, HBW.out.grown hg4 HBW.out.size (fun k hk => ?_)⟩
    · injection hk with hk
      subst hk
      refine ⟨HNF.out, fun o ho => ?_⟩
      rw [HBL2.out] at ho
      injection ho with ho
      subst ho
      rfl
    · exact (hg4.block _ HB1.out.lt (fun e => HNE.out (Option.some.inj e))).trans HB1.out
    · intro y hy
      rcases List.mem_append.1 hy with hy | hy
      · by_cases e : x.1 = y.1
        · rw [← e, List.getElem?_set_self (by rw [HLL.out]; exact hxl)]
          exact HL1.out.symm
        · rw [List.getElem?_set_ne e]
          exact HP.out y hy
      · simp at hy
        subst hy
        rw [List.getElem?_set_self (by rw [HLL.out]; exact hxl)]
        exact HL1.out.symm
    · injection hk with hk
      omega
  case done =>
    rintro D ys f X hD rfl ⟨hb1, ⟨L', hL', hgx, hp⟩, hbW⟩ hK
    have hLL : L' = L := by
      apply List.ext_getElem?
      intro i
      by_cases hi : i < bs.length
      · exact hp _ (List.mem_of_getElem? (lns_get hi))
      · have e1 := HG.out.len
        rw [List.getElem?_eq_none (by omega), List.getElem?_eq_none (by omega)]
    subst hLL
    have hc := hb1.cell
    have HGX := Lib.hid hgx
    have HBW := Lib.hid hbW
    have HKK := Lib.hid hK
    have hDs : ((w1.alloc (.cells #[.pointer (some ⟨g2, 0, none⟩)] 52)).alloc (.cells #[.pointer (some ⟨g, 0, none⟩)] 52)).heap.size ≤ D := hD
    clear hp hb1 hL' hgx hbW hK
    go_wp2
    refine ⟨by simp, .inl ⟨_, _, rfl, run_takeDeferred HKK.out, ?_⟩⟩
    refine ⟨.pointer (some ⟨g2, 0, none⟩), by simp [results, Tryz.f30, go_sem], g2, rb2, bs2, rfl, HGX.out.keep ((chg_of_grown (grownBy_putObj' X D (.deferred none)))) (fun k hk e => ?_), HBW.out.trans (belowK_b (w := w) (Nat.le_refl _) X D _ _ (by have := HSZ.out; omega) HKK.out rfl rfl)⟩
    have h1 := HOWN.out k hk
    have h2 := HSZ.out
    have e' : k = D := e
    omega
  case stop =>
    rintro D c pre f X hD hpre ⟨h, _⟩ hK
    exact h.elim
end Go.Proofs.YtfmkeeaenjeneaaGreatDoor

namespace Go.Proofs.YtfmkeeaenjeneaaGreatDoor
set_option linter.unusedVariables false

/-- the ranges of marks -/
def mkT : List (Int × Int) := [(768, 879), (1155, 1161), (1425, 1469), (1471, 1471), (1473, 1474), (1476, 1477), (1479, 1479), (1552, 1562), (1611, 1631), (1648, 1648), (1750, 1756), (1759, 1764), (1767, 1768), (1770, 1773), (3633, 3633), (3636, 3642), (3655, 3662), (6832, 6911), (7616, 7679), (8203, 8207), (8288, 8292), (8400, 8432), (12330, 12333), (12441, 12442), (65024, 65039), (65056, 65071), (65279, 65279), (917760, 917999)]
/-- the ranges of wide runes -/
def wdT : List (Int × Int) := [(4352, 4447), (8986, 8987), (9001, 9002), (9193, 9196), (9200, 9200), (9203, 9203), (9725, 9726), (9748, 9749), (9800, 9811), (9855, 9855), (9875, 9875), (9889, 9889), (9898, 9899), (9917, 9918), (9924, 9925), (9934, 9934), (9940, 9940), (9962, 9962), (9970, 9971), (9973, 9973), (9978, 9978), (9981, 9981), (9989, 9989), (9994, 9995), (10024, 10024), (10060, 10060), (10062, 10062), (10067, 10069), (10071, 10071), (10133, 10135), (10160, 10160), (10175, 10175), (11035, 11036), (11088, 11088), (11093, 11093), (11904, 12350), (12353, 19903), (19968, 42191), (43360, 43391), (44032, 55203), (63744, 64255), (65040, 65049), (65072, 65135), (65281, 65376), (65504, 65510), (127744, 128591), (128640, 128767), (129280, 129535), (129648, 129791), (131072, 196605), (196608, 262141)]

/-- does it lie in one of the ranges? -/
def inT (l : List (Int × Int)) (r : Int) : Bool := l.any fun x => decide (x.1 ≤ r) && decide (r ≤ x.2)
/-- the first range that does not end ahead of it decides -/
def wit : List (Int × Int) → Int → Bool
  | [], _ => false
  | x :: l, r => if r ≤ x.2 then decide (x.1 ≤ r) else wit l r
/-- ranges that increase -/
def srt : List (Int × Int) → Bool
  | [] => true
  | x :: l => decide (x.1 ≤ x.2) && l.all (fun y => decide (x.2 < y.1)) && srt l

theorem inT_before (l : List (Int × Int)) (r a : Int) (h : r ≤ a) (hl : l.all (fun y => decide (a < y.1)) = true) : inT l r = false := by
  unfold inT
  rw [List.any_eq_false]
  intro x hx
  have := List.all_eq_true.1 hl x hx
  simp at this ⊢
  intro
  omega
theorem wit_eq (l : List (Int × Int)) (r : Int) (h : srt l = true) : wit l r = inT l r := by
  induction l with
  | nil => rfl
  | cons x l ih =>
    simp only [srt, Bool.and_eq_true] at h
    have e : inT (x :: l) r = ((decide (x.1 ≤ r) && decide (r ≤ x.2)) || inT l r) := rfl
    rw [e]
    simp only [wit]
    by_cases hr : r ≤ x.2
    · rw [if_pos hr, inT_before l r x.2 hr h.1.2]; simp [hr]
    · rw [if_neg hr, ih h.2]; simp [hr]
theorem mk_srt : srt mkT = true := by decide +kernel
theorem wd_srt : srt wdT = true := by decide +kernel

/-- what has come up before does not decide: what is left does -/
theorem wit_append (l m : List (Int × Int)) (r : Int) (h : ∀ x ∈ l, ¬ r ≤ x.2) : wit (l ++ m) r = wit m r := by
  induction l with
  | nil => rfl
  | cons x l ih =>
    simp only [List.cons_append, wit]
    rw [if_neg (h x (by simp)), ih (fun y hy => h y (by simp [hy]))]
theorem wit_none (l : List (Int × Int)) (r : Int) (h : ∀ x ∈ l, ¬ r ≤ x.2) : wit l r = false := by
  have := wit_append l [] r h
  simpa [wit] using this

def ctB (r : Int) : Bool := (decide (0 ≤ r) && decide (r ≤ 31)) || (decide (127 ≤ r) && decide (r ≤ 159))
def mkB (r : Int) : Bool := inT mkT r
def wdB (r : Int) : Bool := inT wdT r && !mkB r
def rnB (r : Int) : Bool := decide (0 ≤ r) && decide (r ≤ 1114111) && (decide (r < 55296) || decide (57343 < r))
def ofI (r : Int) : Int := if (!rnB r || ctB r || mkB r) = true then 0 else if inT wdT r = true then 2 else 1
theorem ofI_01 (r : Int) : 0 ≤ ofI r ∧ ofI r ≤ 2 := by unfold ofI; split <;> (try split) <;> omega
end Go.Proofs.YtfmkeeaenjeneaaGreatDoor

namespace Go.Proofs.YtfmkeeaenjeneaaGreatDoor
open Go.RowKit Go.Shelf
attribute [local go_sem] Oper.semAt_some
set_option linter.unusedVariables false

/-- The ranges' cells, firsts and lasts by turns. -/
def Tab (w : World) (g : Nat) (T : List (Int × Int)) : Prop := ∀ k x, T[k]? = some x → w.cell? ⟨g, 2 * k, none⟩ = some (.int .i32 x.1) ∧ w.cell? ⟨g, 2 * k + 1, none⟩ = some (.int .i32 x.2)
theorem Tab.below {w w' : World} {B g : Nat} {T : List (Int × Int)} (h : Tab w g T) (hb : Below B w w') (hg : g < B) : Tab w' g T := fun k x hx => ⟨(hb.cell (p := ⟨g, 2 * k, none⟩) hg).trans (h k x hx).1, (hb.cell (p := ⟨g, 2 * k + 1, none⟩) hg).trans (h k x hx).2⟩
def YB (J Jx : List (Int × Int) → World → Prop) (q : List (Int × Int)) (b : Bool) (W : World) : Prop := (b = true ∧ J q W) ∨ (b = false ∧ Jx q W)
def encT (x : Int × Int) : Array Value := #[.int .i32 x.1, .int .i32 x.2]

set_option maxRecDepth 100000 in
set_option maxHeartbeats 2000000 in
theorem marks1_in (n : Nat) (hn : 1 ≤ n) (l : Nat) (J Jx : List (Int × Int) → World → Prop) (W : World)
    (hJ : ∀ q A B, J q A → W.heap.size ≤ A.heap.size → Below A.heap.size A B → J q B) (hJw : ∀ q A, J q A → W.heap.size ≤ A.heap.size ∧ Tab A 2 mkT)
    (hY : ∀ pre x W1, J pre W1 → pre.length < mkT.length → YieldAt Fence.wide (n - 1) Tryz.prog l (encT x) W1 fun e W' =>
      (e = .returned (.bool true) ∧ J (pre ++ [x]) W') ∨ (e = .returned (.bool false) ∧ Jx (pre ++ [x]) W'))
    (h0 : J [] W) :
    CallsIn Fence.wide n Tryz.prog 140 #[.func (.yield l) #[] #[]] W fun e W' => (∃ v, e = .returned v) ∧
      ((∃ ys, ys = mkT ∧ J ys W') ∨ (∃ pre, pre <+: mkT ∧ Jx pre W')) := by
  refine callsIn_of_wp Tryz.func140 rfl trivial ?_ rfl
  simp only [Tryz.ntmps140, List.size_toArray, List.length_cons, List.length_nil, Nat.reduceAdd, Nat.reduceSub, Array.replicate_succ, Array.replicate_zero, List.push_toArray, List.append_toArray, List.nil_append, List.cons_append]
  have hY' : ∀ pre x W1, J pre W1 → pre.length < mkT.length → YieldAt Fence.wide (n - 1) Tryz.prog l (encT x) W1 fun e W' => ∃ b, e = .returned (.bool b) ∧ YB J Jx (pre ++ [x]) b W' := fun pre x W1 hj hl => (hY pre x W1 hj hl).mono (by
    rintro e W' (⟨rfl, h⟩ | ⟨rfl, h⟩)
    · exact ⟨true, rfl, .inl ⟨rfl, h⟩⟩
    · exact ⟨false, rfl, .inr ⟨rfl, h⟩⟩)
  clear hY
  have HJ := Lib.hid hJ
  have HJw := Lib.hid hJw
  clear hJ hJw
  gi_wp2
  gi_loopw [2] (fun a wr => ∃ k m : Nat, a = .int .i64 (m : Int) ∧ m = 2 * k ∧ k ≤ 28 ∧ J (mkT.take k) wr) (fun a _ => 56 - (intOf a).toNat)
  case atStart => exact ⟨0, 0, rfl, rfl, by omega, h0⟩
  case round =>
    obtain ⟨k, m, rfl, hmk, hk, hJp⟩ := hrel
    have HM := Lib.hid hmk
    have hw := HJw.out _ _ hJp
    have HJp := Lib.hid hJp
    clear hJp h0
    by_cases hlt : k < 28
    · have hlen : mkT.length = 28 := rfl
      have hx : mkT[k]? = some mkT[k] := List.getElem?_eq_getElem (by omega)
      obtain ⟨hc1, hc2⟩ := hw.2 k _ hx
      rw [← hmk] at hc1 hc2
      have htk : mkT.take (k + 1) = mkT.take k ++ [mkT[k]] := List.take_succ_eq_append_getElem (by omega)
      have hlk : (mkT.take k).length < mkT.length := by simp; omega
      have hJd : J (mkT.take k) wr.drew := HJ.out _ _ _ HJp.out hw.1 (Below.refl _ _).drew
      obtain ⟨fn, tmps, assign, body, hy, hR⟩ := hY' _ mkT[k] wr.drew hJd hlk
      generalize mkT[k] = x at *
      have HT := Lib.hid htk
      clear htk hx hw hJd hlk hlen
      have h1 : (m : Int) < 56 := by omega
      have h2 : (m : Int) + 1 < 56 := by omega
      have h5 : 0 ≤ (m : Int) + 1 := by omega
      have h3 : IntKind.i64.wrap ((m : Int) + 1) = (m : Int) + 1 := IntWalk.i64_in _ (by omega)
      have h4 : ((m : Int) + 1).toNat = m + 1 := by omega
      have h6 : m < 56 := by omega
      have h7 : m + 1 < 56 := by omega
      clear hmk
      simp only [encT] at hy
      clear hY'
      gi_wp2
      gi_region_with (refine hR.mono ?_; rintro e W3 ⟨b, rfl, h3⟩)
      all_goals
        rcases h3 with ⟨rfl, h3⟩ | ⟨rfl, h3⟩
        · have h3' : J (mkT.take (k + 1)) W3 := by rw [HT.out]; exact h3
          have h8 : IntKind.i64.wrap ((m : Int) + 2) = (m : Int) + 2 := IntWalk.i64_in _ (by omega)
          gi_wp2
          refine ⟨⟨k + 1, m + 2, by go_num, by have := HM.out; omega, by omega, h3'⟩, by simp only [intOf]; omega⟩
        · gi_wp2
          refine bodyPost_ret (results_none rfl _ _ _) rfl ?_
          exact ⟨⟨_, rfl⟩, .inr ⟨mkT.take k ++ [x], by rw [← HT.out]; exact List.take_prefix _ _, h3⟩⟩
    · have h1 : ¬ (m : Int) < 56 := by omega
      have h2 : ¬ m < 56 := by omega
      have hfin : J mkT wr := by
        have := HJp.out
        rw [List.take_of_length_le (by show 28 ≤ k; omega)] at this
        exact this
      clear hmk
      gi_wp2
      go_end0
      first | exact ⟨⟨_, rfl⟩, .inl hfin⟩ | exact ⟨⟨_, rfl⟩, .inl ⟨_, rfl, hfin⟩⟩

/-- What a round must keep: below a block all lies as it lay. -/
theorem marks_stops (n : Nat) (hn : 1 ≤ n) (n₀ : Nat) (w : World) (hT : Tab w 2 mkT) (hg : 2 < n₀) (hn₀ : n₀ ≤ w.heap.size) :
    SeqStopsK Fence.wide n Tryz.prog 140 #[] encT (Below n₀) (fun ys => ys = mkT) (fun pre => pre <+: mkT) mkT.length w := by
  intro l J Jx W hW hJ hJx hY h0
  have hTW : Tab W 2 mkT := hT.below hW (by omega)
  have hs := hW.size
  refine (marks1_in n hn l (fun q A => J q A ∧ W.heap.size ≤ A.heap.size ∧ Tab A 2 mkT) Jx W ?_ (fun q A h => h.2) ?_ ⟨h0, Nat.le_refl _, hTW⟩).mono ?_
  · rintro q A B ⟨hj, hsz, ht⟩ _ hb
    exact ⟨hJ q A B none hj (grown_of_below hb) (fun r h => by cases h), Nat.le_trans hsz hb.size, ht.below hb (by omega)⟩
  · rintro pre x W1 ⟨hj, hsz, ht⟩ hlen
    refine (hY pre x W1 hj hlen).mono ?_
    rintro e W' (⟨he, hj', hk⟩ | ⟨he, hj'⟩)
    · exact .inl ⟨he, hj', Nat.le_trans hsz hk.size, ht.below hk hg⟩
    · exact .inr ⟨he, hj'⟩
  · rintro e W' ⟨hv, h | h⟩
    · obtain ⟨ys, hy, hj, _⟩ := h
      exact ⟨hv, .inl ⟨ys, hy, hj⟩⟩
    · exact ⟨hv, .inr h⟩

set_option maxHeartbeats 400000 in
theorem marks_any (w : World) : Calls Tryz.prog 112 #[] w fun e w' => e = .returned (.func (.func 140) #[] #[]) ∧ w = w' := by
  go_enter Tryz.func112, Tryz.ntmps112
  go_wp2
  go_ret
  exact ⟨rfl, rfl⟩

set_option maxRecDepth 100000 in
set_option maxHeartbeats 2000000 in
theorem wides1_in (n : Nat) (hn : 1 ≤ n) (l : Nat) (J Jx : List (Int × Int) → World → Prop) (W : World)
    (hJ : ∀ q A B, J q A → W.heap.size ≤ A.heap.size → Below A.heap.size A B → J q B) (hJw : ∀ q A, J q A → W.heap.size ≤ A.heap.size ∧ Tab A 1 wdT)
    (hY : ∀ pre x W1, J pre W1 → pre.length < wdT.length → YieldAt Fence.wide (n - 1) Tryz.prog l (encT x) W1 fun e W' =>
      (e = .returned (.bool true) ∧ J (pre ++ [x]) W') ∨ (e = .returned (.bool false) ∧ Jx (pre ++ [x]) W'))
    (h0 : J [] W) :
    CallsIn Fence.wide n Tryz.prog 136 #[.func (.yield l) #[] #[]] W fun e W' => (∃ v, e = .returned v) ∧
      ((∃ ys, ys = wdT ∧ J ys W') ∨ (∃ pre, pre <+: wdT ∧ Jx pre W')) := by
  refine callsIn_of_wp Tryz.func136 rfl trivial ?_ rfl
  simp only [Tryz.ntmps136, List.size_toArray, List.length_cons, List.length_nil, Nat.reduceAdd, Nat.reduceSub, Array.replicate_succ, Array.replicate_zero, List.push_toArray, List.append_toArray, List.nil_append, List.cons_append]
  have hY' : ∀ pre x W1, J pre W1 → pre.length < wdT.length → YieldAt Fence.wide (n - 1) Tryz.prog l (encT x) W1 fun e W' => ∃ b, e = .returned (.bool b) ∧ YB J Jx (pre ++ [x]) b W' := fun pre x W1 hj hl => (hY pre x W1 hj hl).mono (by
    rintro e W' (⟨rfl, h⟩ | ⟨rfl, h⟩)
    · exact ⟨true, rfl, .inl ⟨rfl, h⟩⟩
    · exact ⟨false, rfl, .inr ⟨rfl, h⟩⟩)
  clear hY
  have HJ := Lib.hid hJ
  have HJw := Lib.hid hJw
  clear hJ hJw
  gi_wp2
  gi_loopw [2] (fun a wr => ∃ k m : Nat, a = .int .i64 (m : Int) ∧ m = 2 * k ∧ k ≤ 51 ∧ J (wdT.take k) wr) (fun a _ => 102 - (intOf a).toNat)
  case atStart => exact ⟨0, 0, rfl, rfl, by omega, h0⟩
  case round =>
    obtain ⟨k, m, rfl, hmk, hk, hJp⟩ := hrel
    have HM := Lib.hid hmk
    have hw := HJw.out _ _ hJp
    have HJp := Lib.hid hJp
    clear hJp h0
    by_cases hlt : k < 51
    · have hlen : wdT.length = 51 := rfl
      have hx : wdT[k]? = some wdT[k] := List.getElem?_eq_getElem (by omega)
      obtain ⟨hc1, hc2⟩ := hw.2 k _ hx
      rw [← hmk] at hc1 hc2
      have htk : wdT.take (k + 1) = wdT.take k ++ [wdT[k]] := List.take_succ_eq_append_getElem (by omega)
      have hlk : (wdT.take k).length < wdT.length := by simp; omega
      have hJd : J (wdT.take k) wr.drew := HJ.out _ _ _ HJp.out hw.1 (Below.refl _ _).drew
      obtain ⟨fn, tmps, assign, body, hy, hR⟩ := hY' _ wdT[k] wr.drew hJd hlk
      generalize wdT[k] = x at *
      have HT := Lib.hid htk
      clear htk hx hw hJd hlk hlen
      have h1 : (m : Int) < 102 := by omega
      have h2 : (m : Int) + 1 < 102 := by omega
      have h5 : 0 ≤ (m : Int) + 1 := by omega
      have h3 : IntKind.i64.wrap ((m : Int) + 1) = (m : Int) + 1 := IntWalk.i64_in _ (by omega)
      have h4 : ((m : Int) + 1).toNat = m + 1 := by omega
      have h6 : m < 102 := by omega
      have h7 : m + 1 < 102 := by omega
      clear hmk
      simp only [encT] at hy
      clear hY'
      gi_wp2
      gi_region_with (refine hR.mono ?_; rintro e W3 ⟨b, rfl, h3⟩)
      all_goals
        rcases h3 with ⟨rfl, h3⟩ | ⟨rfl, h3⟩
        · have h3' : J (wdT.take (k + 1)) W3 := by rw [HT.out]; exact h3
          have h8 : IntKind.i64.wrap ((m : Int) + 2) = (m : Int) + 2 := IntWalk.i64_in _ (by omega)
          gi_wp2
          refine ⟨⟨k + 1, m + 2, by go_num, by have := HM.out; omega, by omega, h3'⟩, by simp only [intOf]; omega⟩
        · gi_wp2
          refine bodyPost_ret (results_none rfl _ _ _) rfl ?_
          exact ⟨⟨_, rfl⟩, .inr ⟨wdT.take k ++ [x], by rw [← HT.out]; exact List.take_prefix _ _, h3⟩⟩
    · have h1 : ¬ (m : Int) < 102 := by omega
      have h2 : ¬ m < 102 := by omega
      have hfin : J wdT wr := by
        have := HJp.out
        rw [List.take_of_length_le (by show 51 ≤ k; omega)] at this
        exact this
      clear hmk
      gi_wp2
      go_end0
      first | exact ⟨⟨_, rfl⟩, .inl hfin⟩ | exact ⟨⟨_, rfl⟩, .inl ⟨_, rfl, hfin⟩⟩

/-- What a round must keep: below a block all lies as it lay. -/
theorem wides_stops (n : Nat) (hn : 1 ≤ n) (n₀ : Nat) (w : World) (hT : Tab w 1 wdT) (hg : 1 < n₀) (hn₀ : n₀ ≤ w.heap.size) :
    SeqStopsK Fence.wide n Tryz.prog 136 #[] encT (Below n₀) (fun ys => ys = wdT) (fun pre => pre <+: wdT) wdT.length w := by
  intro l J Jx W hW hJ hJx hY h0
  have hTW : Tab W 1 wdT := hT.below hW (by omega)
  have hs := hW.size
  refine (wides1_in n hn l (fun q A => J q A ∧ W.heap.size ≤ A.heap.size ∧ Tab A 1 wdT) Jx W ?_ (fun q A h => h.2) ?_ ⟨h0, Nat.le_refl _, hTW⟩).mono ?_
  · rintro q A B ⟨hj, hsz, ht⟩ _ hb
    exact ⟨hJ q A B none hj (grown_of_below hb) (fun r h => by cases h), Nat.le_trans hsz hb.size, ht.below hb (by omega)⟩
  · rintro pre x W1 ⟨hj, hsz, ht⟩ hlen
    refine (hY pre x W1 hj hlen).mono ?_
    rintro e W' (⟨he, hj', hk⟩ | ⟨he, hj'⟩)
    · exact .inl ⟨he, hj', Nat.le_trans hsz hk.size, ht.below hk hg⟩
    · exact .inr ⟨he, hj'⟩
  · rintro e W' ⟨hv, h | h⟩
    · obtain ⟨ys, hy, hj, _⟩ := h
      exact ⟨hv, .inl ⟨ys, hy, hj⟩⟩
    · exact ⟨hv, .inr h⟩

set_option maxHeartbeats 400000 in
theorem wides_any (w : World) : Calls Tryz.prog 109 #[] w fun e w' => e = .returned (.func (.func 136) #[] #[]) ∧ w = w' := by
  go_enter Tryz.func109, Tryz.ntmps109
  go_wp2
  go_ret
  exact ⟨rfl, rfl⟩
end Go.Proofs.YtfmkeeaenjeneaaGreatDoor

namespace Go.Proofs.YtfmkeeaenjeneaaGreatDoor
open Go.RowKit Go.Shelf
attribute [local go_sem] Oper.semAt_some
set_option linter.unusedVariables false

def InA (T : List (Int × Int)) (r : Int) (b : Nat) (pre : List (Int × Int)) (W : World) : Prop := (∀ y ∈ pre, y.2 < r) ∧ W.cell? ⟨b, 0, none⟩ = some (.int .i32 r) ∧ W.cell? ⟨b + 1, 0, none⟩ = some (.bool false) ∧ W.frozen? ⟨b + 1, 0, none⟩ = false
def OutA (T : List (Int × Int)) (r : Int) (b : Nat) (c : Code) (pre : List (Int × Int)) (W : World) : Prop := c = .ret ∧ ∃ v, (pre <+: T → v = wit T r) ∧ W.cell? ⟨b + 1, 0, none⟩ = some (.bool v)
theorem out_wit {T pre : List (Int × Int)} {x : Int × Int} {r : Int} {v : Bool} (hp : ∀ y ∈ pre, y.2 < r) (hx : r ≤ x.2) (hv : v = decide (x.1 ≤ r)) (h : pre ++ [x] <+: T) : v = wit T r := by
  obtain ⟨t, rfl⟩ := h
  rw [List.append_assoc, wit_append _ _ _ (fun y hy => by have := hp y hy; omega)]
  simp only [List.cons_append, wit]
  rw [if_pos hx, hv]

set_option maxRecDepth 100000 in
set_option maxHeartbeats 2000000 in
theorem within_any (gf : Nat) (T : List (Int × Int)) (r : Int) (w : World) (hen : ∀ (args : Array Value) (w : World), Sem.run Tryz.prog (callFunc gf args) w = Result.ok (Next.enter gf args) w)
    (hst : ∀ w', Below w.heap.size w w' → SeqStopsK Fence.wide 4 Tryz.prog gf #[] encT (Below w.heap.size) (fun ys => ys = T) (fun pre => pre <+: T) T.length w') :
    Calls Tryz.prog 108 #[.int .i32 r, .func (.func gf) #[] #[]] w fun e w' => e = .returned (.bool (wit T r)) ∧ Below w.heap.size w w' := by
  generalize hv0 : wit T r = v0
  have HV0 := Lib.hid hv0
  clear hv0
  refine (callsIn_wide (n := 5)).1 ?_
  refine callsIn_of_wp_marks Tryz.func108 rfl trivial ?_ rfl
  simp only [Tryz.ntmps108, List.size_toArray, List.length_cons, List.length_nil, Nat.reduceAdd, Nat.reduceSub, Array.replicate_succ, Array.replicate_zero, List.push_toArray, List.append_toArray, List.nil_append, List.cons_append]
  refine wpIn_wide.2 ?_
  go_wp2
  refine (wpIn_wide (n := 5)).1 ?_
  have c0 := (Boxed.new w 21 (.int .i32 r)).alloc (.cells #[.bool false] 4)
  have c1 := Boxed.new (w.alloc (.cells #[.int .i32 r] 21)) 4 (.bool false)
  rw [World.size_alloc] at c1
  have hB0 : Below w.heap.size w ((w.alloc (.cells #[.int .i32 r] 21)).alloc (.cells #[.bool false] 4)) := ((Below.refl _ w).alloc (Nat.le_refl _) _).alloc (by simp) _
  have hc := hst _ hB0
  refine wpIn_rangeFunc_ownG rfl (by omega) (gf := gf) (lb := #[]) rfl trivial hen hc belowK_t (belowK_b (by simp; omega)) (Below.refl _ _) (fun _ => rfl)
    (fun pre W => InA T r w.heap.size pre W ∧ Below w.heap.size w W)
    (fun c pre W => OutA T r w.heap.size c pre W ∧ Below w.heap.size w W)
    (OwnFrom.and (Own.from (fun s A B row hs hg hr => ⟨hs.1, cell_kept hs.2.1 hg hr, cell_kept hs.2.2.1 hg hr, (frozen_kept hs.2.2.1 hg hr).trans hs.2.2.2⟩) _) (ownFrom_below (Nat.le_refl _) (by simp; omega)))
    (fun c => OwnFrom.and (Own.from (fun s A B row hs hg hr => ⟨hs.1, hs.2.elim fun v h => ⟨v, h.1, cell_kept h.2 hg hr⟩⟩) _) (ownFrom_below (Nat.le_refl _) (by simp; omega)))
    ⟨⟨by simp, c0.cell, c1.cell, c1.frozen⟩, hB0⟩
    (fun x => { tmps := #[.int .i32 r, .func (.func gf) #[] #[], .pointer (some ⟨w.heap.size, 0, none⟩), undef, .pointer (some ⟨w.heap.size + 1, 0, none⟩), .int .i32 x.1, .int .i32 x.2, .func (.func gf) #[] #[], .int .i32 x.1, .int .i32 x.2, undef, undef, undef, undef, undef, undef], defers := [] }) ?assign ?body ?done ?stop
  case assign =>
    intro l x W K hK
    simp only [encT]
    rw [put_two]
    gi_wp2
    exact hK
  case body =>
    rintro l pre x W ⟨⟨hp, hcw, hcr, hfr⟩, hB⟩ _
    have HP := Lib.hid hp
    clear hp
    by_cases hx : r ≤ x.2
    · obtain ⟨v, hv⟩ : ∃ v, v = decide (x.1 ≤ r) := ⟨_, rfl⟩
      have HV := Lib.hid hv
      rw [eq_comm] at hv
      gi_wp2
      refine ⟨(KeepsOthers.setCell _ _ _).from _, ⟨rfl, v, fun h => out_wit HP.out hx HV.out h, ?_⟩, hB.setCell (p := ⟨w.heap.size + 1, 0, none⟩) (by simp) _⟩
      exact World.cell?_setCell_same' _ _ _ (by rw [hcr]; rfl)
    · have HX := Lib.hid hx
      gi_wp2
      exact ⟨(KeepsOthers.refl _).from _, Below.refl _ _, ⟨fun y hy => (List.mem_append.1 hy).elim (HP.out y) (fun e => by simp at e; subst e; have := HX.out; omega), hcw, hcr, hfr⟩, hB⟩
  case done =>
    rintro D ys W hD rfl ⟨⟨hne, _, hcr, hfr⟩, hB⟩ hK
    have hw0 := wit_none ys r (fun y hy => by have := hne y hy; omega)
    obtain rfl : false = v0 := hw0.symm.trans HV0.out
    clear hne hw0
    go_wp2
    have hK' := (KeepsOthers.setCell W ⟨w.heap.size + 1, 0, none⟩ (.bool false)).same D _ hK rfl
    refine ⟨by simp, .inl ⟨_, _, rfl, run_takeDeferred hK', ?_⟩⟩
    have hc5 := cell_kept (World.cell?_setCell_same' W ⟨w.heap.size + 1, 0, none⟩ (.bool false) (by rw [hcr]; rfl)) (grownBy_putObj' _ D (.deferred none)) (fun r e => by cases e; exact ⟨_, hK', rfl⟩)
    refine ⟨.bool false, ?_, rfl, (hB.setCell (p := ⟨w.heap.size + 1, 0, none⟩) (by simp) _).trans (belowK_b (w := w) (Nat.le_refl _) _ D _ _ (by simp at hD; omega) hK' rfl rfl)⟩
    simp [results, Tryz.f108, go_sem, hc5]
  case stop =>
    rintro D c pre W hD hpre ⟨⟨rfl, v, hv, hcr⟩, hB⟩ hK
    obtain rfl : v = v0 := (hv hpre).trans HV0.out
    clear hv hpre
    gi_wp2
    refine ⟨by simp, .inl ⟨_, _, rfl, run_takeDeferred hK, ?_⟩⟩
    have hc5 := cell_kept hcr (grownBy_putObj' _ D (.deferred none)) (fun r e => by cases e; exact ⟨_, hK, rfl⟩)
    refine ⟨.bool v, ?_, rfl, hB.trans (belowK_b (w := w) (Nat.le_refl _) W D _ _ (by simp at hD; omega) hK rfl rfl)⟩
    simp [results, Tryz.f108, go_sem, hc5]
end Go.Proofs.YtfmkeeaenjeneaaGreatDoor

namespace Go.Proofs.YtfmkeeaenjeneaaGreatDoor
open Go.RowKit Go.Shelf
set_option linter.unusedVariables false


/-- The ranges of the program lie where the program's text lays them. -/
structure Tabs (w : World) : Prop where
  mt : Tab w 2 mkT
  wt : Tab w 1 wdT
  mg : 2 < w.heap.size
  wg : 1 < w.heap.size
theorem Tabs.below {w w' : World} (h : Tabs w) (hb : Below w.heap.size w w') : Tabs w' :=
  ⟨h.mt.below hb h.mg, h.wt.below hb h.wg, Nat.lt_of_lt_of_le h.mg hb.size, Nat.lt_of_lt_of_le h.wg hb.size⟩

set_option maxHeartbeats 400000 in
theorem ctl_any (r : Int) (w : World) : Calls Tryz.prog 107 #[.int .i32 r] w fun e w' => e = .returned (.bool (ctB r)) ∧ w = w' := by
  go_enter Tryz.func107, Tryz.ntmps107
  go_wp2
  all_goals
    go_ret
    exact ⟨ret_bool (by unfold ctB; rw [Bool.eq_iff_iff]; simp; omega), rfl⟩
set_option maxHeartbeats 400000 in
theorem rctl_any (r : Int) (w : World) : Calls Tryz.prog 119 #[.int .i32 r] w fun e w' => e = .returned (.bool (ctB r)) ∧ w = w' := by
  go_enter Tryz.func119, Tryz.ntmps119
  go_wp2
  all_goals
    go_ret
    exact ⟨ret_bool (by unfold ctB; rw [Bool.eq_iff_iff]; simp; omega), rfl⟩
set_option maxHeartbeats 400000 in
theorem isr_any (r : Int) (w : World) : Calls Tryz.prog 106 #[.int .i32 r] w fun e w' => e = .returned (.bool (rnB r)) ∧ w = w' := by
  go_enter Tryz.func106, Tryz.ntmps106
  go_wp2
  all_goals
    go_ret
    exact ⟨ret_bool (by unfold rnB; rw [Bool.eq_iff_iff]; simp; omega), rfl⟩
set_option maxHeartbeats 400000 in
theorem risr_any (r : Int) (w : World) : Calls Tryz.prog 118 #[.int .i32 r] w fun e w' => e = .returned (.bool (rnB r)) ∧ w = w' := by
  go_enter Tryz.func118, Tryz.ntmps118
  go_wp2
  all_goals
    go_ret
    exact ⟨ret_bool (by unfold rnB; rw [Bool.eq_iff_iff]; simp; omega), rfl⟩

set_option maxHeartbeats 400000 in
theorem inMarks_any (r : Int) (w : World) (h : Tabs w) : Calls Tryz.prog 108 #[.int .i32 r, .func (.func 140) #[] #[]] w fun e w' => e = .returned (.bool (inT mkT r)) ∧ Below w.heap.size w w' := by
  rw [← wit_eq _ _ mk_srt]
  exact within_any _ mkT r w (enters_of Tryz.func140 (by kernel_rfl) rfl) fun w' hb => marks_stops 4 (by omega) _ w' (h.mt.below hb h.mg) h.mg hb.size
set_option maxHeartbeats 400000 in
theorem inWides_any (r : Int) (w : World) (h : Tabs w) : Calls Tryz.prog 108 #[.int .i32 r, .func (.func 136) #[] #[]] w fun e w' => e = .returned (.bool (inT wdT r)) ∧ Below w.heap.size w w' := by
  rw [← wit_eq _ _ wd_srt]
  exact within_any _ wdT r w (enters_of Tryz.func136 (by kernel_rfl) rfl) fun w' hb => wides_stops 4 (by omega) _ w' (h.wt.below hb h.wg) h.wg hb.size

set_option maxHeartbeats 400000 in
theorem mark_any (r : Int) (w : World) (h : Tabs w) : Calls Tryz.prog 76 #[.int .i32 r] w fun e w' => e = .returned (.bool (mkB r)) ∧ Below w.heap.size w w' := by
  go_enter Tryz.func76, Tryz.ntmps76
  go_wp2_with (first
    | (go_at_call 112; refine (marks_any _).mono ?_; rintro e w' ⟨rfl, rfl⟩)
    | (go_at_call 108; refine (inMarks_any r w h).mono ?_; rintro e w1 ⟨rfl, hb⟩))
  go_ret
  exact ⟨rfl, hb⟩

set_option maxHeartbeats 1000000 in
theorem of_any (r : Int) (w : World) (h : Tabs w) : Calls Tryz.prog 74 #[.int .i32 r] w fun e w' => e = .returned (.int .i64 (ofI r)) ∧ Below w.heap.size w w' := by
  unfold ofI
  generalize hr : rnB r = a
  have HR := Lib.hid hr
  clear hr
  generalize hc : ctB r = b
  have HC := Lib.hid hc
  clear hc
  generalize hm : mkB r = c
  have HM := Lib.hid hm
  clear hm
  generalize hv : inT wdT r = d
  have HV := Lib.hid hv
  clear hv
  cases a <;> cases b <;> cases c <;> cases d
  all_goals
    go_enter Tryz.func74, Tryz.ntmps74
    go_wp2_with (first
      | (go_at_call 106; refine (isr_any r w).mono ?_; rintro e w' ⟨rfl, rfl⟩; rw [HR.out])
      | (go_at_call 107; refine (ctl_any r w).mono ?_; rintro e w' ⟨rfl, rfl⟩; rw [HC.out])
      | (go_at_call 76; refine (mark_any r w h).mono ?_; rintro e w1 ⟨rfl, hb⟩; rw [HM.out])
      | (go_at_call 109; refine (wides_any _).mono ?_; rintro e w' ⟨rfl, rfl⟩)
      | (go_at_call 108; refine (inWides_any r w1 (h.below hb)).mono ?_; rintro e w2 ⟨rfl, hb2⟩; rw [HV.out]))
    go_ret
    first
      | exact ⟨rfl, Below.refl _ _⟩
      | exact ⟨rfl, hb⟩
      | exact ⟨rfl, hb.trans (hb2.mono hb.size)⟩
end Go.Proofs.YtfmkeeaenjeneaaGreatDoor

namespace Go.Proofs.YtfmkeeaenjeneaaGreatDoor
open Go.RowKit Go.Shelf
attribute [local go_sem] Oper.semAt_some
set_option linter.unusedVariables false
set_option linter.unusedSimpArgs false

set_option maxHeartbeats 1000000 in
theorem scroll_not {w : World} {p : Option Addr} (h : GrNo w p) (n : Int) :
    Calls Tryz.prog 104 #[.pointer p, .int .i64 n] w fun e w' => e = .returned (.int .i64 0) ∧ w = w' := by
  have H := Lib.hid h
  have hm : min (max n 0) 0 = 0 := by omega
  have hm2 : min n 0 = 0 ∨ n < 0 := by omega
  clear h hm2
  go_enter Tryz.func104, Tryz.ntmps104
  go_wp2_with (go_at_call 33; refine (size_not H.out).mono ?_; rintro e w' ⟨rfl, rfl⟩)
  all_goals
    go_ret
    exact ⟨rfl, rfl⟩

set_option maxHeartbeats 1000000 in
theorem resize_not {w : World} {p : Option Addr} (h : GrNo w p) (a b c : Int) :
    Calls Tryz.prog 29 #[.pointer p, .int .i64 a, .int .i64 b, .int .i64 c] w fun e w' => e = .returned (.tuple #[.int .i64 0, .int .i64 4]) ∧ w = w' := by
  have H := Lib.hid h
  clear h
  go_enter Tryz.func29, Tryz.ntmps29
  go_wp2_with (go_at_call 59; refine (made_not H.out).mono ?_; rintro e w' ⟨rfl, rfl⟩)
  go_ret2
  exact ⟨rfl, rfl⟩

set_option maxHeartbeats 1000000 in
theorem fork_not {w : World} {p : Option Addr} (h : GrNo w p) :
    Calls Tryz.prog 30 #[.pointer p] w fun e w' => e = .returned (.pointer none) ∧ Below w.heap.size w w' := by
  have H := Lib.hid h
  clear h
  go_enter Tryz.func30, Tryz.ntmps30
  go_wp2_with (first
    | (go_at_call 33; refine (size_not H.out).mono ?_; rintro e w' ⟨rfl, rfl⟩)
    | (go_at_call 19; refine (new_no 0 0 w (.inl rfl)).mono ?_; rintro e w' ⟨rfl, rfl⟩))
  go_ret
  exact ⟨rfl, (Below.refl _ w).alloc (Nat.le_refl _) _⟩
end Go.Proofs.YtfmkeeaenjeneaaGreatDoor

namespace Go.Proofs.YtfmkeeaenjeneaaGreatDoor
open Go.RowKit Go.Shelf
set_option linter.unusedVariables false

def flatT (T : List (Int × Int)) : List Value := T.flatMap fun x => [.int .i32 x.1, .int .i32 x.2]
theorem flatT_get (T : List (Int × Int)) : ∀ k x, T[k]? = some x → (flatT T)[2 * k]? = some (.int .i32 x.1) ∧ (flatT T)[2 * k + 1]? = some (.int .i32 x.2) := by
  induction T with
  | nil => intro k x h; simp at h
  | cons y T ih =>
    intro k x h
    have e : flatT (y :: T) = .int .i32 y.1 :: .int .i32 y.2 :: flatT T := rfl
    cases k with
    | zero => simp at h; subst h; rw [e]; simp
    | succ k =>
      simp at h
      have := ih k x h
      rw [e, show 2 * (k + 1) = 2 * k + 1 + 1 from by omega, show 2 * k + 1 + 1 + 1 = (2 * k + 1) + 1 + 1 from rfl]
      simpa using this
theorem Tab.new (w : World) (cs : Array Value) (t : TypeId) (T : List (Int × Int)) (h : cs.toList = flatT T) : Tab (w.alloc (.cells cs t)) w.heap.size T := by
  intro k x hx
  obtain ⟨h1, h2⟩ := flatT_get T k x hx
  rw [← h] at h1 h2
  constructor
  · rw [World.cell?_alloc_new]; simpa using h1
  · rw [World.cell?_alloc_new]; simpa using h2

set_option maxRecDepth 100000 in
set_option maxHeartbeats 2000000 in
theorem rmarks_any (w : World) : Calls Tryz.prog 145 #[] w fun e w' => e = .returned (.slice (some ⟨w.heap.size, 0, none⟩) 28 28) ∧ Below w.heap.size w w' ∧ Tab w' w.heap.size mkT ∧ w.heap.size < w'.heap.size := by
  go_enter Tryz.func145, Tryz.ntmps145
  go_wp2
  go_ret
  exact ⟨rfl, (Below.refl _ _).alloc (Nat.le_refl _) _, Tab.new _ _ _ _ rfl, by simp⟩
set_option maxRecDepth 100000 in
set_option maxHeartbeats 2000000 in
theorem rwides_any (w : World) : Calls Tryz.prog 146 #[] w fun e w' => e = .returned (.slice (some ⟨w.heap.size, 0, none⟩) 51 51) ∧ Below w.heap.size w w' ∧ Tab w' w.heap.size wdT ∧ w.heap.size < w'.heap.size := by
  go_enter Tryz.func146, Tryz.ntmps146
  go_wp2
  go_ret
  exact ⟨rfl, (Below.refl _ _).alloc (Nat.le_refl _) _, Tab.new _ _ _ _ rfl, by simp⟩

end Go.Proofs.YtfmkeeaenjeneaaGreatDoor

namespace Go.Proofs.YtfmkeeaenjeneaaGreatDoor
open Go.RowKit Go.Shelf
set_option linter.unusedVariables false

theorem inT_append (l m : List (Int × Int)) (r : Int) : inT (l ++ m) r = (inT l r || inT m r) := by simp [inT]

set_option maxRecDepth 100000 in
set_option maxHeartbeats 1000000 in
theorem rin_any (b : Nat) (T : List (Int × Int)) (r : Int) (w : World) (hT : Tab w b T) (hl : T.length ≤ 1000) :
    Calls Tryz.prog 144 #[.slice (some ⟨b, 0, none⟩) T.length T.length, .int .i32 r] w fun e w' => e = .returned (.bool (inT T r)) ∧ w = w' := by
  generalize hn : T.length = n at hl ⊢
  have HN := Lib.hid hn
  clear hn
  go_enter Tryz.func144, Tryz.ntmps144
  go_wp2
  go_loop [5] (fun i => ∃ k : Nat, k ≤ n ∧ i = .int .i64 k ∧ inT (T.take k) r = false) (fun i => n - (intOf i).toNat)
  case atStart => exact ⟨0, by omega, rfl, rfl⟩
  case round =>
    obtain ⟨k, hk, rfl, hno⟩ := hrel
    have HO := Lib.hid hno
    clear hno
    by_cases hlt : k < n
    · have hx : T[k]? = some (T[k]'(by have := HN.out; omega)) := List.getElem?_eq_getElem (by have := HN.out; omega)
      obtain ⟨hc1, hc2⟩ := hT k _ hx
      rw [Nat.mul_comm] at hc1 hc2
      have htk : T.take (k + 1) = T.take k ++ [T[k]'(by have := HN.out; omega)] := List.take_succ_eq_append_getElem (by have := HN.out; omega)
      generalize T[k]'(by have := HN.out; omega) = x at *
      have HT := Lib.hid htk
      clear htk hx
      have hkn : (k : Int) < n := by omega
      by_cases h1 : x.1 ≤ r
      · by_cases h2 : r ≤ x.2
        · have e : inT T r = true := by
            have e1 := inT_append (T.take (k + 1)) (T.drop (k + 1)) r
            rw [List.take_append_drop] at e1
            rw [e1, HT.out, inT_append]
            simp [inT, h1, h2]
          have HE := Lib.hid e
          clear e
          go_wp2
          go_ret
          exact ⟨ret_bool HE.out.symm, rfl⟩
        · have e : inT (T.take (k + 1)) r = false := by rw [HT.out, inT_append, HO.out]; simp [inT, h2]
          have HE := Lib.hid e
          clear e
          go_wp2
          go_round
          case rel => exact ⟨k + 1, by omega, by go_num, HE.out⟩
          case measure => simp [intOf]; omega
      · have e : inT (T.take (k + 1)) r = false := by rw [HT.out, inT_append, HO.out]; simp [inT, h1]
        have HE := Lib.hid e
        clear e
        go_wp2
        go_round
        case rel => exact ⟨k + 1, by omega, by go_num, HE.out⟩
        case measure => simp [intOf]; omega
    · have hkn : ¬ (k : Int) < n := by omega
      have e : inT T r = false := by
        have := HO.out
        rw [List.take_of_length_le (by have := HN.out; omega)] at this
        exact this
      have HE := Lib.hid e
      clear e
      go_wp2
      go_ret
      exact ⟨ret_bool HE.out.symm, rfl⟩

set_option maxHeartbeats 400000 in
theorem rmark_any (r : Int) (w : World) : Calls Tryz.prog 120 #[.int .i32 r] w fun e w' => e = .returned (.bool (mkB r)) ∧ Below w.heap.size w w' := by
  go_enter Tryz.func120, Tryz.ntmps120
  go_wp2_with (first
    | (go_at_call 145; refine (rmarks_any _).mono ?_; rintro e w1 ⟨rfl, hb, hT, hs⟩)
    | (go_at_call 144; refine (rin_any w.heap.size mkT r w1 hT (by decide)).mono ?_; rintro e w' ⟨rfl, rfl⟩))
  go_ret
  exact ⟨rfl, hb⟩

set_option maxHeartbeats 1000000 in
theorem rwide_any (r : Int) (w : World) : Calls Tryz.prog 121 #[.int .i32 r] w fun e w' => e = .returned (.bool (wdB r)) ∧ Below w.heap.size w w' := by
  unfold wdB
  generalize hv : inT wdT r = v
  have HV := Lib.hid hv
  clear hv
  generalize hm : mkB r = m
  have HM := Lib.hid hm
  clear hm
  cases m
  all_goals
    go_enter Tryz.func121, Tryz.ntmps121
    go_wp2_with (first
      | (go_at_call 120; refine (rmark_any r w).mono ?_; rintro e w2 ⟨rfl, hb2⟩; rw [HM.out])
      | (go_at_call 146; refine (rwides_any _).mono ?_; rintro e w1 ⟨rfl, hb, hT, hs⟩)
      | (go_at_call 144; refine (rin_any w2.heap.size wdT r w1 hT (by decide)).mono ?_; rintro e w' ⟨rfl, rfl⟩; rw [HV.out]))
    go_ret
    first
      | exact ⟨ret_bool (by simp), hb2⟩
      | exact ⟨ret_bool (by simp), hb2.trans (hb.mono hb2.size)⟩

set_option maxHeartbeats 1000000 in
theorem rof_any (r : Int) (w : World) : Calls Tryz.prog 83 #[.int .i32 r] w fun e w' => e = .returned (.int .i64 (ofI r)) ∧ Below w.heap.size w w' := by
  have hdd : ∀ d : Bool, inT wdT r = d → mkB r = false → wdB r = d := by
    intro d h1 h2
    unfold wdB
    rw [h1, h2]
    simp
  unfold ofI
  generalize hr : rnB r = a
  have HR := Lib.hid hr
  clear hr
  generalize hc : ctB r = b
  have HC := Lib.hid hc
  clear hc
  generalize hv : inT wdT r = d at hdd ⊢
  have HD := Lib.hid (hdd d rfl)
  clear hv hdd
  generalize hm : mkB r = c
  have HM := Lib.hid hm
  clear hm
  cases a <;> cases b <;> cases c <;> cases d
  all_goals
    go_enter Tryz.func83, Tryz.ntmps83
    go_wp2_with (first
      | (go_at_call 118; refine (risr_any r w).mono ?_; rintro e w' ⟨rfl, rfl⟩; rw [HR.out])
      | (go_at_call 119; refine (rctl_any r w).mono ?_; rintro e w' ⟨rfl, rfl⟩; rw [HC.out])
      | (go_at_call 120; refine (rmark_any r w).mono ?_; rintro e w1 ⟨rfl, hb⟩; rw [HM.out])
      | (go_at_call 121; refine (rwide_any r w1).mono ?_; rintro e w2 ⟨rfl, hb2⟩; rw [HD.out HM.out]))
    go_ret
    first
      | exact ⟨rfl, Below.refl _ _⟩
      | exact ⟨rfl, hb⟩
      | exact ⟨rfl, hb.trans (hb2.mono hb.size)⟩
end Go.Proofs.YtfmkeeaenjeneaaGreatDoor

namespace Go.Proofs.YtfmkeeaenjeneaaGreatDoor
set_option linter.unusedVariables false

def sumW (l : List Int) : Int := (l.map ofI).sum
theorem sumW_snoc (l : List Int) (x : Int) : sumW (l ++ [x]) = sumW l + ofI x := by simp [sumW]
theorem sumW_bd (l : List Int) : 0 ≤ sumW l ∧ sumW l ≤ 2 * l.length := by
  induction l with
  | nil => simp [sumW]
  | cons x l ih =>
    have h := ofI_01 x
    have e : sumW (x :: l) = ofI x + sumW l := by simp [sumW]
    rw [e]
    simp only [List.length_cons]
    omega
theorem sumW_take (l : List Int) (k : Nat) (h : k < l.length) : sumW (l.take (k + 1)) = sumW (l.take k) + ofI l[k] := by
  rw [List.take_succ_eq_append_getElem h, sumW_snoc]

/-- how many of them fit, c columns being taken -/
def fitN (most : Int) : List Int → Int → Nat
  | [], _ => 0
  | x :: l, c => if most < c + ofI x then 0 else 1 + fitN most l (c + ofI x)
theorem fitN_le (most : Int) (l : List Int) : ∀ c, fitN most l c ≤ l.length := by
  induction l with
  | nil => intro c; simp [fitN]
  | cons x l ih =>
    intro c
    simp only [fitN]
    split
    · omega
    · have := ih (c + ofI x)
      simp only [List.length_cons]
      omega
/-- what is left decides -/
def fitAt (most : Int) (l : List Int) (k : Nat) : Nat := k + fitN most (l.drop k) (sumW (l.take k))
theorem fitAt_zero (most : Int) (l : List Int) : fitAt most l 0 = fitN most l 0 := by simp [fitAt, sumW]
theorem fitAt_step (most : Int) (l : List Int) (k : Nat) (h : k < l.length) (hn : ¬ most < sumW (l.take k) + ofI l[k]) : fitAt most l (k + 1) = fitAt most l k := by
  unfold fitAt
  rw [List.drop_eq_getElem_cons h]
  simp only [fitN]
  rw [if_neg hn, sumW_take l k h]
  omega
theorem fitAt_stop (most : Int) (l : List Int) (k : Nat) (h : k < l.length) (hn : most < sumW (l.take k) + ofI l[k]) : fitAt most l k = k := by
  unfold fitAt
  rw [List.drop_eq_getElem_cons h]
  simp only [fitN]
  rw [if_pos hn]
  omega
theorem fitAt_end (most : Int) (l : List Int) (k : Nat) (h : l.length ≤ k) : fitAt most l k = k := by
  unfold fitAt
  rw [List.drop_eq_nil_of_le h]
  simp [fitN]
theorem fitN_neg (most : Int) (l : List Int) (h : most < 0) : fitN most l 0 = 0 := by
  cases l with
  | nil => rfl
  | cons x l =>
    simp only [fitN]
    have := (ofI_01 x).1
    rw [if_pos (by omega)]

theorem fitN_spec (most : Int) (l : List Int) : ∀ c, c ≤ most → c + sumW (l.take (fitN most l c)) ≤ most ∧ (fitN most l c < l.length → most < c + sumW (l.take (fitN most l c + 1))) := by
  induction l with
  | nil => intro c h; simp [fitN, sumW]; omega
  | cons x l ih =>
    intro c h
    simp only [fitN]
    split
    · next hs => simp [sumW]; omega
    · next hs =>
      have := ih (c + ofI x) (by omega)
      have e1 : sumW ((x :: l).take (1 + fitN most l (c + ofI x))) = ofI x + sumW (l.take (fitN most l (c + ofI x))) := by
        rw [Nat.add_comm]; simp [sumW]
      have e2 : sumW ((x :: l).take (1 + fitN most l (c + ofI x) + 1)) = ofI x + sumW (l.take (fitN most l (c + ofI x) + 1)) := by
        rw [Nat.add_comm 1]; simp [sumW]
      rw [e1, e2]
      refine ⟨by omega, fun hl => ?_⟩
      have := this.2 (by simp only [List.length_cons] at hl; omega)
      omega
end Go.Proofs.YtfmkeeaenjeneaaGreatDoor

