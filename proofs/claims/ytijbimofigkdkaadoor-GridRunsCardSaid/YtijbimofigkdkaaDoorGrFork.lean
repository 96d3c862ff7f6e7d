/-
  Walk: Fork.
-/
import Derived.Test.YtijbimofigkdkaaDoorGrSame
import Derived.Test.YtijbimofigkdkaaDoorGrNew
namespace Go.Proofs.YtijbimofigkdkaaDoor
open Go.RowKit Go.Shelf
attribute [local go_sem] Oper.semAt_some
set_option linter.unusedVariables false
set_option linter.unusedSimpArgs false

theorem Chg.of_turn {b : Nat} {f : Nat → Prop} {A B : World} (h : Turn b f A B) : Chg (fun k => b ≤ k) A B :=
  ⟨h.os, h.tape, h.output, h.size, fun k hk hn => by rw [Array.getElem?_eq_getElem hk]; exact h.block k _ (Array.getElem?_eq_getElem hk) (.inl (by omega))⟩

/-- builtin copy in a round -/
theorem wpListIn_copy_k {F : Fence} {n : Nat} {P : Program} {w : World} {ops : Array Oper} {rest : List Oper} {o : Oper} {a : Act} {Q : Exit → Act → World → Prop} (hgd : o.guard = none) (d s : Operand) (dT sT : TypeId)
    (ho : o.op = .call { callee := .builtin .copy, args := #[d, s], argTypes := #[dT, sT] }) (elem : TypeId) (sz : Nat) (hu : P.underlying dT = some (.slice elem)) (hs : (P.info? elem).map (·.size) = some sz)
    (dp sp : Option Addr) (dLen dCap sLen sCap : Nat) (hd : a.eval d = .slice dp dLen dCap) (hsp : a.eval s = .slice sp sLen sCap) (g off : Nat) (t : TypeId) (cur : List Value) (hb : Blk w g t cur) (cs : List Value) (k : Nat) (hk : k = Nat.min sLen dLen) (hc : cs.length = k * sz)
    (hpos : 0 < k → dp = some ⟨g, off, none⟩ ∧ ∃ ad, sp = some ad ∧ ∀ j v, cs[j]? = some v → w.cell? (ad.add j) = some v) (hfit : off + cs.length ≤ cur.length) (h1 : ∀ v ∈ cs, v.oneCell' = true)
    (h : ∀ w', Blk w' g t (splice cur off cs) → w.grownBy w' (some g) → wpListIn F n P ops Q rest (a.put o.dst (.int .i64 k)) w') : wpListIn F n P ops Q (o :: rest) a w := by
  obtain ⟨w', hrun, h2, h3⟩ := run_copy_any (P := P) w dT sT o.type elem sz hu hs dp sp dLen dCap sLen sCap g off t cur hb cs k hk hc hpos hfit h1
  refine wpListIn_plain hgd fun K hK' => ?_
  unfold Oper.wpIn
  refine ⟨?_, ?_⟩
  · simp [Oper.about, ho, resolve, Target.leads, Sem.run_pure]
  · rw [Oper.semAt_plain F _ _ (by rw [ho]; intro c hc'; cases hc')]
    simp [execOp, ho, resolve, invoke, builtin, hd, hsp, hrun, Result.andThen]
    exact hK' _ _ (h w' h2 h3)

theorem splice_full (l m : List Cl) (h : l.length = m.length) : splice (rc l) 0 (rc m) = rc m := by
  have := rc_splice_list l m 0
  rw [Nat.zero_mul] at this
  rw [this]
  unfold splice
  rw [List.take_zero, List.nil_append, Nat.zero_add, List.drop_eq_nil_of_le (by omega), List.append_nil]

theorem blankG_len (W H : Nat) : (blankG W H).length = H := by simp [blankG]

set_option maxRecDepth 100000 in
set_option maxHeartbeats 4000000 in
theorem fork_any {w : World} {lo g rb W : Nat} {bs : List Nat} {L : List (List Cl)} (h : GrAt w lo g rb bs W L) (hT : BlankT w) :
    Calls Tryd.prog 11 #[.pointer (some ⟨g, 0, none⟩)] w fun e w' => ∃ g2 rb2 bs2, e = .returned (.pointer (some ⟨g2, 0, none⟩)) ∧ GrAt w' w.heap.size g2 rb2 bs2 W L ∧ Below w.heap.size w w' := by
  have hh5 := h.h5
  have hh1 := h.h1
  have hw5 := h.w5
  have hw1 := h.w1
  have HG := Lib.hid h
  have HT := Lib.hid hT
  clear h hT
  refine (callsIn_wide (n := 9)).1 ?_
  refine callsIn_of_wp_marks Tryd.func11 rfl trivial ?_ rfl
  simp only [Tryd.ntmps11, List.size_toArray, List.length_cons, List.length_nil, Nat.reduceAdd, Nat.reduceSub, Array.replicate_succ, Array.replicate_zero, List.push_toArray, List.append_toArray, List.nil_append, List.cons_append]
  refine wpIn_wide.2 ?_
  go_wp2_with (fail)
  refine (size_any HG.out).mono ?_
  rintro e w0 ⟨rfl, n0, rfl⟩
  go_wp2_with (fail)
  refine (new_ok W L.length hw1 hw5 hh1 hh5 (w.drewN n0) (HT.out.bel (below_dN (Below.refl _ w) n0))).mono ?_
  rintro e w1 ⟨g2, rb2, bs2, rfl, hg2, hb1⟩
  have hg2' : GrAt w1 w.heap.size g2 rb2 bs2 W (blankG W L.length) := hg2
  have hb1' : Below w.heap.size w w1 := (below_dN (Below.refl _ w) n0).trans hb1
  have HF := Lib.hid hg2'
  have HB1 := Lib.hid hb1'
  have HX1 := Lib.hid (Boxed.new w1 23 (.pointer (some ⟨g2, 0, none⟩)))
  clear hg2 hg2' hb1 hb1'
  go_wp2_with (go_at_call 32; refine (lines_any _ _).mono ?_; rintro e w' ⟨rfl, rfl⟩)
  refine (wpIn_wide (n := 9)).1 ?_
  have hbv : Below w1.heap.size w1 ((w1.alloc (.cells #[.pointer (some ⟨g2, 0, none⟩)] 23)).alloc (.cells #[.pointer (some ⟨g, 0, none⟩)] 23)) := ((Below.refl _ w1).alloc (Nat.le_refl _) _).alloc (by simp) _
  have hwb : Below w.heap.size w ((w1.alloc (.cells #[.pointer (some ⟨g2, 0, none⟩)] 23)).alloc (.cells #[.pointer (some ⟨g, 0, none⟩)] 23)) := HB1.out.trans (hbv.mono HB1.out.size)
  have hbx : Boxed ((w1.alloc (.cells #[.pointer (some ⟨g2, 0, none⟩)] 23)).alloc (.cells #[.pointer (some ⟨g, 0, none⟩)] 23)) (w1.heap.size + 1) 23 (.pointer (some ⟨g, 0, none⟩)) := by
    have := Boxed.new (w1.alloc (.cells #[.pointer (some ⟨g2, 0, none⟩)] 23)) 23 (.pointer (some ⟨g, 0, none⟩))
    simpa using this
  have hx1 : Boxed ((w1.alloc (.cells #[.pointer (some ⟨g2, 0, none⟩)] 23)).alloc (.cells #[.pointer (some ⟨g, 0, none⟩)] 23)) w1.heap.size 23 (.pointer (some ⟨g2, 0, none⟩)) := Boxed.alloc HX1.out _
  have hgl := HG.out.own_lt g (.inl rfl)
  have hrl := HG.out.own_lt rb (.inr (.inl rfl))
  have HGB := HG.out.below hwb
  have HFB := HF.out.below hbv
  have HOWN := Lib.hid HF.out.own_lt
  have HLOW := Lib.hid HF.out.lo
  have hszw : ((w1.alloc (.cells #[.pointer (some ⟨g2, 0, none⟩)] 23)).alloc (.cells #[.pointer (some ⟨g, 0, none⟩)] 23)).heap.size = w1.heap.size + 2 := by simp
  have HSZ := Lib.hid hszw
  have hws := HB1.out.size
  have hf0lt : ∀ k, (k < w.heap.size ∨ k = w1.heap.size + 1) → k < ((w1.alloc (.cells #[.pointer (some ⟨g2, 0, none⟩)] 23)).alloc (.cells #[.pointer (some ⟨g, 0, none⟩)] 23)).heap.size := fun k hk => by
    have h2 := HSZ.out
    rcases hk with h | h <;> omega
  clear hszw
  refine range_priv rfl (by omega) (gf := 51) (lb := #[.pointer (some ⟨w1.heap.size + 1, 0, none⟩)]) rfl trivial (enters_of Tryd.func51 (by kernel_rfl) rfl)
    (lines_stops (w1.heap.size + 1) g rb W bs (by rw [HG.out.len]; exact hh5) (fun k => k < w.heap.size ∨ k = w1.heap.size + 1) _ hbx.cell HGB.ptr (by rw [HG.out.len]; exact HGB.rws) (fun k b hb => by rw [HGB.rows.cell, List.getElem?_map, hb]; rfl) (.inr rfl) (.inl hgl) (.inl hrl))
    (Nat.le_refl _) (fun k hk => ⟨hf0lt k hk, rfl⟩) (fun _ => rfl)
    (fun pre f X => Boxed X w1.heap.size 23 (.pointer (some ⟨g2, 0, none⟩)) ∧ (∃ L', L'.length = L.length ∧ GrAt X w.heap.size g2 rb2 bs2 W L' ∧ ∀ x ∈ pre, L'[x.1]? = L[x.1]?) ∧ Below w.heap.size w X)
    (fun c pre f X => False ∧ Below w.heap.size w X)
    (AbP.and (AbP.boxed (fun _ => .pointer (some ⟨g2, 0, none⟩)) (by rw [HSZ.out]; omega)) (AbP.and (fun pre f f' A B hp ht _ => by
      obtain ⟨L', h1, h2, h3⟩ := hp
      exact ⟨L', h1, h2.keep (Chg.of_turn ht) (fun k hk => by have := HOWN.out k hk; have := HSZ.out; omega), h3⟩) (AbP.below (by rw [HSZ.out]; omega) (Nat.le_refl _))))
    (fun _ => AbP.and (AbP.none _) (AbP.below (by rw [HSZ.out]; omega) (Nat.le_refl _)))
    ⟨hx1, ⟨blankG W L.length, blankG_len _ _, HFB, fun x hx => by simp at hx⟩, hwb⟩
    (fun x => { tmps := #[.pointer (some ⟨g, 0, none⟩), undef, .pointer none, .pointer (some ⟨w1.heap.size, 0, none⟩), .int .i64 0, .int .i64 x.1, .slice (some ⟨x.2, 0, none⟩) W W,
      .tuple #[.pointer (some ⟨g2, 0, none⟩), .int .i64 0], .pointer (some ⟨g, 0, none⟩), .tuple #[.int .i64 W, .int .i64 L.length], .int .i64 W, .int .i64 L.length, .tuple #[.pointer (some ⟨g2, 0, none⟩), .int .i64 0],
      .pointer (some ⟨g2, 0, none⟩), .int .i64 0, .int .i64 0, .bool false, .pointer (some ⟨g, 0, none⟩), .func (.func 51) #[] #[.pointer (some ⟨w1.heap.size + 1, 0, none⟩)],
      .int .i64 x.1, .slice (some ⟨x.2, 0, none⟩) W W, undef, undef, undef, undef, undef, undef, undef, undef, undef, undef], defers := [] }) ?assign ?body ?done ?stop
  case assign =>
    intro l x X K hK
    simp only [encL, rowV]
    gi_wp2
    exact hK
  case body =>
    rintro l pre x f X hf hz ⟨hb1, ⟨L', hL', hgx, hp⟩, hbW⟩ hlen hel
    have hxl : x.1 < L.length := by have := (List.getElem?_eq_some_iff.1 hel).1; have := HG.out.len; omega
    have HX := HG.out.below hbW
    obtain ⟨b, l1, hbi, hl1, hrv, hlen1, hwf1, hbl⟩ := HX.at_ hxl
    obtain rfl : b = x.2 := by rw [hel] at hbi; injection hbi with hbi; exact hbi.symm
    obtain ⟨b2, l2, hbi2, hl2, hrv2, hlen2, _, hbl2⟩ := hgx.at_ (i := x.1) (by rw [hL']; exact hxl)
    have hs2 := hgx.rws
    unfold rowV at hrv2
    have hx2i : (x.1 : Int) < L'.length := by omega
    have hc := hb1.cell
    have hown2 : GrOwn g2 rb2 bs2 b2 := .inr (.inr (List.mem_of_getElem? hbi2))
    have hnf : ¬ f b2 := fun hk => by
      have h1 := HOWN.out b2 hown2
      have h2 := HLOW.out b2 hown2
      have h3 := HSZ.out
      rcases hf _ hk with h | h
      · rcases h with h | h <;> omega
      · omega
    have hflt : ∀ k, f k → k < X.heap.size := fun k hk => by
      have h2 := HSZ.out
      have h3 := hbW.size
      rcases hf k hk with h | h
      · rcases h with h | h <;> omega
      · omega
    have hne : w1.heap.size ≠ b2 := fun e => by have h1 := HOWN.out b2 hown2; omega
    have hb2w : w.heap.size ≤ b2 := HLOW.out b2 hown2
    have HP := Lib.hid hp
    have HB1 := Lib.hid hb1
    have HBW := Lib.hid hbW
    have HGX := Lib.hid hgx
    have HFF := Lib.hid hflt
    have HNF := Lib.hid hnf
    have HL1 := Lib.hid hl1
    have HL2 := Lib.hid hl2
    have HBI2 := Lib.hid hbi2
    have HBL := Lib.hid hbl
    have HBL2 := Lib.hid hbl2
    have HLL := Lib.hid hL'
    have HEN1 := Lib.hid hlen1
    have HEN2 := Lib.hid hlen2
    have HWF := Lib.hid hwf1
    have HNE := Lib.hid hne
    clear hp hb1 hbW hgx hflt hnf hf hel hbi hbi2 hlen1 hlen2 hbl hbl2 hl1 hl2 HX hrv hlen hL' hown2 hne hwf1
    obtain ⟨w4, hrun, hn4, hg4⟩ := run_copy_any (P := Tryd.prog) X 46 46 3 51 7 Tryd.underlying46 cl_size (some ⟨b2, 0, none⟩) (some ⟨x.2, 0, none⟩) W W W W b2 0 51 (rc l2) HBL2.out (rc l1) W (by show W = min W W; omega) (by rw [rc_length, HEN1.out]) (fun _ => ⟨rfl, _, rfl, fun j v hv => by rw [Addr.add_mid, Nat.zero_add]; exact (HBL.out.cell j).trans hv⟩) (by rw [rc_length, rc_length, HEN1.out, HEN2.out]; omega) (rc_one _)
    rw [splice_full _ _ (by rw [HEN1.out, HEN2.out])] at hn4
    have HN4 := Lib.hid hn4
    have HG4 := Lib.hid hg4
    clear hn4 hg4
    gi_wp2
    have hn4 := HN4.out
    have hg4 := HG4.out
    have hch := chg_of_grown hg4
    refine ⟨Rk.grown (Rk.refl _ f X) hg4 HFF.out (fun k hk => ?_), ?_, ⟨L'.set x.1 l1, by rw [List.length_set]; exact HLL.out, HGX.out.set HBI2.out hch HEN1.out HWF.out hn4, ?_⟩, HBW.out.grown hg4 HBW.out.size (fun k hk => ?_)⟩
    · injection hk with hk
      subst hk
      refine ⟨HNF.out, fun o ho => ?_⟩
      rw [HBL2.out] at ho
      injection ho with ho
      subst ho
      rfl
    · exact (hg4.block _ HB1.out.lt (fun e => HNE.out (Option.some.inj e))).trans HB1.out
    · intro y hy
      rcases List.mem_append.1 hy with hy | hy
      · by_cases e : x.1 = y.1
        · rw [← e, List.getElem?_set_self (by rw [HLL.out]; exact hxl)]
          exact HL1.out.symm
        · rw [List.getElem?_set_ne e]
          exact HP.out y hy
      · simp at hy
        subst hy
        rw [List.getElem?_set_self (by rw [HLL.out]; exact hxl)]
        exact HL1.out.symm
    · injection hk with hk
      omega
  case done =>
    rintro D ys f X hD rfl ⟨hb1, ⟨L', hL', hgx, hp⟩, hbW⟩ hK
    have hLL : L' = L := by
      apply List.ext_getElem?
      intro i
      by_cases hi : i < bs.length
      · exact hp _ (List.mem_of_getElem? (lns_get hi))
      · have e1 := HG.out.len
        rw [List.getElem?_eq_none (by omega), List.getElem?_eq_none (by omega)]
    subst hLL
    have hc := hb1.cell
    have HGX := Lib.hid hgx
    have HBW := Lib.hid hbW
    have HKK := Lib.hid hK
    have hDs : ((w1.alloc (.cells #[.pointer (some ⟨g2, 0, none⟩)] 23)).alloc (.cells #[.pointer (some ⟨g, 0, none⟩)] 23)).heap.size ≤ D := hD
    clear hp hb1 hL' hgx hbW hK
    go_wp2
    refine ⟨by simp, .inl ⟨_, _, rfl, run_takeDeferred HKK.out, ?_⟩⟩
    refine ⟨.pointer (some ⟨g2, 0, none⟩), by simp [results, Tryd.f11, go_sem], g2, rb2, bs2, rfl, HGX.out.keep ((chg_of_grown (grownBy_putObj' X D (.deferred none)))) (fun k hk e => ?_), HBW.out.trans (belowK_b (w := w) (Nat.le_refl _) X D _ _ (by have := HSZ.out; omega) HKK.out rfl rfl)⟩
    have h1 := HOWN.out k hk
    have h2 := HSZ.out
    have e' : k = D := e
    omega
  case stop =>
    rintro D c pre f X hD hpre ⟨h, _⟩ hK
    exact h.elim
end Go.Proofs.YtijbimofigkdkaaDoor
