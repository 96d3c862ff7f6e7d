/-
  Walk: told of the law LayoutBoxes.
-/
import Derived.Test.YtdodogehlnchlaaLyBoxP
import Derived.Sort.CutIn
namespace Go.Proofs.Ytdodogehlnchlaa
open Go.RowKit Go.Shelf Go.Sort
attribute [local go_sem] Oper.semAt_some
set_option linter.unusedVariables false
set_option linter.unusedSimpArgs false

theorem wpListIn_app {F : Fence} {n : Nat} {ops : Array Oper} {rest : List Oper} {o : Oper} {a : Act} {w : World} {Q : Exit → Act → World → Prop} (T U : TypeId) (hgd : o.guard = none) (s x : Operand)
    (ho : o.op = .call { callee := .builtin .append, args := #[s, x], argTypes := #[T, U] }) (vs vx v' : Value) (w' : World) (hs : a.eval s = vs) (hx : a.eval x = vx)
    (hrun : (Builtin.append_ #[T, U] o.type #[vs, vx]).run Try.prog w = .ok v' w') (h : wpListIn F n Try.prog ops Q rest (a.put o.dst v') w') : wpListIn F n Try.prog ops Q (o :: rest) a w := by
  refine wpListIn_plain hgd fun K hK' => ?_
  unfold Oper.wpIn
  refine ⟨?_, ?_⟩
  · simp [Oper.about, ho, resolve, Target.leads, Sem.run_pure]
  · rw [Oper.semAt_plain F _ _ (by rw [ho]; intro c hc'; cases hc')]
    simp [execOp, ho, resolve, invoke, builtin, hs, hx, hrun, Result.andThen]
    exact hK' _ _ h
theorem at_dstI {F : Fence} {n : Nat} {P : Program} {ops : Array Oper} {rest : List Oper} {a : Act} {w : World} {Q : Exit → Act → World → Prop} (d : Tmp) {op : Op} {ty : TypeId} {pos : String} {af : Array Edge} {gd : Option (Nat × Bool)} (h : wpListIn F n P ops Q (⟨some d, op, ty, pos, af, gd⟩ :: rest) a w) : wpListIn F n P ops Q (⟨some d, op, ty, pos, af, gd⟩ :: rest) a w := h
theorem Rk.of_chg {base : Nat} {f S : Nat → Prop} {A B : World} (h : Chg S A B) (hS : ∀ k, S k → ¬ f k ∧ ∀ o, A.heap[k]? = some o → o.isCells = true) (hf : ∀ k, f k → k < A.heap.size) : Rk base f A B :=
  ⟨⟨h.os, h.tape, h.output, h.size, fun k hk => by omega⟩, ⟨h.size, fun k o _ ho hc => h.heap ho (fun hs => by rw [(hS k hs).2 o ho] at hc; cases hc)⟩, fun k hk => h.block k (hf k hk) (fun hs => (hS k hs).1 hk)⟩
theorem OX.cells {w : World} {base n c : Nat} {A : Option Addr} {L : List Bx} (h : OX w base A n c L) (g : Nat) (hg : blk A = some g) : ∀ o, w.heap[g]? = some o → o.isCells = true := by
  rcases h with ⟨hl, ⟨hv, h0⟩ | ⟨q, cap, cur, hv, hb, hh, hnc, hc, hcur, ht⟩⟩
  · injection hv with hA
    subst hA
    cases hg
  · injection hv with hA
    subst hA
    have : q = g := by simpa [blk] using hg
    subst this
    intro o ho
    rw [hh] at ho
    cases ho
    rfl
theorem OX.turn {b : Nat} {f : Nat → Prop} {X Y : World} {base n c : Nat} {A : Option Addr} {L : List Bx} (h : OX X base A n c L) (ht : Turn b f X Y) (hf : ∀ g, blk A = some g → ¬ f g) : OX Y base A n c L := by
  obtain ⟨hl, hv⟩ := h
  refine ⟨hl, ?_⟩
  rcases hv with hv | ⟨g, cap, cur, hv, h1, h2, h3⟩
  · exact .inl hv
  · refine .inr ⟨g, cap, cur, hv, h1, ?_, h3⟩
    injection hv with hA
    subst hA
    exact ht.block _ _ h2 (.inr ⟨hf g rfl, rfl⟩)
theorem OX.len {w : World} {base n c : Nat} {A : Option Addr} {L : List Bx} (h : OX w base A n c L) : n = L.length := by
  have := h.1
  rw [bxB_length] at this
  omega
theorem World.ownsRow.weakenB {w : World} {base base' : Nat} {e : TypeId} {sz n : Nat} {v : Value} {xs : List Value} (h : w.ownsRow base e sz v n xs) (hb : base' ≤ base) : w.ownsRow base' e sz v n xs := by
  obtain ⟨hl, hv⟩ := h
  refine ⟨hl, ?_⟩
  rcases hv with hv | ⟨g, cap, cur, hv, h1, h2⟩
  · exact .inl hv
  · exact .inr ⟨g, cap, cur, hv, Nat.le_trans hb h1, h2⟩
def okV (pre : List (Nat × Bx)) : Bool := decide (pre.map (·.1) = List.range pre.length)
theorem okV_nil : okV [] = true := rfl
theorem okV_snoc (pre : List (Nat × Bx)) (x : Nat × Bx) : okV (pre ++ [x]) = (okV pre && decide (x.1 = pre.length)) := by
  unfold okV
  rw [List.map_append, List.length_append, List.length_singleton, List.range_succ, List.map_singleton]
  by_cases h1 : pre.map (·.1) = List.range pre.length
  · by_cases h2 : x.1 = pre.length
    · rw [h1, h2]; simp
    · rw [decide_eq_true h1, decide_eq_false h2, decide_eq_false (fun h => h2 (by have := (List.append_inj h (by simp)).2; simpa using this))]; rfl
  · rw [decide_eq_false h1, decide_eq_false (fun h => h1 (List.append_inj h (by simp)).1)]; rfl
theorem okV_pre {p : List (Nat × Bx)} {L : List Bx} (h : p <+: lnB L) : okV p = true ∧ p.map (·.2) = L.take p.length := by
  obtain ⟨t, ht⟩ := h
  have e1 : (lnB L).map (·.1) = List.range L.length := by
    unfold lnB
    rw [List.map_map]
    apply List.ext_getElem?
    intro i
    simp only [List.getElem?_map, List.getElem?_zipIdx, Function.comp]
    by_cases hi : i < L.length
    · simp [hi]
    · simp [hi]
  have e2 : (lnB L).map (·.2) = L := by
    unfold lnB
    rw [List.map_map]
    apply List.ext_getElem?
    intro i
    simp only [List.getElem?_map, List.getElem?_zipIdx, Function.comp]
    cases L[i]? <;> rfl
  have hl : p.length ≤ L.length := by have := congrArg List.length ht; rw [List.length_append, lnB_length] at this; omega
  constructor
  · refine decide_eq_true ?_
    have : (p ++ t).map (·.1) = List.range L.length := by rw [ht, e1]
    rw [List.map_append] at this
    have h2 := congrArg (List.take p.length) this
    rw [List.take_left' (by simp)] at h2
    rw [h2]
    apply List.ext_getElem?
    intro i
    rw [List.getElem?_take]
    by_cases hi : i < p.length
    · simp [hi, show i < L.length by omega]
    · simp [hi]
  · have : (p ++ t).map (·.2) = L := by rw [ht, e2]
    rw [List.map_append] at this
    have h2 := congrArg (List.take p.length) this
    rwa [List.take_left' (by simp)] at h2
/-- within a round of told: mb, lb, ob: the boxes of most, l, ok -/
structure TB (w0 : World) (mb lb ob base most : Nat) (pre : List (Nat × Bx)) (f : Nat → Prop) (V : World) : Prop where
  b0 : Boxed V mb 3 (.int .i64 (most : Nat))
  b1 : ∃ A c, Boxed V lb 47 (.slice A pre.length c) ∧ OX V base A pre.length c (pre.map (·.2)) ∧ ∀ g, blk A = some g → ¬ f g
  b2 : Boxed V ob 4 (.bool (okV pre))
  bel : Below w0.heap.size w0 V
  le : pre.length ≤ most
theorem TB.ab {w0 : World} {mb lb ob base most b : Nat} (h1 : mb < b) (h2 : lb < b) (h3 : ob < b) (h4 : w0.heap.size ≤ b) : AbP b (fun pre f V => TB w0 mb lb ob base most pre f V) := fun pre f f' X Y q ht hf => by
  obtain ⟨A, c, q1, q2, q3⟩ := q.b1
  exact ⟨ht.block _ _ q.b0 (.inl h1), ⟨A, c, ht.block _ _ q1 (.inl h2), q2.turn ht q3, fun g hg hfg => by
    rcases hf g hfg with h | h
    · exact q3 g hg h
    · have := (q2.blk_lt g hg).2; omega⟩, ht.block _ _ q.b2 (.inl h3), AbP.below (n₀ := w0.heap.size) (β := Unit) h4 (Nat.le_refl _) () f f' X Y q.bel ht hf, q.le⟩
theorem SeqP.toQ {α : Type} {F : Fence} {n : Nat} {P : Program} {g : Nat} {lb : Array Value} {encs : α → Array Value} {f0 : Nat → Prop} {El : α → Prop} {S Sp : List α → Prop} {N : Nat} {w : World} (h : SeqP F n P g lb encs f0 El S Sp N w) : SeqQ F n P g lb encs f0 El S Sp N (fun _ => True) w :=
  fun l J Jx W hs hf hJ hJx _ hY h0 => h l J Jx W hs hf hJ hJx hY h0

theorem it_nil (D C : Nat) (w : World) : Sem.run Try.prog (binOp .eql 73 (.func (.func 45) #[] #[.pointer (some ⟨D, 0, none⟩), .pointer (some ⟨C, 0, none⟩)]) .nilFunc) w = .ok (.bool false) w := by kernel_rfl

set_option maxRecDepth 100000 in
set_option maxHeartbeats 16000000 in
theorem told_any (ww hh gap : Int) (Ar Ac : Option Addr) (n m cr cc : Nat) (Pr Pc : Nat → Pt) (most : Nat) (w : World) (hmo : most ≤ 1000) (hn : n ≤ 64) (hm : m ≤ 64) (hSr : Sl w w.heap.size Ar (ptB Pr n)) (hSc : Sl w w.heap.size Ac (ptB Pc m)) :
    Calls Try.prog 23 #[.int .i64 ww, .int .i64 hh, .int .i64 gap, .slice Ar n cr, .slice Ac m cc, .int .i64 (most : Nat)] w fun e w' => ∃ A c, e = .returned (.tuple #[.slice A (min (bxsR ww hh gap n m Pr Pc).length most) c, .bool true]) ∧ OX w' w.heap.size A (min (bxsR ww hh gap n m Pr Pc).length most) c ((bxsR ww hh gap n m Pr Pc).take most) ∧ Below w.heap.size w w' := by
  have hb1 : Below w.heap.size w (w.alloc (.cells #[.int .i64 (most : Nat)] 3)) := (Below.refl _ w).alloc (Nat.le_refl _) _
  have HMB := Lib.hid (Boxed.new w 3 (.int .i64 (most : Nat)))
  have HP := Lib.hid (pboxes_any ww hh gap Ar Ac n m cr cc Pr Pc (w.alloc (.cells #[.int .i64 (most : Nat)] 3)) (by omega) (by omega) ((hSr.below hb1).more hb1.size) ((hSc.below hb1).more hb1.size))
  have HB1 := Lib.hid hb1
  have hs1 : (w.alloc (.cells #[.int .i64 (most : Nat)] 3)).heap.size = w.heap.size + 1 := by simp
  have HS1 := Lib.hid hs1
  obtain ⟨LL, hLL⟩ : ∃ L, bxsR ww hh gap n m Pr Pc = L := ⟨_, rfl⟩
  have HLL : Hid (lnB (boxL (upR hh n Pr) (if okB ww hh gap n m Pr Pc then n else 0) (sdR ww gap m Pc) (if okB ww hh gap n m Pr Pc then m else 0)) = lnB LL) := by
    show _ = _
    rw [← hLL]
    unfold bxsR
    by_cases h : okB ww hh gap n m Pr Pc
    · rw [if_pos h, if_pos h, if_pos h]
    · rw [if_neg h, if_neg h, if_neg h]; rfl
  rw [hLL]
  obtain ⟨n', hn'⟩ : ∃ x, (if okB ww hh gap n m Pr Pc then n else 0) = x := ⟨_, rfl⟩
  obtain ⟨m', hm'⟩ : ∃ x, (if okB ww hh gap n m Pr Pc then m else 0) = x := ⟨_, rfl⟩
  have hn64 : n' ≤ 64 := by rw [← hn']; split <;> omega
  have hm64 : m' ≤ 64 := by rw [← hm']; split <;> omega
  rw [hn', hm'] at HP HLL
  clear hn' hm' hLL hSr hSc hb1 hs1
  obtain ⟨W1, hW1⟩ : ∃ W1, W1 = w.alloc (.cells #[.int .i64 (most : Nat)] 3) := ⟨_, rfl⟩
  rw [← hW1] at HMB HP HB1 HS1
  have HW1 := Lib.hid hW1
  clear hW1
  refine (callsIn_wide (n := 9)).1 ?_
  refine callsIn_of_wp_marks Try.func23 rfl trivial ?_ rfl
  simp only [Try.ntmps23, List.size_toArray, List.length_cons, List.length_nil, Nat.reduceAdd, Nat.reduceSub, Array.replicate_succ, Array.replicate_zero, List.push_toArray, List.append_toArray, List.nil_append, List.cons_append]
  refine wpIn_wide.2 ?_
  go_upto_region 1 with (fail)
  rw [← HW1.out]
  clear HW1
  go_wp2_with (go_at_call 38; refine HP.out.mono ?_; rintro e w2 ⟨D, C, B1, B2, A1, A2, rfl, hit⟩; have HIT := Lib.hid hit; have hnl := it_nil D C; clear hit)
  have hit := HIT.out
  have hlb := (Boxed.new w2 47 (.slice none 0 0)).alloc (.cells #[.bool true] 4)
  have hob := Boxed.new (w2.alloc (.cells #[.slice none 0 0] 47)) 4 (.bool true)
  rw [World.size_alloc] at hob
  have hb2 : Below w2.heap.size w2 ((w2.alloc (.cells #[.slice none 0 0] 47)).alloc (.cells #[.bool true] 4)) := ((Below.refl _ w2).alloc (Nat.le_refl _) _).alloc (by simp) _
  have hs2 : ((w2.alloc (.cells #[.slice none 0 0] 47)).alloc (.cells #[.bool true] 4)).heap.size = w2.heap.size + 2 := by simp
  obtain ⟨X1, hX1⟩ : ∃ X1, X1 = ((w2.alloc (.cells #[.slice none 0 0] 47)).alloc (.cells #[.bool true] 4)) := ⟨_, rfl⟩
  rw [← hX1] at hlb hob hb2 hs2 ⊢
  clear hX1 hnl
  have hwl : w.heap.size < w2.heap.size := by have := HS1.out; have := HIT.out.bel.size; omega
  have hmb : Boxed X1 w.heap.size 3 (.int .i64 (most : Nat)) := ((hb2.block _ hwl).trans (HIT.out.bel.block _ (Boxed.lt HMB.out))).trans HMB.out
  have hbel : Below w.heap.size w X1 := HB1.out.trans ((HIT.out.bel.trans (hb2.mono HIT.out.bel.size)).mono HB1.out.size)
  have hdl := Boxed.lt hit.d
  have hcl := Boxed.lt hit.c
  have hseq := boxes_stops (upR hh n Pr) (sdR ww gap m Pc) n' m' A1 A2 B1 B2 D C X1 hn64 hm64 hit.a1 hit.a2 (fun h => (hit.s1 h).below hb2 (hit.s1 h).lt) (fun h => (hit.s2 h).below hb2 (hit.s2 h).lt) ((hb2.block _ hdl).trans hit.d) ((hb2.block _ hcl).trans hit.c)
    (fun k => k = D ∨ k = C ∨ (0 < n' ∧ k = B1) ∨ (0 < m' ∧ k = B2)) (.inl rfl) (.inr (.inl rfl)) (fun h => .inr (.inr (.inl ⟨h, rfl⟩))) (fun h => .inr (.inr (.inr ⟨h, rfl⟩))) (fun k hk => by
      rcases hk with rfl | rfl | ⟨h, rfl⟩ | ⟨h, rfl⟩
      · omega
      · omega
      · have := (hit.s1 h).lt; omega
      · have := (hit.s2 h).lt; omega)
  have HFO : Hid (∀ k, (k = D ∨ k = C ∨ (0 < n' ∧ k = B1) ∨ (0 < m' ∧ k = B2)) → k < w2.heap.size) := fun k hk => by
    rcases hk with rfl | rfl | ⟨h, rfl⟩ | ⟨h, rfl⟩
    · exact hdl
    · exact hcl
    · exact (hit.s1 h).lt
    · exact (hit.s2 h).lt
  rw [HLL.out] at hseq
  have HSEQ := Lib.hid hseq
  have HTB0 : Hid (TB w w.heap.size w2.heap.size (w2.heap.size + 1) (w2.heap.size + 2) most [] (fun k => k = D ∨ k = C ∨ (0 < n' ∧ k = B1) ∨ (0 < m' ∧ k = B2)) X1) := ⟨hmb, ⟨none, 0, hlb, OX.none_ _ _, fun g hg => by cases hg⟩, hob, hbel, by simp⟩
  have HAB : Hid (AbP X1.heap.size (fun pre f V => TB w w.heap.size w2.heap.size (w2.heap.size + 1) (w2.heap.size + 2) most pre f V)) := TB.ab (by omega) (by omega) (by omega) (by have := hwl; omega)
  clear hit hlb hob hb2 hmb hbel hdl hcl hseq HIT
  refine (wpIn_wide (n := 9)).1 ?_
  refine range_qA rfl (by omega) (gf := 45) (lb := #[.pointer (some ⟨D, 0, none⟩), .pointer (some ⟨C, 0, none⟩)]) rfl trivial (enters_of Try.func45 (by kernel_rfl) rfl)
    HSEQ.out.toQ
    (Nat.le_refl _) (fun k hk => ⟨by have := HFO.out k hk; omega, rfl⟩) (fun _ => rfl)
    (fun pre f V => TB w w.heap.size w2.heap.size (w2.heap.size + 1) (w2.heap.size + 2) most pre f V)
    (fun c pre' f V => c = .exit 0 ∧ ∃ p x, pre' = p ++ [x] ∧ p.length = most ∧ TB w w.heap.size w2.heap.size (w2.heap.size + 1) (w2.heap.size + 2) most p f V)
    (fun _ _ _ _ => trivial)
    HAB.out
    (by
      rintro c pre' f f' A B ⟨hc, p, x, e1, e2, h⟩ ht hf
      exact ⟨hc, p, x, e1, e2, HAB.out p f f' A B h ht hf⟩)
    HTB0.out
    (fun pre f x a' V => ∃ xb, a' = { tmps := #[.int .i64 ww, .int .i64 hh, .int .i64 gap, .slice Ar n cr, .slice Ac m cc, .int .i64 (most : Nat), undef, undef, undef, undef, undef, .pointer (some ⟨w.heap.size, 0, none⟩), .slice none 0 0, .bool false, .func (.func 45) #[] #[.pointer (some ⟨D, 0, none⟩), .pointer (some ⟨C, 0, none⟩)], .pointer (some ⟨w2.heap.size, 0, none⟩), .pointer (some ⟨w2.heap.size + 1, 0, none⟩), .int .i64 x.1, .pointer (some ⟨xb, 0, none⟩), .int .i64 ww, .int .i64 hh, .int .i64 gap, .slice Ar n cr, .slice Ac m cc, .func (.func 45) #[] #[.pointer (some ⟨D, 0, none⟩), .pointer (some ⟨C, 0, none⟩)], .func (.func 45) #[] #[.pointer (some ⟨D, 0, none⟩), .pointer (some ⟨C, 0, none⟩)], .bool false, .func (.func 45) #[] #[.pointer (some ⟨D, 0, none⟩), .pointer (some ⟨C, 0, none⟩)], .int .i64 x.1, .agg #[.int .i64 x.2.r, .int .i64 x.2.c, .int .i64 x.2.h, .int .i64 x.2.w], undef, undef, undef, undef, undef, undef, undef, undef, undef, undef, undef, undef, undef, undef, undef, undef, undef], defers := [] } ∧
      Blk V xb 52 (bxC x.2) ∧ X1.heap.size + 2 ≤ xb)
    ?hAx ?assign ?body ?done ?stop
  case hAx =>
    rintro pre f x a' V lo o o' hlo ho hc ⟨xb, e, hb, hr⟩
    refine ⟨xb, e, (World.putObj_heap_other (fun e => ?_)).trans hb, hr⟩
    subst e
    have hb' : V.heap[xb]? = _ := hb
    rw [ho] at hb'
    cases hb'
    cases hc
  case assign =>
    intro lo pre x f V K hff hz hTB hlen hel hK
    have hfin := hK _ (V.alloc (.cells #[.int .i64 x.2.r, .int .i64 x.2.c, .int .i64 x.2.h, .int .i64 x.2.w] 52))
      (Rk.of_below ((Below.refl _ _).alloc (Nat.le_refl _) _) (fun k hk => by rcases hff k hk with h | h; (have := HFO.out k h; omega); exact h.2)) (HAB.out pre f f V _ hTB (Turn.of_below ((Below.refl _ _).alloc (Nat.le_refl _) _)) (fun k h => .inl h)) ⟨V.heap.size, rfl, Blk.new V 52 (bxC x.2), by omega⟩
    have HFN := Lib.hid hfin
    simp only [encB]
    rw [put_two]
    clear hK hTB hfin
    gi_wp2
    exact HFN.out
  case body =>
    rintro lo pre x a' f V hff hz hlo hrec hTB ⟨xb, rfl, hxb, hxl⟩ hlen hel
    obtain ⟨A, c, q1, q2, q3⟩ := hTB.b1
    have k0 := hTB.b0.cell
    have k1 := q1.cell
    have k2 := hTB.b2.cell
    have hf2 := hTB.b2.frozen
    have hf1 := q1.frozen
    have hpl : (pre.length : Int) ≤ 1000 := by have := hTB.le; omega
    by_cases hge : most ≤ pre.length
    · have hgi : (pre.length : Int) ≥ (most : Int) := by omega
      have hle := hTB.le
      have HT := Lib.hid hTB
      clear hTB hf1 hf2 k2 q1 q2 q3
      gi_wp2
      exact ⟨KeepsFrom.refl _ _, rfl, pre, x, rfl, by omega, HT.out⟩
    · have hgi : ¬ (pre.length : Int) ≥ (most : Int) := by omega
      have hnf : ∀ k, w2.heap.size ≤ k → k < X1.heap.size → ¬ f k := fun k h1 h2 h => by
        rcases hff k h with h' | h'
        · have := HFO.out k h'; omega
        · omega
      have hnm : ¬ f w.heap.size ∨ True := .inr trivial
      have hfV : ∀ k, f k → k < V.heap.size := fun k h => by
        rcases hff k h with h' | h'
        · have := HFO.out k h'; omega
        · exact h'.2
      have hbA : ∀ g, blk A = some g → w2.heap.size + 2 ≤ g ∧ g < V.heap.size := fun g hg => q2.blk_lt g hg
      have hxs : V.heap.size = V.heap.size := rfl
      -- for each value of the flag: the append's run, and what holds behind the round
      have hall : ∀ v : Bool, ∃ A' c' V5, (Builtin.append_ #[47, 47] 47 #[.slice A pre.length c, .slice (some ⟨(V.setCell ⟨w2.heap.size + 1, 0, none⟩ (.bool v)).heap.size, 0, none⟩) 1 1]).run Try.prog ((V.setCell ⟨w2.heap.size + 1, 0, none⟩ (.bool v)).alloc (.cells #[.int .i64 x.2.r, .int .i64 x.2.c, .int .i64 x.2.h, .int .i64 x.2.w] 52)) = .ok (.slice A' (pre.length + 1) c') V5 ∧
          V5.cell? ⟨w2.heap.size, 0, none⟩ = some (.slice A pre.length c) ∧ V5.frozen? ⟨w2.heap.size, 0, none⟩ = false ∧
          (v = okV (pre ++ [x]) → Rk X1.heap.size f V (V5.setCell ⟨w2.heap.size, 0, none⟩ (.slice A' (pre.length + 1) c')) ∧ TB w w.heap.size w2.heap.size (w2.heap.size + 1) (w2.heap.size + 2) most (pre ++ [x]) f (V5.setCell ⟨w2.heap.size, 0, none⟩ (.slice A' (pre.length + 1) c'))) := fun v => by
        have h1 : OX (V.setCell ⟨w2.heap.size + 1, 0, none⟩ (.bool v)) (w2.heap.size + 2) A pre.length c (pre.map (·.2)) := q2.kept (row := some (w2.heap.size + 1)) (grownBy_setCell' _ _ _) (by
          cases hA' : blk A with
          | none => exact .inl rfl
          | some y => exact .inr (fun e => by have := (hbA y hA').1; injection e with e; omega))
        have hsz1 : (V.setCell ⟨w2.heap.size + 1, 0, none⟩ (.bool v)).heap.size = V.heap.size := by simp [World.setCell]
        obtain ⟨A', c', V5, hrun, ho, hch, hat⟩ := run_appX (V.setCell ⟨w2.heap.size + 1, 0, none⟩ (.bool v)) (w2.heap.size + 2) A pre.length c (pre.map (·.2)) h1 (by rw [hsz1]; omega) x.2 (by omega)
        have hlbe : w2.heap.size < V.heap.size := by omega
        have tr : ∀ k, k < w2.heap.size + 2 → V5.heap[k]? = (V.setCell ⟨w2.heap.size + 1, 0, none⟩ (.bool v)).heap[k]? := fun k hk => hch.block k (by rw [hsz1]; omega) (fun h => by have := (hbA k h).1; omega)
        have hlb5 : Boxed V5 w2.heap.size 47 (.slice A pre.length c) := (tr _ (by omega)).trans (Boxed.other q1 (B' := w2.heap.size + 1) (by omega) _)
        refine ⟨A', c', V5, hrun, hlb5.cell, hlb5.frozen, fun hv => ?_⟩
        subst hv
        have hbA' : ∀ g, blk A' = some g → w2.heap.size + 2 ≤ g ∧ ¬ f g := fun g hg => by
          rcases hat with h | h
          · rw [h] at hg; exact ⟨(hbA g hg).1, q3 g hg⟩
          · rw [h, hsz1] at hg
            injection hg with hg
            subst hg
            exact ⟨by omega, fun h => by have := hfV _ h; omega⟩
        have hr1 : Rk X1.heap.size f V (V.setCell ⟨w2.heap.size + 1, 0, none⟩ (.bool (okV (pre ++ [x])))) := (Rk.refl _ _ _).setCell (hnf _ (by omega) (by omega)) _
        have hr2 : Rk X1.heap.size f (V.setCell ⟨w2.heap.size + 1, 0, none⟩ (.bool (okV (pre ++ [x])))) V5 := Rk.of_chg hch (fun k hk => ⟨q3 k hk, h1.cells k hk⟩) (fun k hk => by rw [hsz1]; exact hfV k hk)
        refine ⟨(hr1.trans hr2).setCell (hnf _ (by omega) (by omega)) _, ?_, ⟨A', c', ?_, ?_, fun g hg => (hbA' g hg).2⟩, ?_, ?_, ?_⟩
        · have h0 : Boxed V5 w.heap.size 3 (.int .i64 (most : Nat)) := (tr _ (by omega)).trans (Boxed.other hTB.b0 (B' := w2.heap.size + 1) (by omega) _)
          exact Boxed.other h0 (B' := w2.heap.size) (by omega) _
        · rw [List.length_append, List.length_singleton]
          exact Boxed.set _ hlb5
        · rw [List.length_append, List.length_singleton, List.map_append, List.map_singleton]
          exact ho.kept (row := some w2.heap.size) (grownBy_setCell' _ _ _) (by
            cases hA' : blk A' with
            | none => exact .inl rfl
            | some y => exact .inr (fun e => by have := (hbA' y hA').1; injection e with e; omega))
        · have h0 : Boxed V5 (w2.heap.size + 1) 4 (.bool (okV (pre ++ [x]))) := (tr _ (by omega)).trans (Boxed.set _ hTB.b2)
          exact Boxed.other h0 (B' := w2.heap.size) (by omega) _
        · have hb5 : Below w.heap.size w V5 := (hTB.bel.setCell (p := ⟨w2.heap.size + 1, 0, none⟩) (by simp; omega) _).trans (hch.below (B := w.heap.size) (by rw [hsz1]; omega) (fun k hk => by have := (hbA k hk).1; omega))
          exact hb5.setCell (p := ⟨w2.heap.size, 0, none⟩) (by simp; omega) _
        · rw [List.length_append, List.length_singleton]; omega
      have hxc0 : V.cell? ⟨xb, 0, none⟩ = some (.int .i64 x.2.r) := hxb.cell 0
      have hxc1 : V.cell? ⟨xb, 1, none⟩ = some (.int .i64 x.2.c) := hxb.cell 1
      have hxc2 : V.cell? ⟨xb, 2, none⟩ = some (.int .i64 x.2.h) := hxb.cell 2
      have hxc3 : V.cell? ⟨xb, 3, none⟩ = some (.int .i64 x.2.w) := hxb.cell 3
      have hsn := okV_snoc pre x
      have HALL := Lib.hid hall
      have HSN := Lib.hid hsn
      clear hTB q1 q2 q3 hnf hnm hfV hbA hxs hall hsn hff hrec hlen hel hxb
      cases hok : okV pre with
      | false =>
        rw [hok] at k2
        obtain ⟨A', c', V5, e1, e2, e3, e4⟩ := HALL.out false
        have HRUN := Lib.hid e1
        have HFIN := Lib.hid (e4 (by rw [HSN.out, hok]; rfl))
        clear e1 e4 hok
        gi_upto_region 11 with (fail)
        obtain ⟨V1, hV1⟩ : ∃ V1, V1 = V.setCell ⟨w2.heap.size + 1, 0, none⟩ (.bool false) := ⟨_, rfl⟩
        have j1 : V1.cell? ⟨w2.heap.size, 0, none⟩ = some (.slice A pre.length c) := by rw [hV1, World.cell?_setCell_other _ _ _ _ (fun e => by injection e with e; omega)]; exact k1
        have j2 : ∀ i, V1.cell? ⟨xb, i, none⟩ = V.cell? ⟨xb, i, none⟩ := fun i => by rw [hV1, World.cell?_setCell_other _ _ _ _ (fun e => by injection e with e; omega)]
        have j20 := (j2 0).trans hxc0
        have j21 := (j2 1).trans hxc1
        have j22 := (j2 2).trans hxc2
        have j23 := (j2 3).trans hxc3
        rw [← hV1] at HRUN ⊢
        clear hV1 j2 hxc0 hxc1 hxc2 hxc3 k0 k1 k2 hf1 hf2
        gi_wp2_with ((with_reducible refine at_dstI 44 ?_); refine wpListIn_app 47 47 rfl (.tmp 41) (.tmp 43) rfl _ _ _ _ rfl rfl HRUN.out ?_)
        have hz9 := HFIN.out
        rw [hs2] at hz9
        exact hz9
      | true =>
        rw [hok] at k2
        by_cases hx : x.1 = pre.length
        · obtain ⟨A', c', V5, e1, e2, e3, e4⟩ := HALL.out true
          have HRUN := Lib.hid e1
          have HFIN := Lib.hid (e4 (by rw [HSN.out, hok, hx]; simp))
          have hxe : ((x.1 : Int) == (pre.length : Int)) = true := by rw [hx]; simp
          clear e1 e4 hok
          gi_upto_region 11 with (fail)
          obtain ⟨V1, hV1⟩ : ∃ V1, V1 = V.setCell ⟨w2.heap.size + 1, 0, none⟩ (.bool true) := ⟨_, rfl⟩
          have j1 : V1.cell? ⟨w2.heap.size, 0, none⟩ = some (.slice A pre.length c) := by rw [hV1, World.cell?_setCell_other _ _ _ _ (fun e => by injection e with e; omega)]; exact k1
          have j2 : ∀ i, V1.cell? ⟨xb, i, none⟩ = V.cell? ⟨xb, i, none⟩ := fun i => by rw [hV1, World.cell?_setCell_other _ _ _ _ (fun e => by injection e with e; omega)]
          have j20 := (j2 0).trans hxc0
          have j21 := (j2 1).trans hxc1
          have j22 := (j2 2).trans hxc2
          have j23 := (j2 3).trans hxc3
          rw [← hV1] at HRUN ⊢
          clear hV1 j2 hxc0 hxc1 hxc2 hxc3 k0 k1 k2 hf1 hf2
          gi_wp2_with ((with_reducible refine at_dstI 44 ?_); refine wpListIn_app 47 47 rfl (.tmp 41) (.tmp 43) rfl _ _ _ _ rfl rfl HRUN.out ?_)
          have hz9 := HFIN.out
          rw [hs2] at hz9
          exact hz9
        · obtain ⟨A', c', V5, e1, e2, e3, e4⟩ := HALL.out false
          have HRUN := Lib.hid e1
          have HFIN := Lib.hid (e4 (by rw [HSN.out, hok]; simp [hx]))
          have hxe : ((x.1 : Int) == (pre.length : Int)) = false := by simp; omega
          clear e1 e4 hok
          gi_upto_region 11 with (fail)
          obtain ⟨V1, hV1⟩ : ∃ V1, V1 = V.setCell ⟨w2.heap.size + 1, 0, none⟩ (.bool false) := ⟨_, rfl⟩
          have j1 : V1.cell? ⟨w2.heap.size, 0, none⟩ = some (.slice A pre.length c) := by rw [hV1, World.cell?_setCell_other _ _ _ _ (fun e => by injection e with e; omega)]; exact k1
          have j2 : ∀ i, V1.cell? ⟨xb, i, none⟩ = V.cell? ⟨xb, i, none⟩ := fun i => by rw [hV1, World.cell?_setCell_other _ _ _ _ (fun e => by injection e with e; omega)]
          have j20 := (j2 0).trans hxc0
          have j21 := (j2 1).trans hxc1
          have j22 := (j2 2).trans hxc2
          have j23 := (j2 3).trans hxc3
          rw [← hV1] at HRUN ⊢
          clear hV1 j2 hxc0 hxc1 hxc2 hxc3 k0 k1 k2 hf1 hf2
          gi_wp2_with ((with_reducible refine at_dstI 44 ?_); refine wpListIn_app 47 47 rfl (.tmp 41) (.tmp 43) rfl _ _ _ _ rfl rfl HRUN.out ?_)
          have hz9 := HFIN.out
          rw [hs2] at hz9
          exact hz9
  case done =>
    rintro Dd ys f V hD rfl hTB hK
    have hl := hTB.le
    rw [lnB_length] at hl
    have hp := okV_pre (p := lnB LL) (L := LL) List.prefix_rfl
    have HOK : Hid (okV (lnB LL) = true) := hp.1
    have HLN : Hid ((lnB LL).length = min LL.length most) := by show _ = _; rw [lnB_length]; omega
    have HLS : Hid ((lnB LL).map (·.2) = LL.take most) := by show _ = _; rw [hp.2, lnB_length, List.take_length, List.take_of_length_le hl]
    clear hp
    obtain ⟨A, c, q1, q2, q3⟩ := hTB.b1
    have d1 := cell_regrown q1.cell
    have d2 := cell_regrown hTB.b2.cell
    rw [HOK.out] at d2
    have HQ2 := Lib.hid q2
    have HBEL := Lib.hid hTB.bel
    clear q1 q2 q3 hTB
    go_wp2_with (fail)
    refine region_below0 (by kernel_rfl) (by kernel_rfl) ?_
    repeat (first
      | go_big_quiet_step (fail)
      | quiet_step (fail))
    refine wpQuiet_nil ?_
    intro _ hw'
    obtain ⟨⟨dq, osq⟩, hw''⟩ := hw'
    subst hw''
    have hbx := below_regrown V dq osq
    have hK' : (grow (redrawn V dq) osq).heap[Dd]? = some (.deferred (some [])) := by rw [hbx.block Dd (Array.getElem?_eq_some_iff.1 hK).1]; exact hK
    have hox : OX (grow (redrawn V dq) osq) (w2.heap.size + 2) A (lnB LL).length c ((lnB LL).map (·.2)) := HQ2.out.turn (Turn.of_below (b := 0) (f := fun _ => False) hbx) (fun _ _ h => h)
    have hbel := HBEL.out.trans (hbx.mono HBEL.out.size)
    clear d1 d2 hbx
    generalize grow (redrawn V dq) osq = V2 at *
    have HOX := Lib.hid hox
    have HBE2 := Lib.hid hbel
    clear hox hbel hK
    go_wp2_with (fail)
    refine ⟨by simp, .inl ⟨_, _, rfl, run_takeDeferred hK', ?_⟩⟩
    refine ⟨.tuple #[.slice A (lnB LL).length c, .bool true], by simp [results, Try.f23, go_sem], A, c, ?_, ?_, HBE2.out.trans (belowK_b (w := w) (Nat.le_refl _) _ Dd _ _ (by omega) hK' rfl rfl)⟩
    · rw [HLN.out]
    · have h1 := (HOX.out.turn (Turn.of_grown (b := 0) (f := fun _ => False) (grownBy_putObj' V2 Dd (.deferred none)) (fun k e => by cases e; exact ⟨Nat.zero_le _, .inr ⟨_, hK', rfl⟩⟩)) (fun _ _ h => h))
      unfold OX at h1 ⊢
      rw [HLN.out, HLS.out] at h1
      exact World.ownsRow.weakenB (base := w2.heap.size + 2) h1 (by omega)
  case stop =>
    rintro Dd c pre' f V hD hsp ⟨rfl, p, x, e1, e2, hTB⟩ hK
    have hpp : p <+: lnB LL := (List.prefix_append p [x]).trans (by rw [← e1]; exact hsp)
    have hp := okV_pre hpp
    have hle : p.length ≤ LL.length := by have := hpp.length_le; rwa [lnB_length] at this
    have HOK : Hid (okV p = true) := hp.1
    have HLN : Hid (p.length = min LL.length most) := by show _ = _; omega
    have HLS : Hid (p.map (·.2) = LL.take most) := by show _ = _; rw [hp.2, e2]
    clear hp hsp e1 hpp e2
    obtain ⟨A, c, q1, q2, q3⟩ := hTB.b1
    have d1 := cell_regrown q1.cell
    have d2 := cell_regrown hTB.b2.cell
    rw [HOK.out] at d2
    have HQ2 := Lib.hid q2
    have HBEL := Lib.hid hTB.bel
    clear q1 q2 q3 hTB
    gi_wp2
    go_wp2_with (fail)
    refine region_below0 (by kernel_rfl) (by kernel_rfl) ?_
    repeat (first
      | go_big_quiet_step (fail)
      | quiet_step (fail))
    refine wpQuiet_nil ?_
    intro _ hw'
    obtain ⟨⟨dq, osq⟩, hw''⟩ := hw'
    subst hw''
    have hbx := below_regrown V dq osq
    have hK' : (grow (redrawn V dq) osq).heap[Dd]? = some (.deferred (some [])) := by rw [hbx.block Dd (Array.getElem?_eq_some_iff.1 hK).1]; exact hK
    have hox : OX (grow (redrawn V dq) osq) (w2.heap.size + 2) A p.length c (p.map (·.2)) := HQ2.out.turn (Turn.of_below (b := 0) (f := fun _ => False) hbx) (fun _ _ h => h)
    have hbel := HBEL.out.trans (hbx.mono HBEL.out.size)
    clear d1 d2 hbx
    generalize grow (redrawn V dq) osq = V2 at *
    have HOX := Lib.hid hox
    have HBE2 := Lib.hid hbel
    clear hox hbel hK
    go_wp2_with (fail)
    refine ⟨by simp, .inl ⟨_, _, rfl, run_takeDeferred hK', ?_⟩⟩
    refine ⟨.tuple #[.slice A p.length c, .bool true], by simp [results, Try.f23, go_sem], A, c, ?_, ?_, HBE2.out.trans (belowK_b (w := w) (Nat.le_refl _) _ Dd _ _ (by omega) hK' rfl rfl)⟩
    · rw [HLN.out]
    · have h1 := (HOX.out.turn (Turn.of_grown (b := 0) (f := fun _ => False) (grownBy_putObj' V2 Dd (.deferred none)) (fun k e => by cases e; exact ⟨Nat.zero_le _, .inr ⟨_, hK', rfl⟩⟩)) (fun _ _ h => h))
      unfold OX at h1 ⊢
      rw [HLN.out, HLS.out] at h1
      exact World.ownsRow.weakenB (base := w2.heap.size + 2) h1 (by omega)
end Go.Proofs.Ytdodogehlnchlaa
