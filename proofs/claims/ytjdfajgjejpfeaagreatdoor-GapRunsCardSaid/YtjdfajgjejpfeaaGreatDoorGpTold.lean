/-
  Walk: told over any iterator of places and texts.
-/
import Derived.Test.YtjdfajgjejpfeaaGreatDoorGpNob2
namespace Go.Proofs.YtjdfajgjejpfeaaGreatDoor
open Go.RowKit Go.Shelf Go.Sort
attribute [local go_sem] Oper.semAt_some
set_option linter.unusedVariables false
set_option linter.unusedSimpArgs false

/-- places as cells -/
def iv (l : List (Nat × List UInt8)) : List Value := l.map fun x => .int .i64 x.1
/-- their texts as cells -/
def tv (l : List (Nat × List UInt8)) : List Value := l.map fun x => .string ⟨x.2.toArray⟩
theorem iv_snoc (l : List (Nat × List UInt8)) (x : Nat × List UInt8) : iv (l ++ [x]) = iv l ++ [.int .i64 x.1] := by simp [iv]
theorem tv_snoc (l : List (Nat × List UInt8)) (x : Nat × List UInt8) : tv (l ++ [x]) = tv l ++ [.string ⟨x.2.toArray⟩] := by simp [tv]
theorem iv_length (l : List (Nat × List UInt8)) : (iv l).length = l.length := by simp [iv]
theorem tv_length (l : List (Nat × List UInt8)) : (tv l).length = l.length := by simp [tv]

/-- A row beside another one of other elements, that is appended to. -/
theorem HoldP.across {B B' : Nat} {T T' e e' : TypeId} {base n c : Nat} {xs ys : List Value} {f : Nat → Prop} {W X w1 : World} {A : Option Addr} {u : Value} (h : HoldP B T e base xs f W) (hb : Below W.heap.size W X) (hr : OR X base e' A n c ys) (hg : X.grownBy w1 (blk A)) (hbx : Boxed w1 B' T' u)
    (h1 : e ≠ e') (h2 : T ≠ e') (h3 : T' ≠ e) (h4 : B ≠ B') (v : Value) : HoldP B T e base xs f (w1.setCell ⟨B', 0, none⟩ v) := by
  obtain ⟨A2, n2, c2, hb2, hr2, hm2⟩ := h
  have hbX : Boxed X B T (.slice A2 n2 c2) := (hb.block _ hb2.lt).trans hb2
  have hrX : OR X base e A2 n2 c2 xs := hr2.below hb (fun g hg => (hr2.blk_lt g hg).2)
  have hne : some B ≠ blk A := by have := hbX.not_row h2 hr.1; rwa [ownBlock_slice] at this
  have hb1 : Boxed w1 B T (.slice A2 n2 c2) := hbX.kept hg hne
  have hr1 : OR w1 base e A2 n2 c2 xs := hrX.kept hg (hrX.apart hr h1)
  have hne2 : blk A2 = none ∨ blk A2 ≠ some B' := .inr (fun e => by have := hbx.not_row h3 hr1.1; rw [ownBlock_slice] at this; exact this e.symm)
  exact ⟨A2, n2, c2, hb1.other h4 _, hr1.kept (grownBy_setCell' _ _ _) hne2, hm2⟩

/-- Is this the operation that writes slot d, in a round? -/
theorem at_dstI {F : Fence} {n : Nat} {P : Program} {ops : Array Oper} {rest : List Oper} {a : Act} {w : World} {Q : Exit → Act → World → Prop} (d : Tmp) {op : Op} {ty : TypeId} {pos : String} {af : Array Edge} {gd : Option (Nat × Bool)} (h : wpListIn F n P ops Q (⟨some d, op, ty, pos, af, gd⟩ :: rest) a w) : wpListIn F n P ops Q (⟨some d, op, ty, pos, af, gd⟩ :: rest) a w := h
/-- f, and one block more -/
def andB (f : Nat → Prop) (h : Nat) (k : Nat) : Prop := f k ∨ k = h
theorem Turn.more {b h : Nat} {f : Nat → Prop} {A B : World} (ht : Turn b f A B) : Turn b (andB f h) A B :=
  ⟨ht.os, ht.tape, ht.output, ht.size, fun k o ho hk => ht.block k o ho (hk.imp id (fun q => ⟨fun c => q.1 (.inl c), q.2⟩))⟩
theorem Rk.less {b h : Nat} {f : Nat → Prop} {A B : World} (r : Rk b (andB f h) A B) : Rk b f A B := ⟨r.below, r.keeps, fun k hk => r.mine k (.inl hk)⟩
/-- The boxes of told. -/
structure TG (h : Nat) (most : Nat) (pre : List (Nat × List UInt8)) (f : Nat → Prop) (W : World) : Prop where
  b0 : Boxed W h 3 (.int .i64 most)
  b1 : HoldP (h + 1) 64 3 h (iv pre) (andB f h) W
  b2 : HoldP (h + 1 + 1) 27 9 h (tv pre) (andB f h) W
theorem TG.ab {h most b : Nat} (hb : h + 3 ≤ b) : AbP b (fun pre f W => TG h most pre f W) := fun pre f f' X Y q ht hf =>
  ⟨ht.block _ _ q.b0 (.inl (by omega)), AbP.hold (b := b) (fun (_ : Unit) => iv pre) (by omega) () (andB f h) (andB f' h) X Y q.b1 ht.more (fun k hk => hk.elim (fun c => (hf k c).imp .inl id) (fun c => .inl (.inr c))),
    AbP.hold (b := b) (fun (_ : Unit) => tv pre) (by omega) () (andB f h) (andB f' h) X Y q.b2 ht.more (fun k hk => hk.elim (fun c => (hf k c).imp .inl id) (fun c => .inl (.inr c)))⟩
theorem OR.drewN' {w : World} {base n c : Nat} {e : TypeId} {A : Option Addr} {xs : List Value} (h : OR w base e A n c xs) (k : Nat) : OR (w.drewN k) base e A n c xs := by
  unfold OR World.ownsRow at *
  rw [World.heap_drewN]
  exact h
/-- what told's two boxes hold at the end -/
theorem TG.out {h most D : Nat} {p : List (Nat × List UInt8)} {f : Nat → Prop} {W : World} (q : TG h most p f W) (k : Nat) (hK : W.heap[D]? = some (.deferred (some []))) : ∃ A1 c1 A2 c2, (W.cell? ⟨h + 1, 0, none⟩ = some (.slice A1 p.length c1) ∧ W.cell? ⟨h + 1 + 1, 0, none⟩ = some (.slice A2 p.length c2)) ∧
    OR ((W.drewN k).putObj D (.deferred none)) h 3 A1 p.length c1 (iv p) ∧ OR ((W.drewN k).putObj D (.deferred none)) h 9 A2 p.length c2 (tv p) := by
  obtain ⟨A1, n1, c1, hb1, hr1, _⟩ := q.b1
  obtain ⟨A2, n2, c2, hb2, hr2, _⟩ := q.b2
  have e1 : n1 = p.length := by rw [hr1.len, iv_length]
  have e2 : n2 = p.length := by rw [hr2.len, tv_length]
  subst e1 e2
  have hK' : (W.drewN k).heap[D]? = some (.deferred (some [])) := by rw [World.heap_drewN]; exact hK
  exact ⟨A1, c1, A2, c2, ⟨hb1.cell, hb2.cell⟩, ⟨ownsRow_putObj (hr1.drewN' k).1 (.deferred none) hK' rfl, hr1.2⟩, ⟨ownsRow_putObj (hr2.drewN' k).1 (.deferred none) hK' rfl, hr2.2⟩⟩
/-- How told is left within a round. -/
def TgX (w : World) (most : Nat) (c : Code) (pre : List (Nat × List UInt8)) (f : Nat → Prop) (W : World) : Prop :=
  c = .exit 0 ∧ (∃ p x, pre = p ++ [x] ∧ p.length = most ∧ TG w.heap.size most p f W) ∧ Below w.heap.size w W
/-- What told hands back. -/
def ToldP (w : World) (most : Nat) (T : List (Nat × List UInt8)) (e : Ending) (w' : World) : Prop :=
  ∃ A1 c1 A2 c2, e = .returned (.tuple #[.slice A1 (T.take most).length c1, .slice A2 (T.take most).length c2, .bool true]) ∧
    OR w' w.heap.size 3 A1 (T.take most).length c1 (iv (T.take most)) ∧ OR w' w.heap.size 9 A2 (T.take most).length c2 (tv (T.take most)) ∧ Below w.heap.size w w'

set_option maxRecDepth 100000 in
set_option maxHeartbeats 8000000 in
theorem told_seq (gf : Nat) (bd : Nat) (most : Nat) (w : World) (f0 : Nat → Prop) (T : List (Nat × List UInt8)) (N : Nat) (hN : N ≤ 10000) (El : Nat × List UInt8 → Prop) (hf : ∀ k, f0 k → k < w.heap.size)
    (hnf : ∀ w, Sem.run Tryz.prog (binOp .eql 68 (.func (.func gf) #[] #[.pointer (some ⟨bd, 0, none⟩)]) .nilFunc) w = .ok (.bool false) w)
    (eg : ∀ args w, (callFunc gf args).run Tryz.prog w = .ok (.enter gf args) w)
    (hseq : ∀ W, Below w.heap.size w W → SeqP Fence.wide 8 Tryz.prog gf #[.pointer (some ⟨bd, 0, none⟩)] encG f0 El (fun ys => ys = T) (fun pre => pre <+: T) N W) :
    Calls Tryz.prog 29 #[.func (.func gf) #[] #[.pointer (some ⟨bd, 0, none⟩)], .int .i64 most] w (ToldP w most T) := by
  have HSEQ := Lib.hid hseq
  have HF := Lib.hid hf
  have HEG := Lib.hid eg
  clear hseq hf eg
  refine (callsIn_wide (n := 9)).1 ?_
  refine callsIn_of_wp_marks Tryz.func29 rfl trivial ?_ rfl
  simp only [Tryz.ntmps29, List.size_toArray, List.length_cons, List.length_nil, Nat.reduceAdd, Nat.reduceSub, Array.replicate_succ, Array.replicate_zero, List.push_toArray, List.append_toArray, List.nil_append, List.cons_append]
  refine wpIn_wide.2 ?_
  go_wp2_with (fail)
  refine (wpIn_wide (n := 9)).1 ?_
  have y2 := ((Boxed.new w 3 (.int .i64 most)).alloc (.cells #[.slice none 0 0] 64)).alloc (.cells #[.slice none 0 0] 27)
  have y0 := (Boxed.new (w.alloc (.cells #[.int .i64 most] 3)) 64 (.slice none 0 0)).alloc (.cells #[.slice none 0 0] 27)
  have y1 := Boxed.new ((w.alloc (.cells #[.int .i64 most] 3)).alloc (.cells #[.slice none 0 0] 64)) 27 (.slice none 0 0)
  simp only [World.size_alloc] at y0 y1
  have hb0 : Below w.heap.size w (((w.alloc (.cells #[.int .i64 most] 3)).alloc (.cells #[.slice none 0 0] 64)).alloc (.cells #[.slice none 0 0] 27)) := (((Below.refl _ w).alloc (Nat.le_refl _) _).alloc (by simp) _).alloc (by simp; omega) _
  have hsz : (((w.alloc (.cells #[.int .i64 most] 3)).alloc (.cells #[.slice none 0 0] 64)).alloc (.cells #[.slice none 0 0] 27)).heap.size = w.heap.size + 3 := by simp
  generalize hX1 : ((w.alloc (.cells #[.int .i64 most] 3)).alloc (.cells #[.slice none 0 0] 64)).alloc (.cells #[.slice none 0 0] 27) = X1 at *
  clear hX1
  refine range_priv rfl (by omega) (gf := gf) (lb := #[.pointer (some ⟨bd, 0, none⟩)]) rfl trivial HEG.out
    (HSEQ.out X1 hb0)
    (Nat.le_refl _) (fun k hk => ⟨by have := HF.out k hk; omega, rfl⟩) (fun _ => rfl)
    (fun pre f W => TG w.heap.size most pre f W ∧ Below w.heap.size w W ∧ pre.length ≤ most)
    (TgX w most)
    (AbP.and (TG.ab (by omega)) (AbP.and (AbP.below (by omega) (Nat.le_refl _)) (AbP.pure _)))
    (fun c pre f f' A B hp ht hf => by
      obtain ⟨hc, ⟨p, x, h1, h2, h3⟩, hB⟩ := hp
      exact ⟨hc, ⟨p, x, h1, h2, TG.ab (by omega) p f f' A B h3 ht hf⟩, AbP.below (n₀ := w.heap.size) (β := Unit) (by omega) (Nat.le_refl _) () f f' A B hB ht hf⟩)
    ⟨⟨y2, ⟨none, 0, 0, y0, OR.none_ _ _ _, fun g hg => by cases hg⟩, ⟨none, 0, 0, y1, OR.none_ _ _ _, fun g hg => by cases hg⟩⟩, hb0, by simp⟩
    (fun x => { tmps := #[.func (.func gf) #[] #[.pointer (some ⟨bd, 0, none⟩)], .int .i64 most, undef, .pointer (some ⟨w.heap.size, 0, none⟩), .slice none 0 0, .slice none 0 0, .bool false, .pointer (some ⟨w.heap.size + 1, 0, none⟩), .pointer (some ⟨w.heap.size + 1 + 1, 0, none⟩), .int .i64 x.1, .string ⟨x.2.toArray⟩, .func (.func gf) #[] #[.pointer (some ⟨bd, 0, none⟩)], .bool false, .func (.func gf) #[] #[.pointer (some ⟨bd, 0, none⟩)], .int .i64 x.1, .string ⟨x.2.toArray⟩, undef, undef, undef, undef, undef, undef, undef, undef, undef, undef, undef, undef, undef, undef], defers := [] }) ?assign ?body ?done ?stop
  case assign =>
    intro l x W K hK
    simp only [encG]
    rw [put_two]
    gi_wp2
    exact hK
  case body =>
    rintro lo pre x f W hff hz ⟨hTG, hbW, hpm⟩ hlen hel
    obtain ⟨A, n, c, hb, hr, hm⟩ := hTG.b1
    have hn : n = pre.length := by rw [hr.len, iv_length]
    subst hn
    have hfs : ∀ k, f k → k < W.heap.size := fun k hk => by
      rcases hff k hk with h' | h'
      · have := HF.out k h'; have := hbW.size; omega
      · exact h'.2
    have hnf : ∀ k, w.heap.size ≤ k → k < X1.heap.size → ¬ f k := fun k h1 h2 hk => by
      rcases hff k hk with h' | h'
      · have := HF.out k h'; omega
      · omega
    have k0 := hTG.b0.cell
    have k1 := hb.cell
    have hpi : (pre.length : Int) ≤ 10000 := by omega
    by_cases hge : most ≤ pre.length
    · have hgi : (most : Int) ≤ (pre.length : Int) := by omega
      have hpe : pre.length = most := by omega
      have HT := Lib.hid hTG
      have HB := Lib.hid hbW
      have HPE := Lib.hid hpe
      clear hTG hbW hb hr hm hpe hpm hfs hnf hff hel hlen y0 y1 y2 hb0
      gi_wp2
      exact ⟨KeepsFrom.refl _ _, rfl, ⟨pre, x, rfl, HPE.out, HT.out⟩, HB.out⟩
    · have hgi : ¬ (most : Int) ≤ (pre.length : Int) := by omega
      obtain ⟨h, hh⟩ : ∃ h, h = w.heap.size := ⟨_, rfl⟩
      have hfs' : ∀ k, andB f w.heap.size k → k < W.heap.size := fun k hk => hk.elim (hfs k) (fun e => by have := hTG.b0.lt; omega)
      have hnB1 : ¬ andB f w.heap.size (w.heap.size + 1) := fun hk => hk.elim (hnf _ (by omega) (by omega)) (fun e => by omega)
      have hnB2 : ¬ andB f w.heap.size (w.heap.size + 1 + 1) := fun hk => hk.elim (hnf _ (by omega) (by omega)) (fun e => by omega)
      obtain ⟨A', c', w5, hrun, hO5, hg5, hat5⟩ := run_app Tryz.underlying64 i64_info rfl (by omega) (W.alloc (.cells #[.int .i64 x.1] 3)) 64 w.heap.size A pre.length c _ (hr.alloc _) (some ⟨W.heap.size, 0, none⟩) 1 1 [.int .i64 x.1] (W.heap.size + 1) (Sl.new W #[.int .i64 x.1] 3) rfl (fun e => by cases e) (by intro u hu; simp at hu; subst hu; rfl) (pre.length + 1) rfl (by omega) (by have := hbW.size; simp; omega)
      have hwx : Below W.heap.size W (W.alloc (.cells #[.int .i64 x.1] 3)) := (Below.refl _ _).alloc (Nat.le_refl _) _
      obtain ⟨hH1, hRk1, hbo1, hbe1⟩ := HoldP.appended (X := W.alloc (.cells #[.int .i64 x.1] 3)) (by decide) (by omega) hfs' hwx hb hr hm hnB1 hO5 hg5 (blk_at hat5) X1.heap.size
      have hX2 := hTG.b2.across hwx (hr.alloc _) hg5 hbo1 (by decide) (by decide) (by decide) (by omega) (.slice A' (pre.length + 1) c')
      have hB2w := hbe1 (by have := hbW.size; omega)
      have hb0' : Boxed (w5.setCell ⟨w.heap.size + 1, 0, none⟩ (.slice A' (pre.length + 1) c')) w.heap.size 3 (.int .i64 most) := (hRk1.mine _ (.inr rfl)).trans hTG.b0
      obtain ⟨A2, n2, c2, hb2, hr2, hm2⟩ := hX2
      have hn2 : n2 = pre.length := by rw [hr2.len, tv_length]
      subst hn2
      have hbw2 := hbW.trans hB2w
      have hfs2 : ∀ k, andB f w.heap.size k → k < (w5.setCell ⟨w.heap.size + 1, 0, none⟩ (.slice A' (pre.length + 1) c')).heap.size := fun k hk => Nat.lt_of_lt_of_le (hfs' k hk) hRk1.below.size
      have k2 := hb2.cell
      have e1 := hbo1.cell
      have e2 := hbo1.frozen
      generalize hW2 : w5.setCell ⟨w.heap.size + 1, 0, none⟩ (.slice A' (pre.length + 1) c') = W2 at *
      obtain ⟨A4, c4, w7, hrun4, hO7, hg7, hat7⟩ := run_app Tryz.underlying27 str_info rfl (by omega) (W2.alloc (.cells #[.string ⟨x.2.toArray⟩] 9)) 27 w.heap.size A2 pre.length c2 _ (hr2.alloc _) (some ⟨W2.heap.size, 0, none⟩) 1 1 [.string ⟨x.2.toArray⟩] (W2.heap.size + 1) (Sl.new W2 #[.string ⟨x.2.toArray⟩] 9) rfl (fun e => by cases e) (by intro u hu; simp at hu; subst hu; rfl) (pre.length + 1) rfl (by omega) (by have := hbw2.size; simp; omega)
      have hwx2 : Below W2.heap.size W2 (W2.alloc (.cells #[.string ⟨x.2.toArray⟩] 9)) := (Below.refl _ _).alloc (Nat.le_refl _) _
      obtain ⟨hH3, hRk3, hbo3, hbe3⟩ := HoldP.appended (X := W2.alloc (.cells #[.string ⟨x.2.toArray⟩] 9)) (by decide) (by omega) hfs2 hwx2 hb2 hr2 hm2 hnB2 hO7 hg7 (blk_at hat7) X1.heap.size
      have hX4 := hH1.across hwx2 (hr2.alloc _) hg7 hbo3 (by decide) (by decide) (by decide) (by omega) (.slice A4 (pre.length + 1) c4)
      have hb0'' : Boxed (w7.setCell ⟨w.heap.size + 1 + 1, 0, none⟩ (.slice A4 (pre.length + 1) c4)) w.heap.size 3 (.int .i64 most) := (hRk3.mine _ (.inr rfl)).trans hb0'
      have hBw4 := hbw2.trans (hbe3 (by have := hbw2.size; omega))
      have e3 := hbo3.cell
      have e4 := hbo3.frozen
      have FIN := Lib.hid (show Rk X1.heap.size f W (w7.setCell ⟨w.heap.size + 1 + 1, 0, none⟩ (.slice A4 (pre.length + 1) c4)) ∧ TG w.heap.size most (pre ++ [x]) f (w7.setCell ⟨w.heap.size + 1 + 1, 0, none⟩ (.slice A4 (pre.length + 1) c4)) ∧ Below w.heap.size w (w7.setCell ⟨w.heap.size + 1 + 1, 0, none⟩ (.slice A4 (pre.length + 1) c4)) ∧ (pre ++ [x]).length ≤ most from
        ⟨hRk1.less.trans hRk3.less, ⟨hb0'', by rw [iv_snoc]; exact hX4, by rw [tv_snoc]; exact hH3⟩, hBw4, by simp; omega⟩)
      have HR1 := Lib.hid hrun
      have HR4 := Lib.hid hrun4
      clear hrun hrun4 hh hfs' hnB1 hnB2 hO5 hg5 hat5 hwx hH1 hRk1 hbo1 hbe1 hB2w hb0' hb2 hr2 hm2 hbw2 hfs2 hO7 hg7 hat7 hwx2 hH3 hRk3 hbo3 hbe3 hX4 hb0'' hBw4 hTG hbW hb hr hm hpm hfs hnf hff hel hlen y0 y1 y2 hb0
      gi_wp2_with (first
        | ((with_reducible refine at_dstI 23 ?_); refine wpListIn_app 64 64 rfl (.tmp 20) (.tmp 22) rfl _ _ _ _ rfl rfl HR1.out ?_)
        | ((with_reducible refine at_dstI 27 ?_); refine wpListIn_app 27 27 rfl (.tmp 24) (.tmp 26) rfl _ _ _ _ rfl rfl HR4.out ?_))
      have hfin := FIN.out
      rw [hsz] at hfin
      exact ⟨hfin.1, hfin.2.1, hfin.2.2.1, hfin.2.2.2⟩
  case done =>
    rintro D ys f W hD rfl ⟨hTG, hB, hpm⟩ hK
    have HTK := Lib.hid (show ys.take most = ys from List.take_of_length_le hpm)
    have HB := Lib.hid hB
    have HTG := Lib.hid hTG
    obtain ⟨A1, c1, A2, c2, ⟨d1, d2⟩, _⟩ := hTG.out 0 hK
    clear hB hTG y0 y1 y2 hb0 hpm
    go_wp2
    go_quiet (fail)
    go_wp2
    have hK' : (W.drewN nq).heap[D]? = some (.deferred (some [])) := by rw [World.heap_drewN]; exact hK
    obtain ⟨A1', c1', A2', c2', ⟨d1', d2'⟩, ho1, ho2⟩ := HTG.out.out nq hK
    have e1 : (Value.slice A1 ys.length c1) = .slice A1' ys.length c1' := Option.some.inj (d1.symm.trans d1')
    have e2 : (Value.slice A2 ys.length c2) = .slice A2' ys.length c2' := Option.some.inj (d2.symm.trans d2')
    injection e1 with ea _ eb
    injection e2 with ec _ ed
    subst ea eb ec ed
    refine ⟨by simp, .inl ⟨_, _, rfl, run_takeDeferred hK', ?_⟩⟩
    have hb1 := HB.out.trans ((gp_drewN W nq).mono HB.out.size)
    refine ⟨.tuple #[.slice A1 ys.length c1, .slice A2 ys.length c2, .bool true], by simp [results, Tryz.f29, go_sem], A1, c1, A2, c2, ?_, ?_, ?_, hb1.trans (belowK_b (w := w) (Nat.le_refl _) _ D _ _ (by omega) hK' rfl rfl)⟩
    · rw [HTK.out]
    · rw [HTK.out]; exact ho1
    · rw [HTK.out]; exact ho2
  case stop =>
    rintro D c pre f W hD hpre ⟨rfl, ⟨p, x, hp, hpl, hTG⟩, hB⟩ hK
    have htk : T.take most = p := by
      obtain ⟨t, ht⟩ := hpre
      rw [← ht, hp, ← hpl, List.append_assoc, List.take_left]
    have HTK := Lib.hid htk
    have HB := Lib.hid hB
    have HTG := Lib.hid hTG
    obtain ⟨A1, c1, A2, c2, ⟨d1, d2⟩, _⟩ := hTG.out 0 hK
    clear hB hTG y0 y1 y2 hb0 hp hpl htk hpre
    gi_wp2
    go_wp2
    go_quiet (fail)
    go_wp2
    have hK' : (W.drewN nq).heap[D]? = some (.deferred (some [])) := by rw [World.heap_drewN]; exact hK
    obtain ⟨A1', c1', A2', c2', ⟨d1', d2'⟩, ho1, ho2⟩ := HTG.out.out nq hK
    have e1 : (Value.slice A1 p.length c1) = .slice A1' p.length c1' := Option.some.inj (d1.symm.trans d1')
    have e2 : (Value.slice A2 p.length c2) = .slice A2' p.length c2' := Option.some.inj (d2.symm.trans d2')
    injection e1 with ea _ eb
    injection e2 with ec _ ed
    subst ea eb ec ed
    refine ⟨by simp, .inl ⟨_, _, rfl, run_takeDeferred hK', ?_⟩⟩
    have hb1 := HB.out.trans ((gp_drewN W nq).mono HB.out.size)
    refine ⟨.tuple #[.slice A1 p.length c1, .slice A2 p.length c2, .bool true], by simp [results, Tryz.f29, go_sem], A1, c1, A2, c2, ?_, ?_, ?_, hb1.trans (belowK_b (w := w) (Nat.le_refl _) _ D _ _ (by omega) hK' rfl rfl)⟩
    · rw [HTK.out]
    · rw [HTK.out]; exact ho1
    · rw [HTK.out]; exact ho2
end Go.Proofs.YtjdfajgjejpfeaaGreatDoor
