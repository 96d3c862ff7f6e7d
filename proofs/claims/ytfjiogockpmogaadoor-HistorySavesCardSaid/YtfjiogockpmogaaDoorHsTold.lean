/-
  Walk: the law's told over a history's lines.
-/
import Derived.Test.YtfjiogockpmogaaDoorHsIter
namespace Go.Proofs.YtfjiogockpmogaaDoor
open Go.RowKit Go.Shelf Go.Sort
attribute [local go_sem] Oper.semAt_some
set_option linter.unusedVariables false
set_option linter.unusedSimpArgs false

/-- do the places stand in order, from 0 on? -/
def okV (l : List (Nat × List UInt8)) : Bool := l.zipIdx.all fun p => p.1.1 == p.2
theorem okV_snoc (l : List (Nat × List UInt8)) (x : Nat × List UInt8) : okV (l ++ [x]) = (okV l && x.1 == l.length) := by
  simp [okV, List.zipIdx_append]
theorem okV_hats (L : List (List UInt8)) : okV (hats L) = true := by
  simp only [okV, List.all_eq_true]
  rintro ⟨⟨a, s⟩, k⟩ h
  rw [List.mem_zipIdx_iff_getElem?] at h
  simp only at h
  have hk : k < L.length := by have := (List.getElem?_eq_some_iff.1 h).1; rwa [hats_length] at this
  rw [hats_get hk] at h
  injection h with h
  injection h with h _
  simp [h]
theorem okV_pre {l p : List (Nat × List UInt8)} (h : p <+: l) (hl : okV l = true) : okV p = true := by
  obtain ⟨t, rfl⟩ := h
  simp only [okV, List.zipIdx_append, List.all_append, Bool.and_eq_true] at hl
  exact hl.1
def txh (l : List (Nat × List UInt8)) : List (List UInt8) := l.map (·.2)
theorem txh_hats (L : List (List UInt8)) : txh (hats L) = L := by
  apply List.ext_getElem?
  intro k
  simp only [txh, List.getElem?_map, hats, List.map_map, List.getElem?_zipIdx]
  cases L[k]? <;> simp
theorem txh_snoc (l : List (Nat × List UInt8)) (x : Nat × List UInt8) : txh (l ++ [x]) = txh l ++ [x.2] := by simp [txh]
theorem txh_length (l : List (Nat × List UInt8)) : (txh l).length = l.length := by simp [txh]
theorem txh_take (l : List (Nat × List UInt8)) (k : Nat) : txh (l.take k) = (txh l).take k := by simp [txh, List.map_take]

/-- f, and one block more -/
def orB (f : Nat → Prop) (h : Nat) (k : Nat) : Prop := f k ∨ k = h
theorem Turn.moreB {b h : Nat} {f : Nat → Prop} {A B : World} (ht : Turn b f A B) : Turn b (orB f h) A B :=
  ⟨ht.os, ht.tape, ht.output, ht.size, fun k o ho hk => ht.block k o ho (hk.imp id (fun q => ⟨fun c => q.1 (.inl c), q.2⟩))⟩
theorem Rk.lessB {b h : Nat} {f : Nat → Prop} {A B : World} (r : Rk b (orB f h) A B) : Rk b f A B := ⟨r.below, r.keeps, fun k hk => r.mine k (.inl hk)⟩
theorem HoldP.setB {B B' : Nat} {T e : TypeId} {base : Nat} {xs : List Value} {f : Nat → Prop} {W : World} (h : HoldP B T e base xs (orB f B') W) (hne : B ≠ B') (v : Value) : HoldP B T e base xs (orB f B') (W.setCell ⟨B', 0, none⟩ v) := by
  obtain ⟨A, n, c, hb, hr, hm⟩ := h
  exact ⟨A, n, c, hb.other hne v, hr.kept (grownBy_setCell' _ _ _) (.inr (fun e => hm B' e (.inr rfl))), hm⟩
/-- Is this the operation that writes slot d, in a round? -/
theorem at_dstH {F : Fence} {n : Nat} {P : Program} {ops : Array Oper} {rest : List Oper} {a : Act} {w : World} {Q : Exit → Act → World → Prop} (d : Tmp) {op : Op} {ty : TypeId} {pos : String} {af : Array Edge} {gd : Option (Nat × Bool)} (h : wpListIn F n P ops Q (⟨some d, op, ty, pos, af, gd⟩ :: rest) a w) : wpListIn F n P ops Q (⟨some d, op, ty, pos, af, gd⟩ :: rest) a w := h
/-- The boxes of told. -/
structure TH (h : Nat) (most : Nat) (pre : List (Nat × List UInt8)) (f : Nat → Prop) (W : World) : Prop where
  b0 : Boxed W h 3 (.int .i64 most)
  b1 : HoldP (h + 3) 27 9 h (sv (txh pre)) (orB (orB f h) (h + 4)) W
  b2 : Boxed W (h + 4) 4 (.bool (okV pre))
theorem TH.ab {h most b : Nat} (hb : h + 5 ≤ b) : AbP b (fun pre f W => TH h most pre f W) := fun pre f f' X Y q ht hf =>
  ⟨ht.block _ _ q.b0 (.inl (by omega)), AbP.hold (b := b) (fun (_ : Unit) => sv (txh pre)) (by omega) () (orB (orB f h) (h + 4)) (orB (orB f' h) (h + 4)) X Y q.b1 ht.moreB.moreB (fun k hk => hk.elim (fun c => c.elim (fun c => (hf k c).imp (fun c => .inl (.inl c)) id) (fun c => .inl (.inl (.inr c)))) (fun c => .inl (.inr c))), ht.block _ _ q.b2 (.inl (by omega))⟩
theorem OR.drewH {w : World} {base n c : Nat} {e : TypeId} {A : Option Addr} {xs : List Value} (h : OR w base e A n c xs) (k : Nat) : OR (w.drewN k) base e A n c xs := by
  unfold OR World.ownsRow at *
  rw [World.heap_drewN]
  exact h
theorem TH.out {h most D : Nat} {p : List (Nat × List UInt8)} {f : Nat → Prop} {W : World} (q : TH h most p f W) (k : Nat) (hK : W.heap[D]? = some (.deferred (some []))) : ∃ A1 c1, W.cell? ⟨h + 3, 0, none⟩ = some (.slice A1 p.length c1) ∧
    OR ((W.drewN k).putObj D (.deferred none)) h 9 A1 p.length c1 (sv (txh p)) := by
  obtain ⟨A1, n1, c1, hb1, hr1, _⟩ := q.b1
  have e1 : n1 = p.length := by rw [hr1.len, sv_length, txh_length]
  subst e1
  have hK' : (W.drewN k).heap[D]? = some (.deferred (some [])) := by rw [World.heap_drewN]; exact hK
  exact ⟨A1, c1, hb1.cell, ⟨ownsRow_putObj (hr1.drewH k).1 (.deferred none) hK' rfl, hr1.2⟩⟩
def ThX (w : World) (most : Nat) (c : Code) (pre : List (Nat × List UInt8)) (f : Nat → Prop) (W : World) : Prop :=
  c = .exit 0 ∧ (∃ p x, pre = p ++ [x] ∧ p.length = most ∧ TH w.heap.size most p f W) ∧ Below w.heap.size w W
/-- What told hands back. -/
def ToldH (w : World) (l : List (List UInt8)) (e : Ending) (w' : World) : Prop :=
  ∃ A1 c1, e = .returned (.tuple #[.slice A1 l.length c1, .bool true]) ∧ OR w' w.heap.size 9 A1 l.length c1 (sv l) ∧ Below w.heap.size w w'
theorem gp_drewH (w : World) (n : Nat) : Below w.heap.size w (w.drewN n) := (Chg.refl noB w).drewN n |>.none_below
theorem fromF_nil (a b : Nat) (w : World) : Sem.run Tryd.prog (binOp .eql 73 (.func (.func 54) #[] #[.pointer (some ⟨a, 0, none⟩), .pointer (some ⟨b, 0, none⟩)]) .nilFunc) w = .ok (.bool false) w := by kernel_rfl

set_option maxRecDepth 100000 in
set_option maxHeartbeats 8000000 in
theorem told_seqH (p : Option Addr) (most : Nat) (w : World) (f0 : Nat → Prop) (T : List (Nat × List UInt8)) (hT : okV T = true) (N : Nat) (hN : N ≤ 10000) (El : Nat × List UInt8 → Prop) (hf : ∀ k, f0 k → k < w.heap.size ∨ k = w.heap.size + 1 ∨ k = w.heap.size + 1 + 1)
    (hseq : ∀ W, Below w.heap.size w W → Boxed W (w.heap.size + 1) 23 (.pointer p) → Boxed W (w.heap.size + 1 + 1) 3 (.int .i64 0) → SeqP Fence.wide 8 Tryd.prog 54 #[.pointer (some ⟨w.heap.size + 1, 0, none⟩), .pointer (some ⟨w.heap.size + 1 + 1, 0, none⟩)] encH f0 El (fun ys => ys = T) (fun pre => pre <+: T) N W) :
    Calls Tryd.prog 13 #[.pointer p, .int .i64 most] w (ToldH w (txh (T.take most))) := by
  have HSEQ := Lib.hid hseq
  have HF := Lib.hid hf
  have HOK := Lib.hid hT
  have HFN := fromF_nil
  clear hseq hf hT
  refine (callsIn_wide (n := 9)).1 ?_
  refine callsIn_of_wp_marks Tryd.func13 rfl trivial ?_ rfl
  simp only [Tryd.ntmps13, List.size_toArray, List.length_cons, List.length_nil, Nat.reduceAdd, Nat.reduceSub, Array.replicate_succ, Array.replicate_zero, List.push_toArray, List.append_toArray, List.nil_append, List.cons_append]
  refine wpIn_wide.2 ?_
  go_wp2_with (go_at_call 36; refine (hall_any _ _).mono ?_; rintro e w' ⟨rfl, rfl⟩)
  refine (wpIn_wide (n := 9)).1 ?_
  obtain ⟨w0, hw0⟩ : ∃ w0, w0 = w.alloc (.cells #[.int .i64 most] 3) := ⟨_, rfl⟩
  have z0 := Boxed.new w 3 (.int .i64 most)
  have hs0 : w0.heap.size = w.heap.size + 1 := by rw [hw0]; simp
  have hb00 : Below w.heap.size w w0 := by rw [hw0]; exact (Below.refl _ w).alloc (Nat.le_refl _) _
  rw [← hw0] at z0
  obtain ⟨w1, hw1⟩ : ∃ w1, w1 = w0.alloc (.cells #[.pointer p] 23) := ⟨_, rfl⟩
  have z1 := Boxed.new w0 23 (.pointer p)
  have z01 := z0.alloc (.cells #[.pointer p] 23)
  have hs1 : w1.heap.size = w.heap.size + 1 + 1 := by rw [hw1]; simp [hs0]
  have hb01 : Below w.heap.size w w1 := by rw [hw1]; exact hb00.alloc (by omega) _
  rw [← hw1] at z1 z01
  rw [hs0] at z1
  obtain ⟨w2, hw2⟩ : ∃ w2, w2 = w1.alloc (.cells #[.int .i64 0] 3) := ⟨_, rfl⟩
  have z2 := Boxed.new w1 3 (.int .i64 0)
  have z12 := z1.alloc (.cells #[.int .i64 0] 3)
  have z02 := z01.alloc (.cells #[.int .i64 0] 3)
  have hs2 : w2.heap.size = w.heap.size + 3 := by rw [hw2]; simp [hs1]
  have hb02 : Below w.heap.size w w2 := by rw [hw2]; exact hb01.alloc (by omega) _
  rw [← hw2] at z2 z12 z02
  rw [hs1] at z2
  obtain ⟨w3, hw3⟩ : ∃ w3, w3 = w2.alloc (.cells #[.slice none 0 0] 27) := ⟨_, rfl⟩
  have z3 := Boxed.new w2 27 (.slice none 0 0)
  have z23 := z2.alloc (.cells #[.slice none 0 0] 27)
  have z13 := z12.alloc (.cells #[.slice none 0 0] 27)
  have z03 := z02.alloc (.cells #[.slice none 0 0] 27)
  have hs3 : w3.heap.size = w.heap.size + 4 := by rw [hw3]; simp [hs2]
  have hb03 : Below w.heap.size w w3 := by rw [hw3]; exact hb02.alloc (by omega) _
  rw [← hw3] at z3 z23 z13 z03
  rw [hs2] at z3
  have z4 := Boxed.new w3 4 (.bool true)
  have z34 := z3.alloc (.cells #[.bool true] 4)
  have z24 := z23.alloc (.cells #[.bool true] 4)
  have z14 := z13.alloc (.cells #[.bool true] 4)
  have z04 := z03.alloc (.cells #[.bool true] 4)
  rw [hs3] at z4
  have hb0 : Below w.heap.size w (w3.alloc (.cells #[.bool true] 4)) := hb03.alloc (by omega) _
  have hsz : (w3.alloc (.cells #[.bool true] 4)).heap.size = w.heap.size + 5 := by simp [hs3]
  rw [hw3, hw2, hw1, hw0] at z4 z34 z24 z14 z04 hb0 hsz
  clear z0 z1 z01 z2 z12 z02 z3 z23 z13 z03 hs0 hs1 hs2 hs3 hb00 hb01 hb02 hb03 hw0 hw1 hw2 hw3
  generalize hX1 : ((((w.alloc (.cells #[.int .i64 most] 3)).alloc (.cells #[.pointer p] 23)).alloc (.cells #[.int .i64 0] 3)).alloc (.cells #[.slice none 0 0] 27)).alloc (.cells #[.bool true] 4) = X1 at *
  clear hX1 w0 w1 w2 w3
  refine range_priv rfl (by omega) (gf := 54) (lb := #[.pointer (some ⟨w.heap.size + 1, 0, none⟩), .pointer (some ⟨w.heap.size + 1 + 1, 0, none⟩)]) rfl trivial (enters_of Tryd.func54 (by kernel_rfl) rfl)
    (HSEQ.out X1 hb0 z14 z24)
    (Nat.le_refl _) (fun k hk => ⟨by have := HF.out k hk; omega, rfl⟩) (fun _ => rfl)
    (fun pre f W => TH w.heap.size most pre f W ∧ Below w.heap.size w W ∧ pre.length ≤ most)
    (ThX w most)
    (AbP.and (TH.ab (by omega)) (AbP.and (AbP.below (by omega) (Nat.le_refl _)) (AbP.pure _)))
    (fun c pre f f' A B hp ht hf => by
      obtain ⟨hc, ⟨p, x, h1, h2, h3⟩, hB⟩ := hp
      exact ⟨hc, ⟨p, x, h1, h2, TH.ab (by omega) p f f' A B h3 ht hf⟩, AbP.below (n₀ := w.heap.size) (β := Unit) (by omega) (Nat.le_refl _) () f f' A B hB ht hf⟩)
    ⟨⟨z04, ⟨none, 0, 0, z34, OR.none_ _ _ _, fun g hg => by cases hg⟩, z4⟩, hb0, by simp⟩
    (fun x => { tmps := #[.pointer p, .int .i64 most, undef, .pointer (some ⟨w.heap.size, 0, none⟩), .slice none 0 0, .bool false, .func (.func 54) #[] #[.pointer (some ⟨w.heap.size + 1, 0, none⟩), .pointer (some ⟨w.heap.size + 1 + 1, 0, none⟩)], .pointer (some ⟨w.heap.size + 3, 0, none⟩), .pointer (some ⟨w.heap.size + 4, 0, none⟩), .int .i64 x.1, .string ⟨x.2.toArray⟩, .pointer p, .func (.func 54) #[] #[.pointer (some ⟨w.heap.size + 1, 0, none⟩), .pointer (some ⟨w.heap.size + 1 + 1, 0, none⟩)], .func (.func 54) #[] #[.pointer (some ⟨w.heap.size + 1, 0, none⟩), .pointer (some ⟨w.heap.size + 1 + 1, 0, none⟩)], .bool false, .func (.func 54) #[] #[.pointer (some ⟨w.heap.size + 1, 0, none⟩), .pointer (some ⟨w.heap.size + 1 + 1, 0, none⟩)], .int .i64 x.1, .string ⟨x.2.toArray⟩, undef, undef, undef, undef, undef, undef, undef, undef, undef, undef, undef, undef, undef, undef, undef, undef, undef], defers := [] }) ?assign ?body ?done ?stop
  case assign =>
    intro l x W K hK
    simp only [encH]
    rw [put_two]
    gi_wp2
    exact hK
  case body =>
    rintro lo pre x f W hff hz ⟨hTH, hbW, hpm⟩ hlen hel
    obtain ⟨A, n, c, hb, hr, hm⟩ := hTH.b1
    have hn : n = pre.length := by rw [hr.len, sv_length, txh_length]
    subst hn
    have hfs : ∀ k, f k → k < W.heap.size := fun k hk => by
      rcases hff k hk with h' | h'
      · have := HF.out k h'; have := hbW.size; have := hTH.b2.lt; omega
      · exact h'.2
    have hnf : ∀ k, w.heap.size ≤ k → k < X1.heap.size → k ≠ w.heap.size + 1 → k ≠ w.heap.size + 1 + 1 → ¬ f k := fun k h1 h2 h3 h4 hk => by
      rcases hff k hk with h' | h'
      · have := HF.out k h'; omega
      · omega
    have k0 := hTH.b0.cell
    have k1 := hb.cell
    have k2 := hTH.b2.cell
    have k3 := hTH.b2.frozen
    have hpi : (pre.length : Int) ≤ 10000 := by omega
    by_cases hge : most ≤ pre.length
    · have hgi : (most : Int) ≤ (pre.length : Int) := by omega
      have hpe : pre.length = most := by omega
      have HT := Lib.hid hTH
      have HB := Lib.hid hbW
      have HPE := Lib.hid hpe
      clear hTH hbW hb hr hm hpe hpm hfs hnf hff hel hlen z04 z14 z24 z34 z4 hb0 k2 k3
      gi_wp2
      exact ⟨KeepsFrom.refl _ _, rfl, ⟨pre, x, rfl, HPE.out, HT.out⟩, HB.out⟩
    · have hgi : ¬ (most : Int) ≤ (pre.length : Int) := by omega
      have hfs' : ∀ k, orB (orB f w.heap.size) (w.heap.size + 4) k → k < W.heap.size := fun k hk => hk.elim (fun hk => hk.elim (hfs k) (fun e => by have := hTH.b0.lt; omega)) (fun e => by have := hTH.b2.lt; omega)
      have hnB1 : ¬ orB (orB f w.heap.size) (w.heap.size + 4) (w.heap.size + 3) := fun hk => hk.elim (fun hk => hk.elim (hnf _ (by omega) (by omega) (by omega) (by omega)) (fun e => by omega)) (fun e => by omega)
      have hnB4 : ¬ f (w.heap.size + 4) := hnf _ (by omega) (by omega) (by omega) (by omega)
      obtain ⟨v, hv, hv2⟩ : ∃ v : Bool, v = okV (pre ++ [x]) ∧ ((okV pre = false ∧ v = false) ∨ (okV pre = true ∧ v = decide (x.1 = pre.length))) := by
        refine ⟨_, rfl, ?_⟩
        rw [okV_snoc]
        cases hk : okV pre with
        | false => exact .inl ⟨rfl, rfl⟩
        | true => exact .inr ⟨rfl, by simp; rw [Bool.eq_iff_iff]; simp⟩
      -- the store into the bool's box
      have hb2 : Boxed (W.setCell ⟨w.heap.size + 4, 0, none⟩ (.bool v)) (w.heap.size + 3) 27 (.slice A pre.length c) := hb.other (by omega) _
      have hr2 : OR (W.setCell ⟨w.heap.size + 4, 0, none⟩ (.bool v)) w.heap.size 9 A pre.length c (sv (txh pre)) := hr.kept (grownBy_setCell' _ _ _) (.inr (fun e => hm _ e (.inr rfl)))
      have hA2 : Rk X1.heap.size f W (W.setCell ⟨w.heap.size + 4, 0, none⟩ (.bool v)) := (Rk.refl _ _ _).setCell hnB4 _
      have hA3 : Boxed (W.setCell ⟨w.heap.size + 4, 0, none⟩ (.bool v)) (w.heap.size + 4) 4 (.bool v) := hTH.b2.set _
      have hA0 : Boxed (W.setCell ⟨w.heap.size + 4, 0, none⟩ (.bool v)) w.heap.size 3 (.int .i64 most) := hTH.b0.other (by omega) _
      have hAB : Below w.heap.size w (W.setCell ⟨w.heap.size + 4, 0, none⟩ (.bool v)) := hbW.setCell (p := ⟨w.heap.size + 4, 0, none⟩) (by simp) _
      have hAs : (W.setCell ⟨w.heap.size + 4, 0, none⟩ (.bool v)).heap.size = W.heap.size := by simp
      obtain ⟨WA, hWA⟩ : ∃ WA, WA = W.setCell ⟨w.heap.size + 4, 0, none⟩ (.bool v) := ⟨_, rfl⟩
      rw [← hWA] at hb2 hr2 hA2 hA3 hA0 hAB hAs
      have hfs2 : ∀ k, orB (orB f w.heap.size) (w.heap.size + 4) k → k < WA.heap.size := fun k hk => by rw [hAs]; exact hfs' k hk
      obtain ⟨A4, c4, w7, hrun4, hO7, hg7, hat7⟩ := run_app Tryd.underlying27 str_info rfl (by omega) (WA.alloc (.cells #[.string ⟨x.2.toArray⟩] 9)) 27 w.heap.size A pre.length c _ (hr2.alloc _) (some ⟨WA.heap.size, 0, none⟩) 1 1 [.string ⟨x.2.toArray⟩] (WA.heap.size + 1) (Sl.new WA #[.string ⟨x.2.toArray⟩] 9) rfl (fun e => by cases e) (by intro u hu; simp at hu; subst hu; rfl) (pre.length + 1) rfl (by omega) (by have := hAB.size; simp; omega)
      have hwx2 : Below WA.heap.size WA (WA.alloc (.cells #[.string ⟨x.2.toArray⟩] 9)) := (Below.refl _ _).alloc (Nat.le_refl _) _
      obtain ⟨hH3, hRk3, hbo3, hbe3⟩ := HoldP.appended (X := WA.alloc (.cells #[.string ⟨x.2.toArray⟩] 9)) (by decide) (by omega) hfs2 hwx2 hb2 hr2 hm hnB1 hO7 hg7 (blk_at hat7) X1.heap.size
      have hb0'' : Boxed (w7.setCell ⟨w.heap.size + 3, 0, none⟩ (.slice A4 (pre.length + 1) c4)) w.heap.size 3 (.int .i64 most) := (hRk3.mine _ (.inl (.inr rfl))).trans hA0
      have hb4'' : Boxed (w7.setCell ⟨w.heap.size + 3, 0, none⟩ (.slice A4 (pre.length + 1) c4)) (w.heap.size + 4) 4 (.bool v) := (hRk3.mine _ (.inr rfl)).trans hA3
      have hBw4 := hAB.trans (hbe3 (by have := hAB.size; omega))
      have e3 := hbo3.cell
      have e4 := hbo3.frozen
      have k5 := hb2.cell
      have FIN := Lib.hid (show Rk X1.heap.size f W (w7.setCell ⟨w.heap.size + 3, 0, none⟩ (.slice A4 (pre.length + 1) c4)) ∧ TH w.heap.size most (pre ++ [x]) f (w7.setCell ⟨w.heap.size + 3, 0, none⟩ (.slice A4 (pre.length + 1) c4)) ∧ Below w.heap.size w (w7.setCell ⟨w.heap.size + 3, 0, none⟩ (.slice A4 (pre.length + 1) c4)) ∧ (pre ++ [x]).length ≤ most from
        ⟨hA2.trans hRk3.lessB.lessB, ⟨hb0'', by rw [txh_snoc, sv_snoc]; exact hH3, by rw [← hv]; exact hb4''⟩, hBw4, by simp; omega⟩)
      rw [hAs] at hrun4
      have HR4 := Lib.hid hrun4
      subst hWA
      have HSZ := Lib.hid hsz
      clear hrun4 hfs' hnB1 hnB4 hb2 hr2 hfs2 hO7 hg7 hat7 hwx2 hH3 hRk3 hbo3 hbe3 hb0'' hb4'' hBw4 hTH hbW hb hr hm hpm hfs hnf hff hel hlen z04 z14 z24 z34 z4 hb0 hA0 hA2 hA3 hAB hAs hv hsz k5
      have arms : (okV pre = false ∧ v = false) ∨ (okV pre = true ∧ ((x.1 : Int) == (pre.length : Int)) = v) := by
        rcases hv2 with h | ⟨h1, h2⟩
        · exact .inl h
        · refine .inr ⟨h1, ?_⟩
          rw [h2, Bool.eq_iff_iff]
          simp
          omega
      clear hv2
      rcases arms with ⟨hv0, rfl⟩ | ⟨hv0, rfl⟩
      · rw [hv0] at k2
        clear hv0
        gi_wp2_with ((with_reducible refine at_dstH 32 ?_); refine wpListIn_app 27 27 rfl (.tmp 29) (.tmp 31) rfl _ _ _ _ rfl rfl HR4.out ?_)
        have hfin := FIN.out
        exact ⟨hfin.1, hfin.2.1, hfin.2.2.1, hfin.2.2.2⟩
      · rw [hv0] at k2
        clear hv0
        gi_wp2_with ((with_reducible refine at_dstH 32 ?_); refine wpListIn_app 27 27 rfl (.tmp 29) (.tmp 31) rfl _ _ _ _ rfl rfl HR4.out ?_)
        have hfin := FIN.out
        exact ⟨hfin.1, hfin.2.1, hfin.2.2.1, hfin.2.2.2⟩
  case done =>
    rintro D ys f W hD rfl ⟨hTH, hB, hpm⟩ hK
    have HTK := Lib.hid (show ys.take most = ys from List.take_of_length_le hpm)
    have HB := Lib.hid hB
    have HTH := Lib.hid hTH
    obtain ⟨A1, c1, d1, _⟩ := hTH.out 0 hK
    have d2 := hTH.b2.cell
    rw [HOK.out] at d2
    clear hB hTH z04 z14 z24 z34 z4 hb0 hpm
    go_wp2
    go_quiet (fail)
    go_wp2
    have hK' : (W.drewN nq).heap[D]? = some (.deferred (some [])) := by rw [World.heap_drewN]; exact hK
    obtain ⟨A1', c1', d1', ho1⟩ := HTH.out.out nq hK
    have e1 : (Value.slice A1 ys.length c1) = .slice A1' ys.length c1' := Option.some.inj (d1.symm.trans d1')
    injection e1 with ea _ eb
    subst ea eb
    refine ⟨by simp, .inl ⟨_, _, rfl, run_takeDeferred hK', ?_⟩⟩
    have hb1 := HB.out.trans ((gp_drewH W nq).mono HB.out.size)
    refine ⟨.tuple #[.slice A1 ys.length c1, .bool true], by simp [results, Tryd.f13, go_sem], A1, c1, ?_, ?_, hb1.trans (belowK_b (w := w) (Nat.le_refl _) _ D _ _ (by omega) hK' rfl rfl)⟩
    · rw [HTK.out, txh_length]
    · rw [HTK.out, txh_length]; exact ho1
  case stop =>
    rintro D c pre f W hD hpre ⟨rfl, ⟨p, x, hp, hpl, hTH⟩, hB⟩ hK
    have htk : T.take most = p := by
      obtain ⟨t, ht⟩ := hpre
      rw [← ht, hp, ← hpl, List.append_assoc, List.take_left]
    have hokp : okV p = true := by
      refine okV_pre ⟨[x], rfl⟩ (l := p ++ [x]) (okV_pre (by rw [← hp]; exact hpre) HOK.out)
    have HTK := Lib.hid htk
    have HB := Lib.hid hB
    have HTH := Lib.hid hTH
    obtain ⟨A1, c1, d1, _⟩ := hTH.out 0 hK
    have d2 := hTH.b2.cell
    rw [hokp] at d2
    clear hB hTH z04 z14 z24 z34 z4 hb0 hp hpl htk hpre hokp
    gi_wp2
    go_wp2
    go_quiet (fail)
    go_wp2
    have hK' : (W.drewN nq).heap[D]? = some (.deferred (some [])) := by rw [World.heap_drewN]; exact hK
    obtain ⟨A1', c1', d1', ho1⟩ := HTH.out.out nq hK
    have e1 : (Value.slice A1 p.length c1) = .slice A1' p.length c1' := Option.some.inj (d1.symm.trans d1')
    injection e1 with ea _ eb
    subst ea eb
    refine ⟨by simp, .inl ⟨_, _, rfl, run_takeDeferred hK', ?_⟩⟩
    have hb1 := HB.out.trans ((gp_drewH W nq).mono HB.out.size)
    refine ⟨.tuple #[.slice A1 p.length c1, .bool true], by simp [results, Tryd.f13, go_sem], A1, c1, ?_, ?_, hb1.trans (belowK_b (w := w) (Nat.le_refl _) _ D _ _ (by omega) hK' rfl rfl)⟩
    · rw [HTK.out, txh_length]
    · rw [HTK.out, txh_length]; exact ho1
end Go.Proofs.YtfjiogockpmogaaDoor
