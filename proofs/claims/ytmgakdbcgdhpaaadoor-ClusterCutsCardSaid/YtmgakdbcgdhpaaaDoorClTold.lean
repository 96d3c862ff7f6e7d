/-
  Walks: placardlaw03.cut, placardlaw03.told.
-/
import Derived.Test.YtmgakdbcgdhpaaaDoorClRef3
namespace Go.Proofs.YtmgakdbcgdhpaaaDoor
open Go.RowKit Go.Shelf
attribute [local go_sem] Oper.semAt_some
set_option linter.unusedVariables false

theorem ex_take (s : ByteArray) (k : Nat) (hk : k ≤ s.size) : s.extract 0 k = ⟨(s.data.toList.take k).toArray⟩ := by
  apply ByteArray.ext
  apply Array.ext'
  rw [Lib.extract_data]
  simp
theorem ba_self (s : ByteArray) : (⟨s.data.toList.toArray⟩ : ByteArray) = s := by
  apply ByteArray.ext; simp

set_option maxHeartbeats 400000 in
theorem cut3_any (s : ByteArray) (w : World) (hs : s.size ≤ maxLen) :
    Calls Tryd.prog 29 #[.string s] w fun e w' => e = .returned (.string ⟨(s.data.toList.take 600).toArray⟩) ∧ w = w' := by
  unfold maxLen at hs
  by_cases h : s.size ≤ 600
  · have e : (⟨(s.data.toList.take 600).toArray⟩ : ByteArray) = s.extract 0 s.size := by
      rw [ex_take s s.size (Nat.le_refl _), List.take_of_length_le (by show s.data.size ≤ 600; exact h), List.take_of_length_le (by show s.data.size ≤ s.size; exact Nat.le_refl _)]
    rw [e]
    have hi : (s.size : Int) ≤ 600 := by omega
    clear e
    go_enter Tryd.func29, Tryd.ntmps29
    go_wp2
    go_ret
    exact ⟨by first | rfl | simp, rfl⟩
  · have e : (⟨(s.data.toList.take 600).toArray⟩ : ByteArray) = s.extract 0 600 := (ex_take s 600 (by omega)).symm
    rw [e]
    have hi : ¬ (s.size : Int) ≤ 600 := by omega
    have hc : 600 ≤ s.size := by omega
    clear e
    go_enter Tryd.func29, Tryd.ntmps29
    go_wp2
    go_ret
    exact ⟨by first | rfl | simp, rfl⟩

theorem HoldP.on {B : Nat} {T e : TypeId} {base : Nat} {xs : List Value} {f : Nat → Prop} {w w' : World} (h : HoldP B T e base xs f w) (hb : Below w.heap.size w w') : HoldP B T e base xs f w' := by
  obtain ⟨A, n, c, h1, h2, h3⟩ := h
  exact ⟨A, n, c, h1.kept (grown_of_below hb) (by simp), h2.on hb, h3⟩
theorem HoldP.other {B B' : Nat} {T e t : TypeId} {base : Nat} {xs : List Value} {f : Nat → Prop} {w : World} {u : Value} (h : HoldP B T e base xs f w) (hb : Boxed w B' t u) (hte : t ≠ e) (hne : B ≠ B') (v : Value) : HoldP B T e base xs f (w.setCell ⟨B', 0, none⟩ v) := by
  obtain ⟨A, n, c, h1, h2, h3⟩ := h
  refine ⟨A, n, c, h1.other hne v, h2.kept (grownBy_setCell' _ _ _) ?_, h3⟩
  have := hb.not_row hte h2.1
  rw [ownBlock_slice] at this
  exact .inr (fun e => this e.symm)

/-- the columns of the texts that came -/
def nS (pre : List (Int × List UInt8)) : Int := (pre.map fun x => fw (rs x.2)).sum
theorem nS_snoc (pre : List (Int × List UInt8)) (x : Int × List UInt8) : nS (pre ++ [x]) = nS pre + fw (rs x.2) := by simp [nS]
theorem fw_bd (l : List Int) : 0 ≤ fw l ∧ fw l ≤ 2 := by
  induction l with
  | nil => simp [fw]
  | cons x l ih => simp only [fw]; have := ofI_01 x; split <;> omega
theorem nS_bd (pre : List (Int × List UInt8)) : 0 ≤ nS pre ∧ nS pre ≤ 2 * pre.length := by
  induction pre with
  | nil => simp [nS]
  | cons x l ih =>
    have e : nS (x :: l) = fw (rs x.2) + nS l := by simp [nS]
    have := fw_bd (rs x.2)
    rw [e]
    simp only [List.length_cons]
    omega
theorem nS_prs {cs : List (List Int)} (h : ∀ c ∈ cs, wf c) : ∀ a, nS (prs a cs) = sumC cs := by
  induction cs with
  | nil => intro a; rfl
  | cons c cs ih =>
    intro a
    have hw : fw (rs (eb c)) = wc c := by rw [rs_wf (h c (by simp)), fw_wf (h c (by simp))]
    have e : nS (prs a (c :: cs)) = fw (rs (eb c)) + nS (prs (a + wc c) cs) := by simp [nS, prs]
    rw [e, hw, ih (fun d hd => h d (by simp [hd])), sumC_cons]
/-- What is told of the columns ahead is right. -/
theorem prs_at {C : List (List Int)} (h : ∀ c ∈ C, wf c) {p : List (Int × List UInt8)} {x : Int × List UInt8} (hp : p ++ [x] <+: prs 0 C) : x.1 = nS p := by
  have hl : p.length < C.length := by
    have := hp.length_le
    rw [prs_length] at this
    simp at this
    omega
  have h1 := List.prefix_iff_eq_take.1 hp
  rw [prs_take, List.length_append, show [x].length = 1 from rfl, List.take_succ_eq_append_getElem hl, prs_snoc] at h1
  have h2 := List.append_inj h1 (by rw [prs_length]; simp; omega)
  have h3 := h2.2
  simp only [List.cons.injEq, and_true] at h3
  have e := congrArg nS h2.1
  rw [nS_prs (fun c hc => h c (List.mem_of_mem_take hc))] at e
  rw [h3]
  show 0 + sumC (C.take p.length) = nS p
  rw [e]
  omega

/-- The boxes of told: the bound, the two results, the row, the columns. -/
structure TB (h : Nat) (most : Nat) (f : Nat → Prop) (xs : List Value) (n : Int) (w : World) : Prop where
  b0 : Boxed w h 3 (.int .i64 most)
  b1 : Boxed w (h + 1) 44 (.slice none 0 0)
  b2 : Boxed w (h + 1 + 1) 4 (.bool false)
  b3 : HoldP (h + 1 + 1 + 1) 44 9 h xs f w
  b4 : Boxed w (h + 1 + 1 + 1 + 1) 3 (.int .i64 n)
theorem TB.on {h most : Nat} {f : Nat → Prop} {xs : List Value} {n : Int} {w w' : World} (q : TB h most f xs n w) (hb : Below w.heap.size w w') : TB h most f xs n w' :=
  ⟨q.b0.kept (grown_of_below hb) (by simp), q.b1.kept (grown_of_below hb) (by simp), q.b2.kept (grown_of_below hb) (by simp), q.b3.on hb, q.b4.kept (grown_of_below hb) (by simp)⟩
theorem TB.set4 {h most : Nat} {f : Nat → Prop} {xs : List Value} {n : Int} {w : World} (q : TB h most f xs n w) (m : Int) : TB h most f xs m (w.setCell ⟨h + 1 + 1 + 1 + 1, 0, none⟩ (.int .i64 m)) :=
  ⟨q.b0.other (by omega) _, q.b1.other (by omega) _, q.b2.other (by omega) _, q.b3.other q.b4 (by decide) (by omega) _, q.b4.set _⟩
theorem TB.own {most b : Nat} (h : Nat) (hb : h + 5 ≤ b) : AbP b (fun (pre : List (Int × List UInt8)) f W => TB h most f (sv (txs pre)) (nS pre) W) := fun pre f f' X Y q ht hf =>
  ⟨ht.block _ _ q.b0 (.inl (by omega)), ht.block _ _ q.b1 (.inl (by omega)), ht.block _ _ q.b2 (.inl (by omega)), AbP.hold (b := b) (fun (_ : Unit) => sv (txs pre)) (by omega) () f f' X Y q.b3 ht hf, ht.block _ _ q.b4 (.inl (by omega))⟩

/-- The five operations of 'n += R.Width(c)', as far as they have come up. -/
structure RT (h most lo : Nat) (f : Nat → Prop) (w0 W : World) (xs : List Value) (d : ByteArray) (a v : Int) (b0 b1 b2 b3 b4 : Bool) (u0 u1 u2 u3 : Value) (w : World) : Prop where
  s0 : b0 = true → u0 = .int .i64 a
  s1 : b1 = true → u1 = .string d
  s2 : b2 = true → u2 = .int .i64 v
  s3 : b3 = true → u3 = .int .i64 (a + v)
  q2 : b2 = true → b1 = true
  q3 : b3 = true → b0 = true ∧ b2 = true
  q4 : b4 = true → b3 = true
  rk : Rk lo f W w
  bel : Below h w0 w
  box : ∃ p, TB h most f xs p w ∧ (b4 = false → p = a) ∧ (b4 = true → p = a + v)

/-- How told is left within a round. -/
def ToldX (h most : Nat) (c : Code) (pre : List (Int × List UInt8)) (f : Nat → Prop) (W : World) : Prop :=
  ∃ p x, pre = p ++ [x] ∧ ((c = .exit 0 ∧ p.length = most ∧ TB h most f (sv (txs p)) (nS p) W) ∨ x.1 ≠ nS p)

/-- What the two results hold at the end. -/
theorem told_end {h most D : Nat} {f : Nat → Prop} {xs ys : List Value} {n0 : Int} {W : World} {A : Option Addr} {n c : Nat} (hTB : TB h most f xs n0 W) (hK : W.heap[D]? = some (Obj.deferred (some [])))
    (k3 : W.cell? ⟨h + 1 + 1 + 1, 0, none⟩ = some (.slice A n c)) (hr : OR W h 9 A n c ys) :
    ((((W.setCell ⟨h + 1, 0, none⟩ (.slice A n c)).setCell ⟨h + 1 + 1, 0, none⟩ (.bool true)).putObj D (.deferred none)).cell? ⟨h + 1, 0, none⟩ = some (.slice A n c) ∧
      (((W.setCell ⟨h + 1, 0, none⟩ (.slice A n c)).setCell ⟨h + 1 + 1, 0, none⟩ (.bool true)).putObj D (.deferred none)).cell? ⟨h + 1 + 1, 0, none⟩ = some (.bool true)) ∧
    ((W.setCell ⟨h + 1, 0, none⟩ (.slice A n c)).setCell ⟨h + 1 + 1, 0, none⟩ (.bool true)).heap[D]? = some (Obj.deferred (some [])) ∧
    OR (((W.setCell ⟨h + 1, 0, none⟩ (.slice A n c)).setCell ⟨h + 1 + 1, 0, none⟩ (.bool true)).putObj D (.deferred none)) h 9 A n c ys := by
  have hK' := (KeepsOthers.setCell (W.setCell ⟨h + 1, 0, none⟩ (.slice A n c)) ⟨h + 1 + 1, 0, none⟩ (.bool true)).same D _ ((KeepsOthers.setCell W ⟨h + 1, 0, none⟩ (.slice A n c)).same D _ hK rfl) rfl
  have c1 : Boxed ((W.setCell ⟨h + 1, 0, none⟩ (.slice A n c)).setCell ⟨h + 1 + 1, 0, none⟩ (.bool true)) (h + 1) 44 (.slice A n c) := (hTB.b1.set _).other (by omega) _
  have c2 : Boxed ((W.setCell ⟨h + 1, 0, none⟩ (.slice A n c)).setCell ⟨h + 1 + 1, 0, none⟩ (.bool true)) (h + 1 + 1) 4 (.bool true) := (hTB.b2.other (by omega) _).set _
  have hne1 : blk A = none ∨ blk A ≠ some (h + 1) := .inr (fun e => by have := hTB.b1.not_row (by decide) hr.1; rw [ownBlock_slice] at this; exact this e.symm)
  have hr1 : OR (W.setCell ⟨h + 1, 0, none⟩ (.slice A n c)) h 9 A n c ys := hr.kept (grownBy_setCell' _ _ _) hne1
  have hne2 : blk A = none ∨ blk A ≠ some (h + 1 + 1) := .inr (fun e => by have := (hTB.b2.other (B' := h + 1) (by omega) (.slice A n c)).not_row (by decide) hr1.1; rw [ownBlock_slice] at this; exact this e.symm)
  have hr2 : OR ((W.setCell ⟨h + 1, 0, none⟩ (.slice A n c)).setCell ⟨h + 1 + 1, 0, none⟩ (.bool true)) h 9 A n c ys := hr1.kept (grownBy_setCell' _ _ _) hne2
  have gg := grownBy_putObj' ((W.setCell ⟨h + 1, 0, none⟩ (.slice A n c)).setCell ⟨h + 1 + 1, 0, none⟩ (.bool true)) D (.deferred none)
  refine ⟨⟨cell_kept c1.cell gg (fun r e => by cases e; exact ⟨_, hK', rfl⟩), cell_kept c2.cell gg (fun r e => by cases e; exact ⟨_, hK', rfl⟩)⟩, hK', ⟨ownsRow_putObj hr2.1 (.deferred none) hK' rfl, hr2.2⟩⟩

set_option maxRecDepth 100000 in
set_option maxHeartbeats 4000000 in
theorem told3_any (s : ByteArray) (hs : s.size ≤ 10000) (most : Nat) (hm : most ≤ 1000000) (w : World) (hT : Tabs w) :
    Calls Tryd.prog 31 #[.string s, .int .i64 most] w fun e w' => ∃ A c, e = .returned (.tuple #[.slice A ((cls (rs s.data.toList)).take most).length c, .bool true]) ∧
      OR w' w.heap.size 9 A ((cls (rs s.data.toList)).take most).length c (sv (((cls (rs s.data.toList)).take most).map eb)) ∧ Below w.heap.size w w' := by
  have HT := Lib.hid hT
  clear hT
  have hwf := cls_wf (rs_isR s.data.toList)
  have HWF := Lib.hid hwf
  clear hwf
  have hnf : ∀ (v : Value) w, Sem.run Tryd.prog (binOp .eql 69 (.func (.func 68) #[] #[v]) .nilFunc) w = .ok (.bool false) w := fun _ _ => by kernel_rfl
  refine (callsIn_wide (n := 9)).1 ?_
  refine callsIn_of_wp_marks Tryd.func31 rfl trivial ?_ rfl
  simp only [Tryd.ntmps31, List.size_toArray, List.length_cons, List.length_nil, Nat.reduceAdd, Nat.reduceSub, Array.replicate_succ, Array.replicate_zero, List.push_toArray, List.append_toArray, List.nil_append, List.cons_append]
  refine wpIn_wide.2 ?_
  go_wp2_with (go_at_call 59; refine (call_any _ _).mono ?_; rintro e w' ⟨rfl, rfl⟩)
  refine (wpIn_wide (n := 9)).1 ?_
  obtain ⟨h, hh⟩ : ∃ h, h = w.heap.size := ⟨_, rfl⟩
  rw [← hh]
  obtain ⟨W0, hW0⟩ : ∃ W0, W0 = (((((w.alloc (.cells #[.int .i64 most] 3)).alloc (.cells #[.slice none 0 0] 44)).alloc (.cells #[.bool false] 4)).alloc (.cells #[.slice none 0 0] 44)).alloc (.cells #[.int .i64 0] 3)).alloc (.cells #[.string s] 9) := ⟨_, rfl⟩
  rw [← hW0]
  have c0 : Boxed W0 h 3 (.int .i64 most) := by rw [hW0, hh]; exact (((((Boxed.new w _ _).alloc _).alloc _).alloc _).alloc _).alloc _
  have c1 : Boxed W0 (h + 1) 44 (.slice none 0 0) := by
    have := ((((Boxed.new (w.alloc (.cells #[.int .i64 most] 3)) 44 (.slice none 0 0)).alloc (.cells #[.bool false] 4)).alloc (.cells #[.slice none 0 0] 44)).alloc (.cells #[.int .i64 0] 3)).alloc (.cells #[.string s] 9)
    rw [hW0, hh]; simpa using this
  have c2 : Boxed W0 (h + 1 + 1) 4 (.bool false) := by
    have := (((Boxed.new ((w.alloc (.cells #[.int .i64 most] 3)).alloc (.cells #[.slice none 0 0] 44)) 4 (.bool false)).alloc (.cells #[.slice none 0 0] 44)).alloc (.cells #[.int .i64 0] 3)).alloc (.cells #[.string s] 9)
    rw [hW0, hh]; simpa using this
  have c3 : Boxed W0 (h + 1 + 1 + 1) 44 (.slice none 0 0) := by
    have := ((Boxed.new (((w.alloc (.cells #[.int .i64 most] 3)).alloc (.cells #[.slice none 0 0] 44)).alloc (.cells #[.bool false] 4)) 44 (.slice none 0 0)).alloc (.cells #[.int .i64 0] 3)).alloc (.cells #[.string s] 9)
    rw [hW0, hh]; simpa using this
  have c4 : Boxed W0 (h + 1 + 1 + 1 + 1) 3 (.int .i64 0) := by
    have := (Boxed.new ((((w.alloc (.cells #[.int .i64 most] 3)).alloc (.cells #[.slice none 0 0] 44)).alloc (.cells #[.bool false] 4)).alloc (.cells #[.slice none 0 0] 44)) 3 (.int .i64 0)).alloc (.cells #[.string s] 9)
    rw [hW0, hh]; simpa using this
  have c5 : Boxed W0 (h + 1 + 1 + 1 + 1 + 1) 9 (.string s) := by
    have := Boxed.new (((((w.alloc (.cells #[.int .i64 most] 3)).alloc (.cells #[.slice none 0 0] 44)).alloc (.cells #[.bool false] 4)).alloc (.cells #[.slice none 0 0] 44)).alloc (.cells #[.int .i64 0] 3)) 9 (.string s)
    rw [hW0, hh]; simpa using this
  have hB0 : Below h w W0 := by
    rw [hW0, hh]
    exact ((((((Below.refl _ w).alloc (Nat.le_refl _) _).alloc (by simp) _).alloc (by simp; omega) _).alloc (by simp; omega) _).alloc (by simp; omega) _).alloc (by simp; omega) _
  have hsz : W0.heap.size = h + 6 := by rw [hW0, hh]; simp
  have hg : 1 < h := by rw [hh]; exact HT.out.mg
  have hg' : 0 < h := by rw [hh]; exact HT.out.wg
  have hTW : Tabs W0 := HT.out.below (by rw [← hh]; exact hB0)
  have HTW := Lib.hid hTW
  have HH := Lib.hid hh
  have hsz1 : W0.heap.size ≤ h + 6 := by omega
  have hsz2 : h + 6 ≤ W0.heap.size := by omega
  have hw1 : h ≤ w.heap.size := by omega
  clear hW0 hh hsz hTW
  refine range_priv rfl (by omega) (gf := 68) (lb := #[.pointer (some ⟨h + 1 + 1 + 1 + 1 + 1, 0, none⟩)]) rfl trivial (enters_of Tryd.func68 (by kernel_rfl) rfl)
    (call_stops (h + 1 + 1 + 1 + 1 + 1) s (by omega) (lent h (h + 1 + 1 + 1 + 1 + 1)) W0 c5.cell HTW.out (.inr rfl) (.inl hg) (.inl hg') (fun k hk => by rcases hk with hk | hk <;> omega))
    (Nat.le_refl _) (fun k hk => ⟨by rcases hk with hk | hk <;> omega, rfl⟩) (fun _ => rfl)
    (fun pre f W => TB h most f (sv (txs pre)) (nS pre) W ∧ pre.length ≤ most ∧ Below h w W)
    (fun c pre f W => ToldX h most c pre f W ∧ Below h w W)
    (AbP.and (TB.own h (by omega)) (AbP.and (AbP.pure _) (AbP.below (by omega) hw1)))
    (fun c => AbP.and (fun pre f f' A B hs ht hf => by
      obtain ⟨p, x, h1, h2 | h2⟩ := hs
      · exact ⟨p, x, h1, .inl ⟨h2.1, h2.2.1, TB.own h (by omega) p f f' A B h2.2.2 ht hf⟩⟩
      · exact ⟨p, x, h1, .inr h2⟩) (AbP.below (by omega) hw1))
    ⟨⟨c0, c1, c2, ⟨none, 0, 0, c3, OR.none_ _ _ _, fun g hg => by cases hg⟩, c4⟩, by simp, hB0⟩
    (fun x => { tmps := #[.string s, .int .i64 most, undef, .pointer (some ⟨h, 0, none⟩), .pointer (some ⟨h + 1, 0, none⟩), .pointer (some ⟨h + 1 + 1, 0, none⟩), .pointer (some ⟨h + 1 + 1 + 1, 0, none⟩), .pointer (some ⟨h + 1 + 1 + 1 + 1, 0, none⟩), .func (.func 68) #[] #[.pointer (some ⟨h + 1 + 1 + 1 + 1 + 1, 0, none⟩)], .int .i64 x.1, .string ⟨x.2.toArray⟩, .string s, .func (.func 68) #[] #[.pointer (some ⟨h + 1 + 1 + 1 + 1 + 1, 0, none⟩)], .func (.func 68) #[] #[.pointer (some ⟨h + 1 + 1 + 1 + 1 + 1, 0, none⟩)], .bool false, .func (.func 68) #[] #[.pointer (some ⟨h + 1 + 1 + 1 + 1 + 1, 0, none⟩)], .int .i64 x.1, .string ⟨x.2.toArray⟩, undef, undef, undef, undef, undef, undef, undef, undef, undef, undef, undef, undef, undef, undef, undef, undef], defers := [] }) ?assign ?body ?done ?stop
  case assign =>
    intro l x W K hK
    simp only [encC]
    rw [put_two]
    gi_wp2
    exact hK
  case body =>
    rintro lo pre x f W hf hz ⟨hTB, hpm, hbW⟩ hlen hel
    obtain ⟨A, n, c, hb, hr, hm⟩ := hTB.b3
    have hn : n = pre.length := by rw [hr.len, sv_length, txs_length]
    have hx64 := hel.1
    have hx0 := hel.2.1
    have hx1 := hel.2.2
    have hnS := nS_bd pre
    have hfwb := fw_bd (rs x.2)
    obtain ⟨v, hv⟩ : ∃ v, v = fw (rs x.2) := ⟨_, rfl⟩
    rw [← hv] at hfwb
    obtain ⟨hv1, hv2⟩ := hfwb
    have HV := Lib.hid hv
    have hfs : ∀ k, f k → k < W.heap.size := fun k hk => by
      rcases hf k hk with h' | h'
      · rcases h' with h' | h' <;> omega
      · exact h'.2
    have hnf0 := not_lent (b := h) hf (Nat.le_refl _) (by omega) (by omega)
    have hnf1 := not_lent (b := h + 1) hf (by omega) (by omega) (by omega)
    have hnf2 := not_lent (b := h + 1 + 1) hf (by omega) (by omega) (by omega)
    have hnf3 := not_lent (b := h + 1 + 1 + 1) hf (by omega) (by omega) (by omega)
    have hnf4 := not_lent (b := h + 1 + 1 + 1 + 1) hf (by omega) (by omega) (by omega)
    have hszW : h ≤ W.heap.size := by omega
    have k0 := hTB.b0.cell
    have k1 := hTB.b1.cell
    have k2 := hTB.b2.cell
    have k3 := hb.cell
    have k4 := hTB.b4.cell
    have q1 := hTB.b1.frozen
    have q2 := hTB.b2.frozen
    have q3 := hb.frozen
    generalize hns : nS pre = a at hnS k4
    obtain ⟨ha0, ha1⟩ := hnS
    have HNS := Lib.hid hns
    have HTB := Lib.hid hTB
    have HN := Lib.hid hn
    have hnl : n ≤ 10000 := by omega
    clear hv hel hns hTB hn
    by_cases hge : most ≤ n
    · have hge' : (most : Int) ≤ (n : Int) := by omega
      have hpl : pre.length = most := by have := HN.out; omega
      have HPL := Lib.hid hpl
      clear hge hpl
      gi_wp2
      refine ⟨KeepsFrom.refl _ _, ⟨pre, x, rfl, .inl ⟨rfl, HPL.out, HTB.out⟩⟩, hbW⟩
    · have hge' : ¬ (most : Int) ≤ (n : Int) := by omega
      have hpl : pre.length + 1 ≤ most := by have := HN.out; omega
      have HPL := Lib.hid hpl
      clear hge hpl
      by_cases hat : x.1 = a
      · have hatd : (x.1 == a) = true := by simp [hat]
        have hxd : (⟨x.2.toArray⟩ : ByteArray).data.toList = x.2 := rfl
        have hxs : (⟨x.2.toArray⟩ : ByteArray).size ≤ 10000 := by rw [size_of]; omega
        have hwi : ∀ w', Calls Tryd.prog 38 #[.string ⟨x.2.toArray⟩] w' fun e w'' => e = .returned (.int .i64 v) ∧ Below w'.heap.size w' w'' := fun w' => by
          have := rwidth_any ⟨x.2.toArray⟩ hxs w'
          rw [hxd, ← HV.out] at this
          exact this
        have HWI := Lib.hid hwi
        obtain ⟨A5, c5', w5, hrun, hO5, hg5, hat5⟩ := run_app Tryd.underlying44 str_info rfl (by omega) (W.alloc (.cells #[.string ⟨x.2.toArray⟩] 9)) 44 h A n c _ (hr.alloc _) (some ⟨W.heap.size, 0, none⟩) 1 1 [.string ⟨x.2.toArray⟩] (W.heap.size + 1) (Sl.new W #[.string ⟨x.2.toArray⟩] 9) rfl (fun e => by cases e) (by intro u hu; simp at hu; subst hu; rfl) (n + 1) rfl (by omega) (by simp; omega)
        obtain ⟨hH, hRk, hb5, hbe⟩ := HoldP.appended (X := W.alloc (.cells #[.string ⟨x.2.toArray⟩] 9)) (by decide) (by omega) hfs ((Below.refl _ _).alloc (Nat.le_refl _) _) hb hr hm hnf3 hO5 hg5 (blk_at hat5) W0.heap.size
        have hc5 := hb5.cell
        have hf5 := hb5.frozen
        have kept5 : ∀ {B : Nat} {t : TypeId} {u : Value}, Boxed W B t u → t ≠ 9 → B ≠ h + 1 + 1 + 1 → Boxed (w5.setCell ⟨h + 1 + 1 + 1, 0, none⟩ (.slice A5 (n + 1) c5')) B t u := fun hbx ht hB => by
          have h1 := hbx.alloc (.cells #[.string ⟨x.2.toArray⟩] 9)
          have h2 := h1.not_row ht (hr.alloc _).1
          rw [ownBlock_slice] at h2
          exact (h1.kept hg5 h2).other hB _
        have hTB5 : TB h most f (sv (txs pre) ++ [.string ⟨x.2.toArray⟩]) a (w5.setCell ⟨h + 1 + 1 + 1, 0, none⟩ (.slice A5 (n + 1) c5')) :=
          ⟨kept5 HTB.out.b0 (by decide) (by omega), kept5 HTB.out.b1 (by decide) (by omega), kept5 HTB.out.b2 (by decide) (by omega), hH, by have := kept5 HTB.out.b4 (by decide) (by omega); rw [HNS.out] at this; exact this⟩
        have hbw5 := hbW.trans (hbe hszW)
        have HR := Lib.hid hrun
        have HTB5 := Lib.hid hTB5
        clear hrun hH hO5 hg5 hat5 hb5 hr hm hwi hxd hxs kept5 hTB5 hbe
        gi_wp2_with (gi_at_builtin; refine wpListIn_app 44 44 rfl (.tmp 25) (.tmp 27) rfl _ _ _ _ rfl rfl HR.out ?_)
        have hmx : Tryd.prog.follows .mixedOrders = true := by kernel_rfl
        refine wpIn_region_any hmx ?_
        change wpAnyIn _ _ _ _ _ _ _ _ _ (w5.setCell ⟨h + 1 + 1 + 1, 0, none⟩ (.slice A5 (n + 1) c5')).drew
        refine wpAnyIn_inv (fun listed a' w2 => ∃ b0 b1 b2 b3 b4 u0 u1 u2 u3, listed = #[b0, b1, b2, b3, b4] ∧
          a' = { tmps := #[.string s, .int .i64 most, undef, .pointer (some ⟨h, 0, none⟩), .pointer (some ⟨h + 1, 0, none⟩), .pointer (some ⟨h + 1 + 1, 0, none⟩), .pointer (some ⟨h + 1 + 1 + 1, 0, none⟩), .pointer (some ⟨h + 1 + 1 + 1 + 1, 0, none⟩), .func (.func 68) #[] #[.pointer (some ⟨h + 1 + 1 + 1 + 1 + 1, 0, none⟩)], .int .i64 a, .string ⟨x.2.toArray⟩, .string s, .func (.func 68) #[] #[.pointer (some ⟨h + 1 + 1 + 1 + 1 + 1, 0, none⟩)], .func (.func 68) #[] #[.pointer (some ⟨h + 1 + 1 + 1 + 1 + 1, 0, none⟩)], .bool false, .func (.func 68) #[] #[.pointer (some ⟨h + 1 + 1 + 1 + 1 + 1, 0, none⟩)], .int .i64 a, .string ⟨x.2.toArray⟩, .slice A n c, .int .i64 n, .int .i64 most, .bool false, .int .i64 a, .int .i64 a, .bool false, .slice A n c, .string ⟨x.2.toArray⟩, .slice (some ⟨W.heap.size, 0, none⟩) 1 1, .slice A5 (n + 1) c5', u0, u1, u2, u3, undef], defers := [] } ∧
          RT h most W0.heap.size f w W (sv (txs pre) ++ [.string ⟨x.2.toArray⟩]) ⟨x.2.toArray⟩ a v b0 b1 b2 b3 b4 u0 u1 u2 u3 w2) ?_ ?_ _ _ _ _ (by decide) ?_
        · rintro listed a' w2 hr ⟨b0, b1, b2, b3, b4, u0, u1, u2, u3, rfl, rfl, hI⟩
          obtain rfl : b0 = true := listed_of hr (j := 0) rfl (by simp)
          obtain rfl : b1 = true := listed_of hr (j := 1) rfl (by simp)
          obtain rfl : b2 = true := listed_of hr (j := 2) rfl (by simp [Region.binds])
          obtain rfl : b3 = true := listed_of hr (j := 3) rfl (by simp [Region.binds])
          obtain rfl : b4 = true := listed_of hr (j := 4) rfl (by simp [Region.binds])
          obtain ⟨p, hbx, _, hy⟩ := hI.box
          obtain rfl := hy rfl
          refine ⟨hI.rk, ?_, by rw [List.length_append]; exact HPL.out, hI.bel⟩
          rw [txs_snoc, sv_snoc, nS_snoc, HNS.out, ← HV.out]
          exact hbx
        · rintro i listed a' w2 ⟨b0, b1, b2, b3, b4, u0, u1, u2, u3, rfl, rfl, hI⟩ hi
          obtain ⟨hfa, o, ho, hdep⟩ := mem_ready.1 hi
          have hi5 : i < 5 := (Array.getElem?_eq_some_iff.1 ho).1
          have hic : i = 0 ∨ i = 1 ∨ i = 2 ∨ i = 3 ∨ i = 4 := by omega
          rcases hic with rfl | rfl | rfl | rfl | rfl
          all_goals
            simp at ho
            subst ho
            simp [Region.binds] at hdep
            simp at hfa
          all_goals try subst hfa
          all_goals try simp only [forall_const] at hdep
          · -- 0: the columns so far
            have e3 := nb (fun e => (hI.q3 e).1) rfl
            have e4' := nb hI.q4 e3
            obtain ⟨p, hbx, hn, hy⟩ := hI.box
            obtain rfl := hn e4'
            have hcl := hbx.b4.cell
            have HI := Lib.hid hI
            have E3 := Lib.hid e3
            clear hI e3 e4' hbx hn hy
            refine wpOpIn_step rfl (fun K' hK => ?_)
            go_simp
            refine hK _ _ ?_
            exact ⟨true, b1, b2, b3, b4, _, u1, u2, u3, rfl, rfl, ⟨fun _ => rfl, HI.out.s1, HI.out.s2, HI.out.s3, HI.out.q2, (fun e => absurd (e.symm.trans E3.out) (by decide)), HI.out.q4, HI.out.rk, HI.out.bel, HI.out.box⟩⟩
          · -- 1: the text
            have e2 := nb hI.q2 rfl
            have HI := Lib.hid hI
            have E2 := Lib.hid e2
            clear hI e2
            refine wpOpIn_step rfl (fun K' hK => ?_)
            go_simp
            refine hK _ _ ?_
            exact ⟨b0, true, b2, b3, b4, u0, _, u2, u3, rfl, rfl, ⟨HI.out.s0, fun _ => rfl, HI.out.s2, HI.out.s3, fun _ => rfl, HI.out.q3, HI.out.q4, HI.out.rk, HI.out.bel, HI.out.box⟩⟩
          · -- 2: its columns
            obtain rfl := hdep
            have e3 := nb (fun e => (hI.q3 e).2) rfl
            obtain rfl := hI.s1 rfl
            have HI := Lib.hid hI
            have E3 := Lib.hid e3
            clear hI e3
            refine wpOpIn_step rfl (fun K' hK => ?_)
            go_simp
            refine ⟨trivial, (CallsIn.inRound lo (callsIn_wide.2 (HWI.out _))).mono ?_⟩
            rintro e w4 ⟨rfl, hb4⟩
            refine hK _ _ ?_
            have hz4 : h ≤ w2.heap.size := by have := HI.out.bel.size; omega
            have hrk4 : Rk W0.heap.size f W w4 := HI.out.rk.trans (Rk.of_below hb4 (fun k hk => by have := hfs k hk; have := HI.out.rk.below.size; omega))
            exact ⟨b0, true, true, b3, b4, u0, _, _, u3, rfl, rfl, ⟨HI.out.s0, fun _ => rfl, fun _ => rfl, HI.out.s3, fun _ => rfl, (fun e => absurd (e.symm.trans E3.out) (by decide)), HI.out.q4, hrk4, HI.out.bel.trans (hb4.mono hz4), HI.out.box.elim fun p hp => ⟨p, hp.1.on hb4, hp.2⟩⟩⟩
          · -- 3: the sum
            obtain ⟨rfl, rfl⟩ := hdep
            have e4' := nb hI.q4 rfl
            obtain rfl := hI.s0 rfl
            obtain rfl := hI.s2 rfl
            have HI := Lib.hid hI
            have E4 := Lib.hid e4'
            clear hI e4'
            have hws : IntKind.i64.wrap (a + v) = a + v := IntWalk.i64_in _ (by omega)
            refine wpOpIn_step rfl (fun K' hK => ?_)
            go_simp
            refine hK _ _ ?_
            exact ⟨true, b1, true, true, b4, _, u1, _, _, rfl, rfl, ⟨fun _ => rfl, HI.out.s1, fun _ => rfl, (fun _ => by first | rfl | rw [hws]), HI.out.q2, (fun _ => ⟨rfl, rfl⟩), (fun e => absurd (e.symm.trans E4.out) (by decide)), HI.out.rk, HI.out.bel, HI.out.box⟩⟩
          · -- 4: the store
            have hb3 : b3 = true := by simp_all
            subst hb3
            obtain rfl := hI.s3 rfl
            obtain ⟨p, hbx, hn, hy⟩ := hI.box
            have hcl := hbx.b4.cell
            have hfl := hbx.b4.frozen
            have HI := Lib.hid hI
            have HBX := Lib.hid hbx
            clear hI hbx hn hy hdep
            refine wpOpIn_step rfl (fun K' hK => ?_)
            go_simp
            refine hK _ _ ?_
            exact ⟨b0, b1, b2, true, true, u0, u1, u2, _, rfl, rfl, ⟨HI.out.s0, HI.out.s1, HI.out.s2, fun _ => rfl, HI.out.q2, HI.out.q3, fun _ => rfl, HI.out.rk.setCell hnf4 _, HI.out.bel.setCell (p := ⟨h + 1 + 1 + 1 + 1, 0, none⟩) (by show h ≤ h + 1 + 1 + 1 + 1; omega) _, ⟨_, HBX.out.set4 _, (fun e => by cases e), (fun _ => rfl)⟩⟩⟩
        · exact ⟨false, false, false, false, false, _, _, _, _, rfl, rfl, ⟨(fun e => by cases e), (fun e => by cases e), (fun e => by cases e), (fun e => by cases e), (fun e => by cases e), (fun e => by cases e), (fun e => by cases e), hRk.drew, hbw5.drew, ⟨a, HTB5.out.on ((Below.refl _ _).drew), (fun _ => rfl), (fun e => by cases e)⟩⟩⟩
      · have hatd : (x.1 == a) = false := by simp [hat]
        have HAT := Lib.hid hat
        clear hat
        gi_wp2
        refine ⟨((KeepsOthers.setCell _ _ _).trans (KeepsOthers.setCell _ _ _)).from _, ⟨pre, x, rfl, .inr (by rw [HNS.out]; exact HAT.out)⟩, (hbW.setCell (p := ⟨h + 1, 0, none⟩) (by show h ≤ h + 1; omega) _).setCell (p := ⟨h + 1 + 1, 0, none⟩) (by show h ≤ h + 1 + 1; omega) _⟩
  case done =>
    rintro D ys f W hD rfl ⟨hTB, hpm, hbW⟩ hK
    rw [prs_length] at hpm
    have htk : (cls (rs s.data.toList)).take most = cls (rs s.data.toList) := List.take_of_length_le hpm
    have HTK := Lib.hid htk
    obtain ⟨A, n, c, hb, hr, hm⟩ := hTB.b3
    rw [txs_prs] at hr
    have hn : n = (cls (rs s.data.toList)).length := by rw [hr.len, sv_length, List.length_map]
    have k3 := hb.cell
    have k1 := hTB.b1.cell
    have k2 := hTB.b2.cell
    have q1 := hTB.b1.frozen
    have q2 := hTB.b2.frozen
    have HR := Lib.hid hr
    have HN := Lib.hid hn
    have n1 : (h + 1 : Nat) ≠ h + 1 + 1 := by omega
    clear hr hn htk hpm
    go_wp2
    obtain ⟨hres, hK', hO⟩ := told_end hTB hK k3 HR.out
    refine ⟨by simp, .inl ⟨_, _, rfl, run_takeDeferred hK', ?_⟩⟩
    refine ⟨.tuple #[.slice A n c, .bool true], ?_, A, c, ?_, ?_, ?_⟩
    · simp [results, Tryd.f31, go_sem, hres.1, hres.2]
    · rw [HTK.out, HN.out]
    · rw [HTK.out, ← HN.out, ← HH.out]; exact hO
    · have hq := HH.out
      rw [← HH.out]
      exact ((hbW.setCell (p := ⟨h + 1, 0, none⟩) (by show h ≤ h + 1; omega) _).setCell (p := ⟨h + 1 + 1, 0, none⟩) (by show h ≤ h + 1 + 1; omega) _).trans (belowK_b (w := w) hw1 _ D _ _ (by omega) hK' rfl rfl)
  case stop =>
    rintro D c pre f W hD hpre ⟨⟨p, x, hp, h1 | h1⟩, hbW⟩ hK
    · obtain ⟨rfl, hpl, hTB⟩ := h1
      rw [hp] at hpre
      have hpt : p = prs 0 ((cls (rs s.data.toList)).take most) := by
        rw [← prs_take, ← hpl]
        obtain ⟨t, ht⟩ := hpre
        rw [← ht, List.append_assoc, List.take_left]
      rw [hpt] at hTB
      obtain ⟨A, n, c, hb, hr, hm⟩ := hTB.b3
      rw [txs_prs] at hr
      have hn : n = ((cls (rs s.data.toList)).take most).length := by rw [hr.len, sv_length, List.length_map]
      have k3 := hb.cell
      have k1 := hTB.b1.cell
      have k2 := hTB.b2.cell
      have q1 := hTB.b1.frozen
      have q2 := hTB.b2.frozen
      have HR := Lib.hid hr
      have HN := Lib.hid hn
      have n1 : (h + 1 : Nat) ≠ h + 1 + 1 := by omega
      clear hr hn hpre hpl hpt hp
      gi_wp2
      go_wp2
      obtain ⟨hres, hK', hO⟩ := told_end hTB hK k3 HR.out
      refine ⟨by simp, .inl ⟨_, _, rfl, run_takeDeferred hK', ?_⟩⟩
      refine ⟨.tuple #[.slice A n c, .bool true], ?_, A, c, ?_, ?_, ?_⟩
      · simp [results, Tryd.f31, go_sem, hres.1, hres.2]
      · rw [HN.out]
      · rw [← HN.out, ← HH.out]; exact hO
      · have hq := HH.out
        rw [← HH.out]
        exact ((hbW.setCell (p := ⟨h + 1, 0, none⟩) (by show h ≤ h + 1; omega) _).setCell (p := ⟨h + 1 + 1, 0, none⟩) (by show h ≤ h + 1 + 1; omega) _).trans (belowK_b (w := w) hw1 _ D _ _ (by omega) hK' rfl rfl)
    · rw [hp] at hpre
      exact absurd (prs_at HWF.out hpre) h1
end Go.Proofs.YtmgakdbcgdhpaaaDoor
