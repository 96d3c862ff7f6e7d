/-
  Walks: the law's texts: a range over the rows' texts that may be left.
-/
import Derived.Test.YtaijiapolippaaaDoorFrTexts
import Derived.Test.YtaijiapolippaaaDoorGfF
namespace Go.Proofs.YtaijiapolippaaaDoor
open Go.RowKit Go.Shelf
attribute [local go_sem] Oper.semAt_some
set_option linter.unusedVariables false
set_option linter.unusedSimpArgs false

theorem HoldP.onF {B : Nat} {T e : TypeId} {base : Nat} {xs : List Value} {f : Nat → Prop} {w w' : World} (h : HoldP B T e base xs f w) (hb : Below w.heap.size w w') : HoldP B T e base xs f w' := by
  obtain ⟨A, n, c, h1, h2, h3⟩ := h
  exact ⟨A, n, c, h1.kept (grown_of_below hb) (by simp), h2.below hb (fun g hg => (h2.blk_lt g hg).2), h3⟩
def txN (pre : List (Nat × List UInt8)) : List (List UInt8) := pre.map (·.2)
theorem txN_snoc (pre : List (Nat × List UInt8)) (x : Nat × List UInt8) : txN (pre ++ [x]) = txN pre ++ [x.2] := by simp [txN]
theorem txN_length (pre : List (Nat × List UInt8)) : (txN pre).length = pre.length := by simp [txN]
theorem txN_lns (T : List (List UInt8)) : txN (lnsS T) = T := by
  apply List.ext_getElem?
  intro i
  simp only [txN, lnsS, List.map_map, List.getElem?_map, List.getElem?_zipIdx]
  cases T[i]? <;> rfl
theorem lns_at {T : List (List UInt8)} {p : List (Nat × List UInt8)} {x : Nat × List UInt8} (hp : p ++ [x] <+: lnsS T) : x.1 = p.length := by
  obtain ⟨t, ht⟩ := hp
  have hl : p.length < T.length := by
    have := congrArg List.length ht
    rw [lnsS_length] at this
    simp at this
    omega
  have h1 := lnsS_get hl
  rw [← ht] at h1
  simp at h1
  exact congrArg (·.1) h1

/-- The boxes of texts: the frame, the bound, the two results, the row. -/
structure TF (h most : Nat) (f : Nat → Prop) (xs : List Value) (w : World) : Prop where
  b0 : Boxed w (h + 1) 3 (.int .i64 most)
  b1 : Boxed w (h + 1 + 1) 68 (.slice none 0 0)
  b2 : Boxed w (h + 1 + 1 + 1) 4 (.bool false)
  b3 : HoldP (h + 1 + 1 + 1 + 1) 68 9 h xs f w
theorem TF.on {h most : Nat} {f : Nat → Prop} {xs : List Value} {w w' : World} (q : TF h most f xs w) (hb : Below w.heap.size w w') : TF h most f xs w' :=
  ⟨q.b0.kept (grown_of_below hb) (by simp), q.b1.kept (grown_of_below hb) (by simp), q.b2.kept (grown_of_below hb) (by simp), q.b3.onF hb⟩
theorem TF.own {most b : Nat} (h : Nat) (hb : h + 5 ≤ b) : AbP b (fun (pre : List (Nat × List UInt8)) f W => TF h most f (sv (txN pre)) W) := fun pre f f' X Y q ht hf =>
  ⟨ht.block _ _ q.b0 (.inl (by omega)), ht.block _ _ q.b1 (.inl (by omega)), ht.block _ _ q.b2 (.inl (by omega)), AbP.hold (b := b) (fun (_ : Unit) => sv (txN pre)) (by omega) () f f' X Y q.b3 ht hf⟩
/-- How texts is left within a round. -/
def TextsX (h most : Nat) (c : Code) (pre : List (Nat × List UInt8)) (f : Nat → Prop) (W : World) : Prop :=
  ∃ p x, pre = p ++ [x] ∧ ((c = .exit 0 ∧ p.length = most ∧ TF h most f (sv (txN p)) W) ∨ x.1 ≠ p.length)

/-- What the two results hold at the end. -/
theorem texts_end {h most D : Nat} {f : Nat → Prop} {xs ys : List Value} {W : World} {A : Option Addr} {n c : Nat} (hTB : TF h most f xs W) (hK : W.heap[D]? = some (Obj.deferred (some [])))
    (hr : OR W h 9 A n c ys) :
    ((((W.setCell ⟨h + 1 + 1, 0, none⟩ (.slice A n c)).setCell ⟨h + 1 + 1 + 1, 0, none⟩ (.bool true)).putObj D (.deferred none)).cell? ⟨h + 1 + 1, 0, none⟩ = some (.slice A n c) ∧
      (((W.setCell ⟨h + 1 + 1, 0, none⟩ (.slice A n c)).setCell ⟨h + 1 + 1 + 1, 0, none⟩ (.bool true)).putObj D (.deferred none)).cell? ⟨h + 1 + 1 + 1, 0, none⟩ = some (.bool true)) ∧
    ((W.setCell ⟨h + 1 + 1, 0, none⟩ (.slice A n c)).setCell ⟨h + 1 + 1 + 1, 0, none⟩ (.bool true)).heap[D]? = some (Obj.deferred (some [])) ∧
    OR (((W.setCell ⟨h + 1 + 1, 0, none⟩ (.slice A n c)).setCell ⟨h + 1 + 1 + 1, 0, none⟩ (.bool true)).putObj D (.deferred none)) h 9 A n c ys := by
  have hK' := (KeepsOthers.setCell (W.setCell ⟨h + 1 + 1, 0, none⟩ (.slice A n c)) ⟨h + 1 + 1 + 1, 0, none⟩ (.bool true)).same D _ ((KeepsOthers.setCell W ⟨h + 1 + 1, 0, none⟩ (.slice A n c)).same D _ hK rfl) rfl
  have c1 : Boxed ((W.setCell ⟨h + 1 + 1, 0, none⟩ (.slice A n c)).setCell ⟨h + 1 + 1 + 1, 0, none⟩ (.bool true)) (h + 1 + 1) 68 (.slice A n c) := (hTB.b1.set _).other (by omega) _
  have c2 : Boxed ((W.setCell ⟨h + 1 + 1, 0, none⟩ (.slice A n c)).setCell ⟨h + 1 + 1 + 1, 0, none⟩ (.bool true)) (h + 1 + 1 + 1) 4 (.bool true) := (hTB.b2.other (by omega) _).set _
  have hne1 : blk A = none ∨ blk A ≠ some (h + 1 + 1) := .inr (fun e => by have := hTB.b1.not_row (by decide) hr.1; rw [ownBlock_slice] at this; exact this e.symm)
  have hr1 : OR (W.setCell ⟨h + 1 + 1, 0, none⟩ (.slice A n c)) h 9 A n c ys := hr.kept (grownBy_setCell' _ _ _) hne1
  have hne2 : blk A = none ∨ blk A ≠ some (h + 1 + 1 + 1) := .inr (fun e => by have := (hTB.b2.other (B' := h + 1 + 1) (by omega) (.slice A n c)).not_row (by decide) hr1.1; rw [ownBlock_slice] at this; exact this e.symm)
  have hr2 : OR ((W.setCell ⟨h + 1 + 1, 0, none⟩ (.slice A n c)).setCell ⟨h + 1 + 1 + 1, 0, none⟩ (.bool true)) h 9 A n c ys := hr1.kept (grownBy_setCell' _ _ _) hne2
  have gg := grownBy_putObj' ((W.setCell ⟨h + 1 + 1, 0, none⟩ (.slice A n c)).setCell ⟨h + 1 + 1 + 1, 0, none⟩ (.bool true)) D (.deferred none)
  refine ⟨⟨cell_kept c1.cell gg (fun r e => by cases e; exact ⟨_, hK', rfl⟩), cell_kept c2.cell gg (fun r e => by cases e; exact ⟨_, hK', rfl⟩)⟩, hK', ⟨ownsRow_putObj hr2.1 (.deferred none) hK' rfl, hr2.2⟩⟩

set_option maxRecDepth 100000 in
set_option maxHeartbeats 8000000 in
theorem ltexts_any {w : World} {D : Nat → Prop} {A : Option Addr} {c : Nat} {L : List (List Cl)} (h0 : RfAt w D A c L) (row col : Int) (sn : Bool) (h5 : L.length ≤ 10000) (hs : ∀ l ∈ L, l.length ≤ 100000 ∧ (lineM l).length ≤ 140737488351232) (most : Nat) (hm : most ≤ 1000000) :
    Calls Tryd.prog 37 #[.agg #[.slice A L.length c, .int .i64 row, .int .i64 col, .bool sn], .int .i64 most] w fun e w' => ∃ A1 c1, e = .returned (.tuple #[.slice A1 ((L.map lineM).take most).length c1, .bool true]) ∧
      OR w' w.heap.size 9 A1 ((L.map lineM).take most).length c1 (sv ((L.map lineM).take most)) ∧ Below w.heap.size w w' := by
  obtain ⟨nl, hnl⟩ : ∃ nl, nl = L.length := ⟨_, rfl⟩
  rw [← hnl]
  have hTX : ∀ W, Below w.heap.size w W → Calls Tryd.prog 66 #[.agg #[.slice A nl c, .int .i64 row, .int .i64 col, .bool sn]] W fun e w' => ∃ B b, e = .returned (.func (.func 133) #[] #[.pointer (some ⟨B, 0, none⟩)]) ∧ W.heap.size ≤ B ∧ W.heap.size ≤ b ∧
      Blk w' B 68 [.slice (some ⟨b, 0, none⟩) (L.map lineM).length (L.map lineM).length] ∧ Blk w' b 9 (sv (L.map lineM)) ∧ Below W.heap.size W w' := fun W hW => by
    have := ftexts_any (h0.below hW) row col sn (by omega) hs
    rw [← hnl] at this
    rw [List.length_map, ← hnl]
    exact this
  have HTX := Lib.hid hTX
  have htl : (L.map lineM).length ≤ 10000 := by rw [List.length_map]; exact h5
  generalize L.map lineM = T at HTX htl ⊢
  clear hTX hs h0 h5 hnl
  have hnf : ∀ (v : Value) w, Sem.run Tryd.prog (binOp .eql 118 (.func (.func 133) #[] #[v]) .nilFunc) w = .ok (.bool false) w := fun _ _ => by kernel_rfl
  refine (callsIn_wide (n := 9)).1 ?_
  refine callsIn_of_wp_marks Tryd.func37 rfl trivial ?_ rfl
  simp only [Tryd.ntmps37, List.size_toArray, List.length_cons, List.length_nil, Nat.reduceAdd, Nat.reduceSub, Array.replicate_succ, Array.replicate_zero, List.push_toArray, List.append_toArray, List.nil_append, List.cons_append]
  refine wpIn_wide.2 ?_
  go_upto_region 2 with (fail)
  obtain ⟨h, hh⟩ : ∃ h, h = w.heap.size := ⟨_, rfl⟩
  rw [← hh]
  obtain ⟨W1, hW1⟩ : ∃ W1, W1 = ((((w.alloc (.cells #[.slice A nl c, .int .i64 row, .int .i64 col, .bool sn] 74)).alloc (.cells #[.int .i64 most] 3)).alloc (.cells #[.slice none 0 0] 68)).alloc (.cells #[.bool false] 4)).alloc (.cells #[.slice none 0 0] 68) := ⟨_, rfl⟩
  rw [← hW1]
  have a0 : Blk W1 h 74 [.slice A nl c, .int .i64 row, .int .i64 col, .bool sn] := by rw [hW1, hh]; exact ((((Blk.new w _ [.slice A nl c, .int .i64 row, .int .i64 col, .bool sn]).alloc _).alloc _).alloc _).alloc _
  have a1 : Boxed W1 (h + 1) 3 (.int .i64 most) := by
    have := (((Boxed.new (w.alloc (.cells #[.slice A nl c, .int .i64 row, .int .i64 col, .bool sn] 74)) 3 (.int .i64 most)).alloc (.cells #[.slice none 0 0] 68)).alloc (.cells #[.bool false] 4)).alloc (.cells #[.slice none 0 0] 68)
    rw [hW1, hh]; simpa using this
  have a2 : Boxed W1 (h + 1 + 1) 68 (.slice none 0 0) := by
    have := ((Boxed.new ((w.alloc (.cells #[.slice A nl c, .int .i64 row, .int .i64 col, .bool sn] 74)).alloc (.cells #[.int .i64 most] 3)) 68 (.slice none 0 0)).alloc (.cells #[.bool false] 4)).alloc (.cells #[.slice none 0 0] 68)
    rw [hW1, hh]; simpa using this
  have a3 : Boxed W1 (h + 1 + 1 + 1) 4 (.bool false) := by
    have := (Boxed.new (((w.alloc (.cells #[.slice A nl c, .int .i64 row, .int .i64 col, .bool sn] 74)).alloc (.cells #[.int .i64 most] 3)).alloc (.cells #[.slice none 0 0] 68)) 4 (.bool false)).alloc (.cells #[.slice none 0 0] 68)
    rw [hW1, hh]; simpa using this
  have a4 : Boxed W1 (h + 1 + 1 + 1 + 1) 68 (.slice none 0 0) := by
    have := Boxed.new ((((w.alloc (.cells #[.slice A nl c, .int .i64 row, .int .i64 col, .bool sn] 74)).alloc (.cells #[.int .i64 most] 3)).alloc (.cells #[.slice none 0 0] 68)).alloc (.cells #[.bool false] 4)) 68 (.slice none 0 0)
    rw [hW1, hh]; simpa using this
  have aB : Below h w W1 := by
    rw [hW1, hh]
    exact (((((Below.refl _ w).alloc (Nat.le_refl _) _).alloc (by simp) _).alloc (by simp; omega) _).alloc (by simp; omega) _).alloc (by simp; omega) _
  have aS : W1.heap.size = h + 5 := by rw [hW1, hh]; simp
  have A0 := Lib.hid a0
  have A1 := Lib.hid a1
  have A2 := Lib.hid a2
  have A3 := Lib.hid a3
  have A4 := Lib.hid a4
  have AB := Lib.hid aB
  have AS := Lib.hid aS
  have HH := Lib.hid hh
  have hbw : Below w.heap.size w W1 := by rw [← hh]; exact aB
  have HC := Lib.hid (HTX.out W1 hbw)
  have hw1 : h ≤ w.heap.size := by omega
  clear hW1 hh a0 a1 a2 a3 a4 aB aS hbw HTX
  go_wp2_with (first
    | ((with_reducible refine at_dst 10 ?_); refine wpList_load_mid rfl _ _ rfl h 0 rfl [.slice A nl c, .int .i64 row, .int .i64 col, .bool sn] _ (A0.out.range 0 _ (fun j v hv => by simpa using hv)) Tryd.underlying74 rfl (by kernel_rfl) ?_)
    | (go_at_call 66; refine HC.out.mono ?_; rintro e W0 ⟨B, b, rfl, hB, hb, hBB, hbb, hbel⟩; have CB := Lib.hid hBB; have Cb := Lib.hid hbb; have CE := Lib.hid hbel; have CS := Lib.hid (And.intro hB hb); clear hBB hbb hbel hB hb))
  refine (wpIn_wide (n := 9)).1 ?_
  have c0 : Boxed W0 (h + 1) 3 (.int .i64 most) := A1.out.kept (grown_of_below CE.out) (by simp)
  have c1 : Boxed W0 (h + 1 + 1) 68 (.slice none 0 0) := A2.out.kept (grown_of_below CE.out) (by simp)
  have c2 : Boxed W0 (h + 1 + 1 + 1) 4 (.bool false) := A3.out.kept (grown_of_below CE.out) (by simp)
  have c3 : Boxed W0 (h + 1 + 1 + 1 + 1) 68 (.slice none 0 0) := A4.out.kept (grown_of_below CE.out) (by simp)
  have hB0 : Below h w W0 := AB.out.trans (CE.out.mono (by have := AS.out; omega))
  have hsz2 : h + 5 ≤ W0.heap.size := by have := AS.out; have := CE.out.size; omega
  have hBl : h + 5 ≤ B := by have := CS.out.1; have := AS.out; omega
  have hbl : h + 5 ≤ b := by have := CS.out.2; have := AS.out; omega
  have hBW := CB.out.lt
  have hbW' := Cb.out.lt
  have hseq := sall_stops B b T (by omega) (fun k => k = B ∨ k = b) W0 (by have := CB.out.cell 0; exact this) (fun k t ht => (Cb.out.cell k).trans (strs_get ht)) (.inl rfl) (.inr rfl)
  refine range_priv rfl (by omega) (gf := 133) (lb := #[.pointer (some ⟨B, 0, none⟩)]) rfl trivial (enters_of Tryd.func133 (by kernel_rfl) rfl)
    hseq
    (Nat.le_refl _) (fun k hk => ⟨by rcases hk with hk | hk <;> omega, rfl⟩) (fun _ => rfl)
    (fun pre f W => TF h most f (sv (txN pre)) W ∧ pre.length ≤ most ∧ Below h w W)
    (fun c pre f W => TextsX h most c pre f W ∧ Below h w W)
    (AbP.and (TF.own h (by omega)) (AbP.and (AbP.pure _) (AbP.below (by omega) hw1)))
    (fun c => AbP.and (fun pre f f' A B hs ht hf => by
      obtain ⟨p, x, h1, h2 | h2⟩ := hs
      · exact ⟨p, x, h1, .inl ⟨h2.1, h2.2.1, TF.own h (by omega) p f f' A B h2.2.2 ht hf⟩⟩
      · exact ⟨p, x, h1, .inr h2⟩) (AbP.below (by omega) hw1))
    ⟨⟨c0, c1, c2, ⟨none, 0, 0, c3, OR.none_ _ _ _, fun g hg => by cases hg⟩⟩, by simp, hB0⟩
    (fun x => { tmps := #[.agg #[.slice A nl c, .int .i64 row, .int .i64 col, .bool sn], .int .i64 most, .pointer (some ⟨h, 0, none⟩), .pointer (some ⟨h + 1, 0, none⟩), .pointer (some ⟨h + 1 + 1, 0, none⟩), .pointer (some ⟨h + 1 + 1 + 1, 0, none⟩), .pointer (some ⟨h + 1 + 1 + 1 + 1, 0, none⟩), .func (.func 133) #[] #[.pointer (some ⟨B, 0, none⟩)], .int .i64 x.1, .string ⟨x.2.toArray⟩, .agg #[.slice A nl c, .int .i64 row, .int .i64 col, .bool sn], .func (.func 133) #[] #[.pointer (some ⟨B, 0, none⟩)], .func (.func 133) #[] #[.pointer (some ⟨B, 0, none⟩)], .bool false, .func (.func 133) #[] #[.pointer (some ⟨B, 0, none⟩)], .int .i64 x.1, .string ⟨x.2.toArray⟩, undef, undef, undef, undef, undef, undef, undef, undef, undef, undef, undef, undef, undef], defers := [] }) ?assign ?body ?done ?stop
  case assign =>
    intro l x W K hK
    simp only [encS]
    rw [put_two]
    gi_wp2
    exact hK
  case body =>
    rintro lo pre x f W hf hz ⟨hTB, hpm, hbW⟩ hlen hel
    obtain ⟨A9, n, c9, hb, hr, hm9⟩ := hTB.b3
    have hn : n = pre.length := by rw [hr.len, sv_length, txN_length]
    have hfs : ∀ k, f k → k < W.heap.size := fun k hk => by
      rcases hf k hk with h' | h'
      · rcases h' with h' | h' <;> omega
      · exact h'.2
    have hnf3 : ¬ f (h + 1 + 1 + 1 + 1) := fun hk => by
      rcases hf _ hk with h' | h'
      · rcases h' with h' | h' <;> omega
      · omega
    have hszW : h ≤ W.heap.size := by omega
    have k0 := hTB.b0.cell
    have k1 := hTB.b1.cell
    have k2 := hTB.b2.cell
    have k3 := hb.cell
    have q1 := hTB.b1.frozen
    have q2 := hTB.b2.frozen
    have q3 := hb.frozen
    have HTB := Lib.hid hTB
    have HN := Lib.hid hn
    have hnl : n ≤ 10000 := by omega
    clear hel hTB hn
    by_cases hge : most ≤ n
    · have hge' : (most : Int) ≤ (n : Int) := by omega
      have hpl : pre.length = most := by have := HN.out; omega
      have HPL := Lib.hid hpl
      clear hge hpl
      gi_wp2
      refine ⟨KeepsFrom.refl _ _, ⟨pre, x, rfl, .inl ⟨rfl, HPL.out, HTB.out⟩⟩, hbW⟩
    · have hge' : ¬ (most : Int) ≤ (n : Int) := by omega
      have hpl : pre.length + 1 ≤ most := by have := HN.out; omega
      have HPL := Lib.hid hpl
      clear hge hpl
      by_cases hat : x.1 = n
      · have hatd : ((x.1 : Int) == (n : Int)) = true := by simp [hat]
        obtain ⟨A5, c5', w5, hrun, hO5, hg5, hat5⟩ := run_app Tryd.underlying68 str_info rfl (by omega) (W.alloc (.cells #[.string ⟨x.2.toArray⟩] 9)) 68 h A9 n c9 _ (hr.alloc _) (some ⟨W.heap.size, 0, none⟩) 1 1 [.string ⟨x.2.toArray⟩] (W.heap.size + 1) (Sl.new W #[.string ⟨x.2.toArray⟩] 9) rfl (fun e => by cases e) (by intro u hu; simp at hu; subst hu; rfl) (n + 1) rfl (by omega) (by simp; omega)
        obtain ⟨hH, hRk, hb5, hbe⟩ := HoldP.appended (X := W.alloc (.cells #[.string ⟨x.2.toArray⟩] 9)) (by decide) (by omega) hfs ((Below.refl _ _).alloc (Nat.le_refl _) _) hb hr hm9 hnf3 hO5 hg5 (blk_at hat5) W0.heap.size
        have hc5 := hb5.cell
        have hf5 := hb5.frozen
        have kept5 : ∀ {B : Nat} {t : TypeId} {u : Value}, Boxed W B t u → t ≠ 9 → B ≠ h + 1 + 1 + 1 + 1 → Boxed (w5.setCell ⟨h + 1 + 1 + 1 + 1, 0, none⟩ (.slice A5 (n + 1) c5')) B t u := fun hbx ht hB => by
          have h1 := hbx.alloc (.cells #[.string ⟨x.2.toArray⟩] 9)
          have h2 := h1.not_row ht (hr.alloc _).1
          rw [ownBlock_slice] at h2
          exact (h1.kept hg5 h2).other hB _
        have hTB5 : TF h most f (sv (txN pre) ++ [.string ⟨x.2.toArray⟩]) (w5.setCell ⟨h + 1 + 1 + 1 + 1, 0, none⟩ (.slice A5 (n + 1) c5')) :=
          ⟨kept5 HTB.out.b0 (by decide) (by omega), kept5 HTB.out.b1 (by decide) (by omega), kept5 HTB.out.b2 (by decide) (by omega), hH⟩
        have hbw5 := hbW.trans (hbe hszW)
        have HR := Lib.hid hrun
        have HTB5 := Lib.hid hTB5
        have HRK := Lib.hid hRk
        have HBW5 := Lib.hid hbw5
        have HAT := Lib.hid hat
        clear hrun hH hO5 hg5 hat5 hb5 hr hm9 kept5 hTB5 hbe hRk hbw5 hat
        gi_wp2_with (gi_at_builtin; refine wpListIn_app 68 68 rfl (.tmp 25) (.tmp 27) rfl _ _ _ _ rfl rfl HR.out ?_)
        refine ⟨HRK.out, ?_, by rw [List.length_append]; exact HPL.out, HBW5.out⟩
        rw [txN_snoc, sv_snoc]
        exact HTB5.out
      · have hatd : ((x.1 : Int) == (n : Int)) = false := by simp; omega
        have HAT := Lib.hid hat
        clear hat
        gi_wp2
        refine ⟨((KeepsOthers.setCell _ _ _).trans (KeepsOthers.setCell _ _ _)).from _, ⟨pre, x, rfl, .inr (by rw [← HN.out]; exact HAT.out)⟩, (hbW.setCell (p := ⟨h + 1 + 1, 0, none⟩) (by show h ≤ h + 1 + 1; omega) _).setCell (p := ⟨h + 1 + 1 + 1, 0, none⟩) (by show h ≤ h + 1 + 1 + 1; omega) _⟩
  case done =>
    rintro D ys f W hD rfl ⟨hTB, hpm, hbW⟩ hK
    rw [lnsS_length] at hpm
    have htk : T.take most = T := List.take_of_length_le hpm
    have HTK := Lib.hid htk
    obtain ⟨A9, n, c9, hb, hr, hm9⟩ := hTB.b3
    rw [txN_lns] at hr
    have hn : n = T.length := by rw [hr.len, sv_length]
    have k3 := hb.cell
    have k1 := hTB.b1.cell
    have k2 := hTB.b2.cell
    have q1 := hTB.b1.frozen
    have q2 := hTB.b2.frozen
    have HR := Lib.hid hr
    have HN := Lib.hid hn
    have n1 : (h + 1 + 1 : Nat) ≠ h + 1 + 1 + 1 := by omega
    clear hr hn htk hpm
    go_wp2
    obtain ⟨hres, hK', hO⟩ := texts_end hTB hK HR.out
    refine ⟨by simp, .inl ⟨_, _, rfl, run_takeDeferred hK', ?_⟩⟩
    refine ⟨.tuple #[.slice A9 n c9, .bool true], ?_, A9, c9, ?_, ?_, ?_⟩
    · simp [results, Tryd.f37, go_sem, hres.1, hres.2]
    · rw [HTK.out, HN.out]
    · rw [HTK.out, ← HN.out, ← HH.out]; exact hO
    · have hq := HH.out
      rw [← HH.out]
      exact ((hbW.setCell (p := ⟨h + 1 + 1, 0, none⟩) (by show h ≤ h + 1 + 1; omega) _).setCell (p := ⟨h + 1 + 1 + 1, 0, none⟩) (by show h ≤ h + 1 + 1 + 1; omega) _).trans (belowK_b (w := w) hw1 _ D _ _ (by omega) hK' rfl rfl)
  case stop =>
    rintro D c9 pre f W hD hpre ⟨⟨p, x, hp, h1 | h1⟩, hbW⟩ hK
    · obtain ⟨rfl, hpl, hTB⟩ := h1
      rw [hp] at hpre
      have hpt : txN p = T.take most := by
        obtain ⟨t, ht⟩ := hpre
        have := congrArg (fun l => (txN l).take most) ht
        simp only [txN_lns] at this
        have e2 : txN (p ++ [x] ++ t) = txN p ++ txN ([x] ++ t) := by simp [txN]
        rw [← this, e2, List.take_left' (by rw [txN_length]; exact hpl)]
      rw [hpt] at hTB
      obtain ⟨A9, n, c9, hb, hr, hm9⟩ := hTB.b3
      have hn : n = (T.take most).length := by rw [hr.len, sv_length]
      have k3 := hb.cell
      have k1 := hTB.b1.cell
      have k2 := hTB.b2.cell
      have q1 := hTB.b1.frozen
      have q2 := hTB.b2.frozen
      have HR := Lib.hid hr
      have HN := Lib.hid hn
      have n1 : (h + 1 + 1 : Nat) ≠ h + 1 + 1 + 1 := by omega
      clear hr hn hpre hpl hpt hp
      gi_wp2
      go_wp2
      obtain ⟨hres, hK', hO⟩ := texts_end hTB hK HR.out
      refine ⟨by simp, .inl ⟨_, _, rfl, run_takeDeferred hK', ?_⟩⟩
      refine ⟨.tuple #[.slice A9 n c9, .bool true], ?_, A9, c9, ?_, ?_, ?_⟩
      · simp [results, Tryd.f37, go_sem, hres.1, hres.2]
      · rw [HN.out]
      · rw [← HN.out, ← HH.out]; exact hO
      · have hq := HH.out
        rw [← HH.out]
        exact ((hbW.setCell (p := ⟨h + 1 + 1, 0, none⟩) (by show h ≤ h + 1 + 1; omega) _).setCell (p := ⟨h + 1 + 1 + 1, 0, none⟩) (by show h ≤ h + 1 + 1 + 1; omega) _).trans (belowK_b (w := w) hw1 _ D _ _ (by omega) hK' rfl rfl)
    · rw [hp] at hpre
      exact absurd (lns_at hpre) h1
end Go.Proofs.YtaijiapolippaaaDoor
