/-
  Walk: Older of a history.
-/
import Derived.Test.YtfjiogockpmogaaDoorHsAdd
import Derived.RegionTactic
import Derived.BigRegion
import Derived.Laws.EntriesVeiled
namespace Go.Proofs.YtfjiogockpmogaaDoor
open Go.RowKit Go.Shelf Go.Sort
attribute [local go_sem] Oper.semAt_some
set_option linter.unusedVariables false
set_option linter.unusedSimpArgs false

/-- the next line of a walk, from a place on -/
def nextW (d b : List UInt8) (L : List (List UInt8)) (a : Nat) : Option (Nat × List UInt8) := ((hats L).drop a).find? (fun x => hasW d b x.2)
theorem find_here {α : Type} {P : α → Bool} {pre T : List α} {x : α} (h : ∀ y ∈ pre, P y = false) (hx : P x = true) (hp : pre ++ [x] <+: T) : T.find? P = some x := by
  obtain ⟨t, rfl⟩ := hp
  rw [List.append_assoc, List.find?_append, List.find?_eq_none.2 (fun y hy => by simp [h y hy])]
  simp [hx]
theorem find_nowhere {α : Type} {P : α → Bool} {T : List α} (h : ∀ y ∈ T, P y = false) : T.find? P = none := List.find?_eq_none.2 (fun y hy => by simp [h y hy])

/-- a way on that bears no panic -/
def NoPanicH (Q : Exit → Act → World → Prop) : Exit → Act → World → Prop
  | .panic _, _, _ => False
  | e, a, w => Q e a w
theorem wp_noPanicH {P : Program} {c : Code} {Q : Exit → Act → World → Prop} {a : Act} {w : World} (h : c.wp P (NoPanicH Q) a w) : c.wp P Q a w :=
  wp_mono h (fun e a w h => by cases e <;> first | exact h | exact h.elim)
def walkOf (K : Option HW) (d b : List UInt8) : List UInt8 × List UInt8 × Nat := match K with | none => (d, b, 0) | some k => (k.d, k.b, k.i + 1)
/-- Where Older stands ahead of its loop. -/
structure OldS (w W : World) (lo h : Nat) (A : Option Addr) (c most : Nat) (L : List (List UInt8)) (K : Option HW) (x8 : Nat) (d b : List UInt8) (xd xb j : Nat) : Prop where
  q : HsAt W lo h A c most L K
  z1 : Boxed W w.heap.size 23 (.pointer (some ⟨h, 0, none⟩))
  z2 : Boxed W (w.heap.size + 1) 9 (.string ⟨#[]⟩)
  z3 : Boxed W (w.heap.size + 1 + 1) 4 (.bool false)
  z8 : Blk W x8 57 [.string ⟨d.toArray⟩, hasF xd xb, .int .i64 j]
  wk : WkB W ⟨d, b, 0, xd, xb⟩
  lx : lo ≤ xd ∧ lo ≤ xb
  b : Below w.heap.size w W
  h8 : w.heap.size + 3 ≤ x8
  hh : h < w.heap.size
  ow : ∀ k, blk A = some k → k < w.heap.size
  nx : ∀ y, (y = xd ∨ y = xb) → y < w.heap.size ∨ x8 < y
theorem OldS.below {w W W' : World} {lo h : Nat} {A : Option Addr} {c most : Nat} {L : List (List UInt8)} {K : Option HW} {x8 : Nat} {d b : List UInt8} {xd xb j : Nat} (s : OldS w W lo h A c most L K x8 d b xd xb j) (hb : Below W.heap.size W W') : OldS w W' lo h A c most L K x8 d b xd xb j :=
  ⟨s.q.below hb, (hb.block _ s.z1.lt).trans s.z1, (hb.block _ s.z2.lt).trans s.z2, (hb.block _ s.z3.lt).trans s.z3, s.z8.below hb s.z8.lt, ⟨(hb.block _ s.wk.bd.lt).trans s.wk.bd, (hb.block _ s.wk.bb.lt).trans s.wk.bb, s.wk.dl, s.wk.bl⟩, s.lx, s.b.trans (hb.mono s.b.size), s.h8, s.hh, s.ow, s.nx⟩
theorem Blk.setO {w : World} {g k : Nat} {t : TypeId} {cs : List Value} (h : Blk w g t cs) (hn : g ≠ k) (j : Nat) (v : Value) : Blk (w.setCell ⟨k, j, none⟩ v) g t cs := h.chg (chg_of_grown (grown_setO w k j v)) hn
theorem Boxed.setO {w : World} {g k : Nat} {t : TypeId} {u : Value} (h : Boxed w g t u) (hn : g ≠ k) (j : Nat) (v : Value) : Boxed (w.setCell ⟨k, j, none⟩ v) g t u := (chg_of_grown (grown_setO w k j v)).heap h hn
/-- the six stores at Older's end -/
def oldW (w W : World) (h x8 : Nat) (d l : List UInt8) (xd xb i : Nat) : World :=
  (((((W.setCell ⟨x8, 2, none⟩ (.int .i64 i)).setCell ⟨h, 3, none⟩ (.string ⟨d.toArray⟩)).setCell ⟨h, 4, none⟩ (hasF xd xb)).setCell ⟨h, 5, none⟩ (.int .i64 i)).setCell ⟨w.heap.size + 1, 0, none⟩ (.string ⟨l.toArray⟩)).setCell ⟨w.heap.size + 1 + 1, 0, none⟩ (.bool true)
def oldB (w : World) (h x8 : Nat) (k : Nat) : Prop := k = h ∨ k = x8 ∨ k = w.heap.size + 1 ∨ k = w.heap.size + 1 + 1
theorem old_chg (w W : World) (h x8 : Nat) (d l : List UInt8) (xd xb i : Nat) : Chg (oldB w h x8) W (oldW w W h x8 d l xd xb i) :=
  ((((((Chg.refl (oldB w h x8) W).setCell (p := ⟨x8, 2, none⟩) (.inl (.inr (.inl rfl))) _).setCell (p := ⟨h, 3, none⟩) (.inl (.inl rfl)) _).setCell (p := ⟨h, 4, none⟩) (.inl (.inl rfl)) _).setCell (p := ⟨h, 5, none⟩) (.inl (.inl rfl)) _).setCell (p := ⟨w.heap.size + 1, 0, none⟩) (.inl (.inr (.inr (.inl rfl)))) _).setCell (p := ⟨w.heap.size + 1 + 1, 0, none⟩) (.inl (.inr (.inr (.inr rfl)))) _
theorem old_keeps (w W : World) (h x8 : Nat) (d l : List UInt8) (xd xb i : Nat) (B : Nat) : KeepsFrom B W (oldW w W h x8 d l xd xb i) :=
  (((((KeepsOthers.setCell W ⟨x8, 2, none⟩ (.int .i64 i)).trans (KeepsOthers.setCell _ ⟨h, 3, none⟩ _)).trans (KeepsOthers.setCell _ ⟨h, 4, none⟩ _)).trans (KeepsOthers.setCell _ ⟨h, 5, none⟩ _)).trans (KeepsOthers.setCell _ ⟨w.heap.size + 1, 0, none⟩ _)).trans (KeepsOthers.setCell _ ⟨w.heap.size + 1 + 1, 0, none⟩ _) |>.from B
theorem old_fin {w W : World} {lo h : Nat} {A : Option Addr} {c most : Nat} {L : List (List UInt8)} {K : Option HW} {x8 : Nat} {d b : List UInt8} {xd xb j : Nat} (s : OldS w W lo h A c most L K x8 d b xd xb j) (i : Nat) (hi : i < L.length) (l : List UInt8) :
    HsAt (oldW w W h x8 d l xd xb i) lo h A c most L (some ⟨d, b, i, xd, xb⟩) ∧ Boxed (oldW w W h x8 d l xd xb i) (w.heap.size + 1) 9 (.string ⟨l.toArray⟩) ∧ Boxed (oldW w W h x8 d l xd xb i) (w.heap.size + 1 + 1) 4 (.bool true) ∧ Chg (one h) w (oldW w W h x8 d l xd xb i) := by
  have hc := old_chg w W h x8 d l xd xb i
  have h8 := s.h8
  have hh := s.hh
  have hbz := s.b.size
  have hno : ∀ k, (k < w.heap.size ∨ x8 < k) → k ≠ h → ¬ oldB w h x8 k := fun k hk hn hx => by rcases hx with hx | hx | hx | hx <;> omega
  refine ⟨⟨?_, ?_, ?_, s.q.lc, ?_, s.q.le, s.q.m1, s.q.m4, s.q.lo, s.q.ok, s.q.nn⟩, ?_, ?_, ?_⟩
  · have e := (((((s.q.head.setO (k := x8) (by omega) 2 (.int .i64 i)).set_ 3 (.string ⟨d.toArray⟩)).set_ 4 (hasF xd xb)).set_ 5 (.int .i64 i)).setO (k := w.heap.size + 1) (by omega) 0 (.string ⟨l.toArray⟩)).setO (k := w.heap.size + 1 + 1) (by omega) 0 (.bool true)
    cases K <;> exact e
  · exact (hc.sl s.q.row (Nat.le_refl _) (fun g off e => hno g (.inl (s.ow g (by rw [e]; rfl))) (s.q.rne g (by rw [e]; rfl)).2.1)).more hc.size
  · exact fun g hg => ⟨(s.q.rne g hg).1, (s.q.rne g hg).2.1, Nat.lt_of_lt_of_le (s.q.rne g hg).2.2 hc.size⟩
  · intro k hk
    cases hk
    have hnh : xd ≠ h ∧ xb ≠ h := ⟨fun e => by
      have h1 := s.wk.bd
      simp only [e] at h1
      exact absurd rfl (Blk.ne_ (cs := [.string ⟨d.toArray⟩]) h1 s.q.head (by decide)), fun e => by
      have h1 := s.wk.bb
      simp only [e] at h1
      exact absurd rfl (Blk.ne_ (cs := [.string ⟨b.toArray⟩]) h1 s.q.head (by decide))⟩
    exact ⟨⟨hc.heap s.wk.bd (hno _ (s.nx _ (.inl rfl)) hnh.1), hc.heap s.wk.bb (hno _ (s.nx _ (.inr rfl)) hnh.2), s.wk.dl, s.wk.bl⟩, s.lx.1, s.lx.2, hi⟩
  · exact Boxed.setO (Boxed.set _ (Boxed.setO (Boxed.setO (Boxed.setO (Boxed.setO s.z2 (k := x8) (by omega) 2 _) (k := h) (by omega) 3 _) (k := h) (by omega) 4 _) (k := h) (by omega) 5 _)) (k := w.heap.size + 1 + 1) (by omega) 0 _
  · exact Boxed.set _ (Boxed.setO (Boxed.setO (Boxed.setO (Boxed.setO (Boxed.setO s.z3 (k := x8) (by omega) 2 _) (k := h) (by omega) 3 _) (k := h) (by omega) 4 _) (k := h) (by omega) 5 _) (k := w.heap.size + 1) (by omega) 0 _)
  · exact (Chg.of_below (S := one h) s.b).trans hc (fun k hk => by rcases hk with rfl | rfl | rfl | rfl <;> first | exact .inl rfl | exact .inr (by omega))
theorem old_end {w W : World} {lo h : Nat} {A : Option Addr} {c most : Nat} {L : List (List UInt8)} {K : Option HW} {D : Nat} {u v : Value} (q : HsAt W lo h A c most L K) (hK : W.heap[D]? = some (.deferred (some []))) (z2 : Boxed W (w.heap.size + 1) 9 u) (z3 : Boxed W (w.heap.size + 1 + 1) 4 v) (hc : Chg (one h) w W) (hD : w.heap.size ≤ D) :
    HsAt (W.putObj D (.deferred none)) lo h A c most L K ∧ (W.putObj D (.deferred none)).cell? ⟨w.heap.size + 1, 0, none⟩ = some u ∧ (W.putObj D (.deferred none)).cell? ⟨w.heap.size + 1 + 1, 0, none⟩ = some v ∧ Chg (one h) w (W.putObj D (.deferred none)) := by
  have hne : ∀ (k : Nat) (o : Obj), W.heap[k]? = some o → o.isCells = true → k ≠ D := fun k o ho hc e => by
    subst e; rw [hK] at ho; cases ho; cases hc
  have hz : ∀ (k : Nat) (o : Obj), W.heap[k]? = some o → o.isCells = true → (W.putObj D (.deferred none)).heap[k]? = W.heap[k]? := fun k o ho hc => World.putObj_heap_other (hne k o ho hc)
  have ck : ∀ p u, W.cell? p = some u → (W.putObj D (.deferred none)).cell? p = some u := fun p u hp => cell_kept hp (grownBy_putObj' _ D (.deferred none)) (fun r e => by cases e; exact ⟨_, hK, rfl⟩)
  refine ⟨⟨(hz _ _ q.head rfl).trans q.head, ?_, fun g hg => by have := q.rne g hg; simpa using this, q.lc, fun k hk => ?_, q.le, q.m1, q.m4, q.lo, q.ok, q.nn⟩, Boxed.cell (t := 9) ((hz _ _ z2 rfl).trans z2), Boxed.cell (t := 4) ((hz _ _ z3 rfl).trans z3), hc.grown (grownBy_putObj' _ D _) (fun k e => by cases e; exact .inr hD)⟩
  · rcases q.row with h1 | ⟨b, off, hA, hlt, hcell⟩
    · exact .inl h1
    · exact .inr ⟨b, off, hA, by simpa using hlt, fun j u hu => ck _ _ (hcell j u hu)⟩
  · have h1 := q.wk k hk
    exact ⟨⟨(hz _ _ h1.1.bd rfl).trans h1.1.bd, (hz _ _ h1.1.bb rfl).trans h1.1.bb, h1.1.dl, h1.1.bl⟩, h1.2⟩
/-- where a walk's boxes lie: where they lay, or they are new -/
def OldN (w : World) (K : Option HW) (xd xb : Nat) : Prop := (∀ k, K = some k → xd = k.xd ∧ xb = k.xb) ∧ (K = none → w.heap.size ≤ xd ∧ w.heap.size ≤ xb)
/-- What Older comes to. -/
def OldP (w : World) (lo h : Nat) (A : Option Addr) (c most : Nat) (L : List (List UInt8)) (K : Option HW) (d b : List UInt8) (a : Nat) (e : Ending) (w' : World) : Prop :=
  (nextW d b L a = none ∧ e = .returned (.tuple #[.string ⟨#[]⟩, .bool false]) ∧ HsAt w' lo h A c most L K ∧ Chg (one h) w w') ∨
  (∃ i l xd xb, nextW d b L a = some (i, l) ∧ e = .returned (.tuple #[.string ⟨l.toArray⟩, .bool true]) ∧ HsAt w' lo h A c most L (some ⟨d, b, i, xd, xb⟩) ∧ Chg (one h) w w' ∧ OldN w K xd xb)

/-- How Older is left within a round. -/
def OldX (w : World) (lo h : Nat) (A : Option Addr) (c most : Nat) (L : List (List UInt8)) (d b : List UInt8) (xd xb : Nat) (co : Code) (pre : List (Nat × List UInt8)) (f : Nat → Prop) (W : World) : Prop :=
  co = .ret ∧ ∃ p x, pre = p ++ [x] ∧ (∀ y ∈ p, hasW d b y.2 = false) ∧ hasW d b x.2 = true ∧ HsAt W lo h A c most L (some ⟨d, b, x.1, xd, xb⟩) ∧
    Boxed W (w.heap.size + 1) 9 (.string ⟨x.2.toArray⟩) ∧ Boxed W (w.heap.size + 1 + 1) 4 (.bool true) ∧ Chg (one h) w W
theorem Chg.turn {S : Nat → Prop} {w A B : World} {b : Nat} {f : Nat → Prop} (h : Chg S w A) (ht : Turn b f A B) (hb : w.heap.size ≤ b) : Chg S w B :=
  ⟨ht.os.trans h.os, ht.tape.trans h.tape, ht.output.trans h.output, Nat.le_trans h.size ht.size, fun k hk hn => by
    have hlt : k < A.heap.size := Nat.lt_of_lt_of_le hk h.size
    rw [← h.block k hk hn, Array.getElem?_eq_getElem hlt]
    exact ht.block k _ (Array.getElem?_eq_getElem hlt) (.inl (by omega))⟩
theorem HsAt.turn {A B : World} {lo h c most : Nat} {Ar : Option Addr} {L : List (List UInt8)} {K : Option HW} {b : Nat} {f : Nat → Prop} (q : HsAt A lo h Ar c most L K) (ht : Turn b f A B) (hO : ∀ k, HsAt.Own h Ar K k → k < b) : HsAt B lo h Ar c most L K :=
  q.same ht.size (fun k hk => by
    have hlt := (q.own_lt k hk).2
    rw [Array.getElem?_eq_getElem hlt]
    exact ht.block k _ (Array.getElem?_eq_getElem hlt) (.inl (hO k hk)))
theorem OldX.ab {w : World} {lo h : Nat} {A : Option Addr} {c most : Nat} {L : List (List UInt8)} {d b : List UInt8} {xd xb b₀ : Nat} (h0 : w.heap.size ≤ b₀) (h1 : w.heap.size + 1 < b₀) (h2 : w.heap.size + 1 + 1 < b₀) (hO : ∀ i k, HsAt.Own h A (some ⟨d, b, i, xd, xb⟩) k → k < b₀) (co : Code) :
    AbP b₀ (OldX w lo h A c most L d b xd xb co) := fun pre f f' X Y q ht hf => by
  obtain ⟨hc, p, x, e1, e2, e3, e4, e5, e6, e7⟩ := q
  exact ⟨hc, p, x, e1, e2, e3, e4.turn ht (hO _), ht.block _ _ e5 (.inl h1), ht.block _ _ e6 (.inl h2), e7.turn ht h0⟩

set_option maxRecDepth 100000 in
set_option maxHeartbeats 8000000 in
theorem holder_any {w : World} {lo h c most : Nat} {A : Option Addr} {L : List (List UInt8)} {K : Option HW} (q : HsAt w lo h A c most L K) (d b : List UInt8) (hd : d.length ≤ 1000000) (hb : b.length ≤ 1000000) (hlw : lo ≤ w.heap.size) :
    Calls Tryd.prog 24 #[.pointer (some ⟨h, 0, none⟩), .string ⟨d.toArray⟩, .string ⟨b.toArray⟩] w (OldP w lo h A c most L K (walkOf K d b).1 (walkOf K d b).2.1 (walkOf K d b).2.2) := by
  have b1 : Below w.heap.size w (((w.alloc (.cells #[.pointer (some ⟨h, 0, none⟩)] 23)).alloc (.cells #[.string ⟨#[]⟩] 9)).alloc (.cells #[.bool false] 4)) := (((Below.refl _ w).alloc (Nat.le_refl _) _).alloc (by simp) _).alloc (by simp; omega) _
  have z1 := ((Boxed.new w 23 (.pointer (some ⟨h, 0, none⟩))).alloc (.cells #[.string ⟨#[]⟩] 9)).alloc (.cells #[.bool false] 4)
  have z2 := (Boxed.new (w.alloc (.cells #[.pointer (some ⟨h, 0, none⟩)] 23)) 9 (.string ⟨#[]⟩)).alloc (.cells #[.bool false] 4)
  have z3 := Boxed.new ((w.alloc (.cells #[.pointer (some ⟨h, 0, none⟩)] 23)).alloc (.cells #[.string ⟨#[]⟩] 9)) 4 (.bool false)
  have hsz : (((w.alloc (.cells #[.pointer (some ⟨h, 0, none⟩)] 23)).alloc (.cells #[.string ⟨#[]⟩] 9)).alloc (.cells #[.bool false] 4)).heap.size = w.heap.size + 3 := by simp
  simp only [World.size_alloc] at z2 z3
  have q1 := q.below b1
  have c0 := q1.c0
  have hh := q.head.lt
  have how : ∀ k, blk A = some k → k < w.heap.size := fun k hk => (q.rne k hk).2.2
  have hwx : ∀ k, K = some k → k.xd < w.heap.size ∧ k.xb < w.heap.size := fun k hk => ⟨(q.wk k hk).1.bd.lt, (q.wk k hk).1.bb.lt⟩
  have HOK0 : Hid (∀ k, HsAt.Own h A K k → k < w.heap.size) := Lib.hid (fun k hk => (q.own_lt k hk).2)
  have HOWW := Lib.hid how
  have HWX := Lib.hid hwx
  clear how hwx
  have hl4 := q.len4
  clear q
  refine (callsIn_wide (n := 9)).1 ?_
  refine callsIn_of_wp_marks Tryd.func24 rfl trivial ?_ rfl
  simp only [Tryd.ntmps24, List.size_toArray, List.length_cons, List.length_nil, Nat.reduceAdd, Nat.reduceSub, Array.replicate_succ, Array.replicate_zero, List.push_toArray, List.append_toArray, List.nil_append, List.cons_append]
  refine wpIn_wide.2 ?_
  rcases K with _ | k
  case none =>
    simp only [walkOf]
    go_upto_region 1 with (fail)
    generalize ((w.alloc (.cells #[.pointer (some ⟨h, 0, none⟩)] 23)).alloc (.cells #[.string ⟨#[]⟩] 9)).alloc (.cells #[.bool false] 4) = w1 at *
    have k1 := z1.cell
    have h3 : w1.cell? ⟨h, 3, none⟩ = some (.string ⟨#[]⟩) := q1.head.cell 3
    have h4 : w1.cell? ⟨h, 4, none⟩ = some .nilFunc := q1.head.cell 4
    have h5 : w1.cell? ⟨h, 5, none⟩ = some (.int .i64 0) := q1.head.cell 5
    have hlt := q1.head.lt
    have hlt2 : w.heap.size < w1.heap.size := by omega
    have HSZ := Lib.hid hsz
    clear hsz
    go_wp2_with (go_at_call 35; refine (hmade_yes h _ c0).mono ?_; rintro e w' ⟨rfl, rfl⟩)
    refine wp_noPanicH ?_
    go_region
    simp only [NoPanicH]
    have hn := nil_nil
    have bA : Below w1.heap.size w1 (w1.alloc (.cells #[.string ⟨#[]⟩, .nilFunc, .int .i64 0] 57)).drew := ((Below.refl _ w1).alloc (Nat.le_refl _) _).drew
    have z8 : Blk (w1.alloc (.cells #[.string ⟨#[]⟩, .nilFunc, .int .i64 0] 57)).drew w1.heap.size 57 (wkC none) := Blk.drew (Blk.new w1 57 [.string ⟨#[]⟩, .nilFunc, .int .i64 0])
    generalize (w1.alloc (.cells #[.string ⟨#[]⟩, .nilFunc, .int .i64 0] 57)).drew = w2 at *
    have k8 : w2.cell? ⟨w1.heap.size, 1, none⟩ = some .nilFunc := z8.cell 1
    go_wp2_with (fail)
    refine (hnewwalk_any d b w2).mono ?_
    rintro e w3 ⟨xd, xb, rfl, hxd, hxb, hlx1, hlx2, hb3⟩
    have hw12 : w1.heap.size < w2.heap.size := z8.lt
    have z83 : Blk w3 w1.heap.size 57 (wkC none) := z8.below hb3 z8.lt
    have HZ8 := Lib.hid z83
    have HB13 := Lib.hid (bA.trans (hb3.mono (Nat.le_of_lt hw12)))
    have HXD := Lib.hid hxd
    have HXB := Lib.hid hxb
    have HQ1 := Lib.hid q1
    have HZ1 := Lib.hid z1
    have HZ2 := Lib.hid z2
    have HZ3 := Lib.hid z3
    have HB1 := Lib.hid b1
    clear z8 z83 hxd hxb hb3 bA h3 h4 h5 k8 q1 z1 z2 z3 b1 k1 c0
    unfold hasF
    have hk1 : w3.cell? ⟨w.heap.size, 0, none⟩ = some (.pointer (some ⟨h, 0, none⟩)) := (HB13.out.cell (p := ⟨w.heap.size, 0, none⟩) hlt2).trans (Boxed.cell HZ1.out)
    have hne1 : ¬ one w1.heap.size (⟨w.heap.size, 0, none⟩ : Addr).block := by unfold one; simp; omega
    have HNE1 := Lib.hid hne1
    clear hne1
    go_wp2_with (first
      | ((with_reducible refine at_store 8 ?_); refine wpList_store_blk rfl _ _ _ rfl rfl w1.heap.size 0 _ (wkC none) [.string ⟨d.toArray⟩, hasF xd xb, .int .i64 0] rfl rfl HZ8.out (by simp [wkC]) wk_size (by intro v hv; simp only [List.mem_cons, List.not_mem_nil, or_false] at hv; rcases hv with rfl | rfl | rfl <;> rfl) ?_; intro w9 hn9 hg9; have hk19 := (chg_of_grown hg9).cell hk1 HNE1.out; have HN9 := Lib.hid hn9; have HG9 := Lib.hid hg9; clear hn9 hg9)
      | (go_at_call 37; refine (hfrom_any _ _ _).mono ?_; rintro e w' ⟨rfl, rfl⟩))
    have hch9 := chg_of_grown HG9.out
    obtain ⟨x8, hx8⟩ : ∃ x8, x8 = w1.heap.size := ⟨_, rfl⟩
    have hb19 : Below w1.heap.size w1 w9 := HB13.out.trans (hch9.below HB13.out.size (fun j hj => by unfold one at hj; omega))
    have hS : OldS w w9 lo h A c most L none x8 d b xd xb 0 := by
      have e := HSZ.out
      rw [hx8]
      refine ⟨HQ1.out.below hb19, ?_, ?_, ?_, HN9.out, ⟨hch9.heap HXD.out ?_, hch9.heap HXB.out ?_, by show d.length ≤ 2000000; omega, by show b.length ≤ 2000000; omega⟩, ⟨by omega, by omega⟩, HB1.out.trans (hb19.mono (by omega)), by omega, hh, HOWW.out, fun y hy => by rcases hy with rfl | rfl <;> right <;> omega⟩
      · exact (hb19.block _ (by omega)).trans HZ1.out
      · exact (hb19.block _ (by omega)).trans HZ2.out
      · exact (hb19.block _ (by omega)).trans HZ3.out
      · show ¬ (xd = w1.heap.size); omega
      · show ¬ (xb = w1.heap.size); omega
    obtain ⟨B0, hB0⟩ : ∃ B0, B0 = w9.heap.size := ⟨_, rfl⟩
    obtain ⟨X1, hX1⟩ : ∃ X1, X1 = (w9.alloc (.cells #[.pointer (some ⟨h, 0, none⟩)] 23)).alloc (.cells #[.int .i64 0] 3) := ⟨_, rfl⟩
    have hSX : OldS w X1 lo h A c most L none x8 d b xd xb 0 := by rw [hX1]; exact hS.below (((Below.refl _ _).alloc (Nat.le_refl _) _).alloc (by simp) _)
    have y0 : Boxed X1 B0 23 (.pointer (some ⟨h, 0, none⟩)) := by rw [hX1, hB0]; exact (Boxed.new _ _ _).alloc _
    have y1 : Boxed X1 (B0 + 1) 3 (.int .i64 0) := by
      have := Boxed.new (w9.alloc (.cells #[.pointer (some ⟨h, 0, none⟩)] 23)) 3 (.int .i64 0)
      rw [hX1, hB0]; simpa using this
    have hXB : X1.heap.size = B0 + 2 := by rw [hX1, hB0]; simp
    have hown0 : ∀ k, HsAt.Own h A none k → k < B0 := fun k hk => by rw [hB0]; exact (hS.q.own_lt k hk).2
    have hx8B : x8 < B0 := by rw [hB0]; exact hS.z8.lt
    have hwkB : xd < B0 ∧ xb < B0 := by rw [hB0]; exact ⟨hS.wk.bd.lt, hS.wk.bb.lt⟩
    rw [← hX1, ← hB0, ← hx8]
    obtain ⟨a, ha⟩ : ∃ a : Nat, a = 0 := ⟨_, rfl⟩
    obtain ⟨d', hd'⟩ : ∃ d', d' = d := ⟨_, rfl⟩
    obtain ⟨b', hb'⟩ : ∃ b', b' = b := ⟨_, rfl⟩
    obtain ⟨K, hK⟩ : ∃ K : Option HW, K = none := ⟨_, rfl⟩
    obtain ⟨j, hj⟩ : ∃ j : Nat, j = 0 := ⟨_, rfl⟩
    have HEQ : Hid (a = 0 ∧ d' = d ∧ b' = b ∧ K = none) := Lib.hid ⟨ha, hd', hb', hK⟩
    have HSX : Hid (OldS w X1 lo h A c most L K x8 d' b' xd xb j) := Lib.hid (by rw [hd', hb', hK, hj]; exact hSX)
    have HY0 := Lib.hid y0
    have HY1 : Hid (Boxed X1 (B0 + 1) 3 (.int .i64 (a : Int))) := Lib.hid (by rw [ha]; exact y1)
    have HOW : Hid (∀ k, HsAt.Own h A K k → k < B0) := Lib.hid (by rw [hK]; exact hown0)
    have HOK : Hid (∀ k, HsAt.Own h A K k → k < w.heap.size) := Lib.hid (by rw [hK]; exact HOK0.out)
    have HFR : Hid (OldN w K xd xb) := Lib.hid (by rw [hK]; exact ⟨(fun k hk => by cases hk), fun _ => ⟨by have := HSZ.out; omega, by have := HSZ.out; omega⟩⟩)
    have HXZ := Lib.hid hXB
    have HWB := Lib.hid hwkB
    have ha5 : a ≤ 1000 := by rw [ha]; omega
    clear ha hd' hb' hK hj hSX y0 y1 hXB hown0 hwkB hX1 hB0 hS hk19 HG9 hch9 hx8 hb19 hlt hlt2 HSZ hn hlx1 hlx2 hw12 HZ8 HB13 HXD HXB HQ1 HZ1 HZ2 HZ3 HB1 hk1 HNE1 HN9 w1 w2 w3 w9
    refine (wpIn_wide (n := 9)).1 ?_
    refine range_priv rfl (by omega) (gf := 54) (lb := #[.pointer (some ⟨B0, 0, none⟩), .pointer (some ⟨B0 + 1, 0, none⟩)]) rfl trivial (enters_of Tryd.func54 (by kernel_rfl) rfl)
      (hfrom_stops HSX.out.q B0 (B0 + 1) a (by omega) HY0.out HY1.out (fun k => HsAt.Own h A K k ∨ k = B0 ∨ k = B0 + 1) (.inr (.inl rfl)) (.inr (.inr rfl)) (fun k hk => .inl hk) 6)
      (Nat.le_refl _) (fun k hk => ⟨by
        have e := HXZ.out
        rcases hk with hk | hk | hk
        · have := HOW.out k hk; omega
        · omega
        · omega, rfl⟩) (fun _ => rfl)
      (fun pre f W => (∀ y ∈ pre, hasW d' b' y.2 = false) ∧ Below X1.heap.size X1 W)
      (OldX w lo h A c most L d' b' xd xb)
      (AbP.and (AbP.pure _) (AbP.below (Nat.le_refl _) (Nat.le_refl _)))
      (OldX.ab (by have := HSX.out.b.size; omega) (by have := HSX.out.z2.lt; omega) (by have := HSX.out.z3.lt; omega) (fun i k hk => by
        have e := HXZ.out
        have e2 := HWB.out
        have e3 := HSX.out.hh
        have e4 := HSX.out.b.size
        rcases hk with rfl | hk | ⟨p, hp, hk⟩
        · omega
        · have := HOW.out k (.inr (.inl hk)); omega
        · cases hp; rcases hk with rfl | rfl <;> omega))
      ⟨by simp, Below.refl _ _⟩
      ?a1N ?assignN ?bodyN ?doneN ?stopN
    case assignN =>
      intro l x W K hK
      simp only [encH]
      rw [put_two]
      gi_wp2
      exact hK
    case bodyN =>
      rintro lo' pre x f W hff hz ⟨hno, hbW⟩ hlen hel
      have hS := HSX.out.below hbW
      have k8 : W.cell? ⟨x8, 1, none⟩ = some (.func (.func 63) #[] #[.pointer (some ⟨xd, 0, none⟩), .pointer (some ⟨xb, 0, none⟩)]) := hS.z8.cell 1
      have hx2 : x.2.length ≤ 3000 := (hS.q.ok x.2 (List.mem_iff_getElem?.2 ⟨_, hel⟩)).2
      have hxl : x.1 < L.length := (List.getElem?_eq_some_iff.1 hel).1
      have HAS := Lib.hid (has_any d' b' x.2 hS.wk.dl hS.wk.bl (by omega) xd xb W hS.wk.bd.cell hS.wk.bb.cell)
      have HNO := Lib.hid hno
      have HBW := Lib.hid hbW
      have HS := Lib.hid hS
      by_cases hv : hasW d' b' x.2 = true
      · rw [hv] at HAS
        have HV := Lib.hid hv
        have k1 := hS.z1.cell
        have r1 := hS.z2.cell
        have fr1 := hS.z2.frozen
        have r2 := hS.z3.cell
        have fr2 := hS.z3.frozen
        have k80 : W.cell? ⟨x8, 0, none⟩ = some (.string ⟨d'.toArray⟩) := hS.z8.cell 0
        have k82 : W.cell? ⟨x8, 2, none⟩ = some (.int .i64 j) := hS.z8.cell 2
        have f82 := hS.z8.frozen 2
        obtain ⟨v3, v4, v5, hwc⟩ : ∃ v3 v4 v5, wkC K = [v3, v4, v5] := by cases K <;> exact ⟨_, _, _, rfl⟩
        have hhd := hS.q.head
        rw [hwc] at hhd
        have h3 : W.cell? ⟨h, 3, none⟩ = some v3 := hhd.cell 3
        have h4 : W.cell? ⟨h, 4, none⟩ = some v4 := hhd.cell 4
        have h5 : W.cell? ⟨h, 5, none⟩ = some v5 := hhd.cell 5
        have f3 := hhd.frozen 3
        have f4 := hhd.frozen 4
        have f5 := hhd.frozen 5
        have h8 := hS.h8
        have hn1 : h < x8 := by omega
        have hn2 : w.heap.size < x8 := by omega
        have hn3 : w.heap.size + 1 < x8 := by omega
        have hn4 : w.heap.size + 1 + 1 < x8 := by omega
        have hn5 : h < w.heap.size + 1 := by omega
        have hn6 : h < w.heap.size + 1 + 1 := by omega
        clear hno hbW hS hv hwc hhd hel hlen hff
        gi_wp2_with (fail)
        refine ⟨trivial, ?_⟩
        refine (CallsIn.inRound lo' (callsIn_wide.2 HAS.out)).mono ?_
        rintro e w' ⟨rfl, rfl⟩
        gi_wp2
        have hf := old_fin HS.out x.1 hxl x.2
        exact ⟨old_keeps _ _ _ _ _ _ _ _ _ _, rfl, pre, x, rfl, HNO.out, HV.out, hf.1, hf.2.1, hf.2.2.1, hf.2.2.2⟩
      · have hv' : hasW d' b' x.2 = false := by simpa using hv
        rw [hv'] at HAS
        have HV := Lib.hid hv'
        clear hno hbW hS hv hv' hel hlen hff
        gi_wp2_with (fail)
        refine ⟨trivial, ?_⟩
        refine (CallsIn.inRound lo' (callsIn_wide.2 HAS.out)).mono ?_
        rintro e w' ⟨rfl, rfl⟩
        gi_wp2
        exact ⟨Rk.refl _ _ _, (fun y hy => by
          rcases List.mem_append.1 hy with hy | hy
          · exact HNO.out y hy
          · simp only [List.mem_cons, List.not_mem_nil, or_false] at hy
            rw [hy]; exact HV.out), HBW.out⟩
    case doneN =>
      rintro D ys f W hD hys ⟨hno, hbW⟩ hK
      have hS := HSX.out.below hbW
      have hnone : nextW d' b' L a = none := by
        unfold nextW
        rw [← hys]
        exact find_nowhere hno
      have k1 := hS.z2.cell
      have k2 := hS.z3.cell
      have f1 := hS.z2.frozen
      have f2 := hS.z3.frozen
      have HS := Lib.hid hS
      have HN := Lib.hid hnone
      clear hno hbW hS hnone hys
      go_wp2
      have hK' := ((KeepsOthers.setCell W ⟨w.heap.size + 1, 0, none⟩ (.string ⟨#[]⟩)).trans (KeepsOthers.setCell _ ⟨w.heap.size + 1 + 1, 0, none⟩ (.bool false))).same D _ hK rfl
      refine ⟨by simp, .inl ⟨_, _, rfl, run_takeDeferred hK', ?_⟩⟩
      have z2 := Boxed.setO (Boxed.set (.string ⟨#[]⟩) HS.out.z2) (k := w.heap.size + 1 + 1) (by omega) 0 (.bool false)
      have z3 := Boxed.set (.bool false) (Boxed.setO HS.out.z3 (k := w.heap.size + 1) (by omega) 0 (.string ⟨#[]⟩))
      have hchg : Chg (fun k => k = w.heap.size + 1 ∨ k = w.heap.size + 1 + 1) W ((W.setCell ⟨w.heap.size + 1, 0, none⟩ (.string ⟨#[]⟩)).setCell ⟨w.heap.size + 1 + 1, 0, none⟩ (.bool false)) := ((Chg.refl _ W).setCell (p := ⟨w.heap.size + 1, 0, none⟩) (.inl (.inl rfl)) _).setCell (p := ⟨w.heap.size + 1 + 1, 0, none⟩) (.inl (.inr rfl)) _
      generalize (W.setCell ⟨w.heap.size + 1, 0, none⟩ (.string ⟨#[]⟩)).setCell ⟨w.heap.size + 1 + 1, 0, none⟩ (.bool false) = W9 at *
      have hq9 : HsAt W9 lo h A c most L K := HS.out.q.keep hchg (fun k hk => by have := HOK.out k hk; omega)
      have hch : Chg (one h) w W9 := (Chg.of_below (S := one h) HS.out.b).trans hchg (fun k hk => .inr (by omega))
      have hend := old_end hq9 hK' z2 z3 hch (by have := HSX.out.b.size; omega)
      have c2 := hend.2.1
      have c3 := hend.2.2.1
      have hP : OldP w lo h A c most L K d' b' a (.returned (.tuple #[.string ⟨#[]⟩, .bool false])) (W9.putObj D (.deferred none)) := .inl ⟨HN.out, rfl, hend.1, hend.2.2.2⟩
      have HP := Lib.hid hP
      clear hP hend
      refine ⟨.tuple #[.string ⟨#[]⟩, .bool false], by simp [results, Tryd.f24, go_sem, c2, c3], ?_⟩
      have hfin := HP.out
      obtain ⟨rfl, rfl, rfl, rfl⟩ := HEQ.out
      exact hfin
    case stopN =>
      rintro D co pre f W hD hpre ⟨rfl, p, x, hp, hno, hv, hq, z2, z3, hch⟩ hK
      rw [hp] at hpre
      have hsome : nextW d' b' L a = some (x.1, x.2) := find_here hno hv hpre
      have hend := old_end hq hK z2 z3 hch (by have := HSX.out.b.size; omega)
      have c2 := hend.2.1
      have c3 := hend.2.2.1
      have hP : OldP w lo h A c most L K d' b' a (.returned (.tuple #[.string ⟨x.2.toArray⟩, .bool true])) (W.putObj D (.deferred none)) := .inr ⟨x.1, x.2, xd, xb, hsome, rfl, hend.1, hend.2.2.2, HFR.out⟩
      have HP := Lib.hid hP
      clear hP hend hsome hpre hp hno hv hq z2 z3 hch
      gi_wp2
      refine ⟨by simp, .inl ⟨_, _, rfl, run_takeDeferred hK, ?_⟩⟩
      refine ⟨.tuple #[.string ⟨x.2.toArray⟩, .bool true], by simp [results, Tryd.f24, go_sem, c2, c3], ?_⟩
      have hfin := HP.out
      obtain ⟨rfl, rfl, rfl, rfl⟩ := HEQ.out
      exact hfin
  case some =>
    simp only [walkOf]
    go_upto_region 1 with (fail)
    generalize ((w.alloc (.cells #[.pointer (some ⟨h, 0, none⟩)] 23)).alloc (.cells #[.string ⟨#[]⟩] 9)).alloc (.cells #[.bool false] 4) = w1 at *
    have k1 := z1.cell
    obtain ⟨kd, kb, ki, kx, ky⟩ := k
    have h3 : w1.cell? ⟨h, 3, none⟩ = some (.string ⟨kd.toArray⟩) := q1.head.cell 3
    have h4 : w1.cell? ⟨h, 4, none⟩ = some (hasF kx ky) := q1.head.cell 4
    have h5 : w1.cell? ⟨h, 5, none⟩ = some (.int .i64 ki) := q1.head.cell 5
    have hki : ki < L.length := (q1.wk _ rfl).2.2.2
    have hki4 : (ki : Int) < 256 := by omega
    unfold hasF at h4
    have hlt := q1.head.lt
    have hlt2 : w.heap.size < w1.heap.size := by omega
    have HSZ := Lib.hid hsz
    clear hsz
    go_wp2_with (go_at_call 35; refine (hmade_yes h _ c0).mono ?_; rintro e w' ⟨rfl, rfl⟩)
    refine wp_noPanicH ?_
    go_region
    simp only [NoPanicH]
    have hn := fn_nil kx ky
    have bA : Below w1.heap.size w1 (w1.alloc (.cells #[.string ⟨kd.toArray⟩, hasF kx ky, .int .i64 ki] 57)).drew := ((Below.refl _ w1).alloc (Nat.le_refl _) _).drew
    have z8 : Blk (w1.alloc (.cells #[.string ⟨kd.toArray⟩, hasF kx ky, .int .i64 ki] 57)).drew w1.heap.size 57 [.string ⟨kd.toArray⟩, hasF kx ky, .int .i64 ki] := Blk.drew (Blk.new w1 57 [.string ⟨kd.toArray⟩, hasF kx ky, .int .i64 ki])
    unfold hasF at bA z8 hn
    generalize (w1.alloc (.cells #[.string ⟨kd.toArray⟩, .func (.func 63) #[] #[.pointer (some ⟨kx, 0, none⟩), .pointer (some ⟨ky, 0, none⟩)], .int .i64 ki] 57)).drew = w2 at *
    have k8 : w2.cell? ⟨w1.heap.size, 1, none⟩ = some (.func (.func 63) #[] #[.pointer (some ⟨kx, 0, none⟩), .pointer (some ⟨ky, 0, none⟩)]) := z8.cell 1
    have hk1 : w2.cell? ⟨w.heap.size, 0, none⟩ = some (.pointer (some ⟨h, 0, none⟩)) := (bA.cell (p := ⟨w.heap.size, 0, none⟩) hlt2).trans z1.cell
    have HQ1 := Lib.hid q1
    have HZ1 := Lib.hid z1
    have HZ2 := Lib.hid z2
    have HZ3 := Lib.hid z3
    have HB1 := Lib.hid b1
    have HBA := Lib.hid bA
    have HZ8 := Lib.hid z8
    clear z8 bA h3 h4 h5 q1 z1 z2 z3 b1 k1 c0
    go_wp2_with (go_at_call 37; refine (hfrom_any _ _ _).mono ?_; rintro e w' ⟨rfl, rfl⟩)
    obtain ⟨x8, hx8⟩ : ∃ x8, x8 = w1.heap.size := ⟨_, rfl⟩
    have hS : OldS w w2 lo h A c most L (some ⟨kd, kb, ki, kx, ky⟩) x8 kd kb kx ky ki := by
      have e := HSZ.out
      have hq2 := HQ1.out.below HBA.out
      have hw := hq2.wk _ rfl
      rw [hx8]
      refine ⟨hq2, ?_, ?_, ?_, HZ8.out, ⟨hw.1.bd, hw.1.bb, hw.1.dl, hw.1.bl⟩, ⟨hw.2.1, hw.2.2.1⟩, HB1.out.trans (HBA.out.mono (by omega)), by omega, hh, HOWW.out, fun y hy => hy.elim (fun e => .inl (by rw [e]; exact (HWX.out _ rfl).1)) (fun e => .inl (by rw [e]; exact (HWX.out _ rfl).2))⟩
      · exact (HBA.out.block _ (by omega)).trans HZ1.out
      · exact (HBA.out.block _ (by omega)).trans HZ2.out
      · exact (HBA.out.block _ (by omega)).trans HZ3.out
    obtain ⟨xd, hxd⟩ : ∃ xd, xd = kx := ⟨_, rfl⟩
    obtain ⟨xb, hxb⟩ : ∃ xb, xb = ky := ⟨_, rfl⟩
    subst hxd hxb
    obtain ⟨B0, hB0⟩ : ∃ B0, B0 = w2.heap.size := ⟨_, rfl⟩
    obtain ⟨X1, hX1⟩ : ∃ X1, X1 = (w2.alloc (.cells #[.pointer (some ⟨h, 0, none⟩)] 23)).alloc (.cells #[.int .i64 (↑ki + 1)] 3) := ⟨_, rfl⟩
    have hSX : OldS w X1 lo h A c most L (some ⟨kd, kb, ki, xd, xb⟩) x8 kd kb xd xb ki := by rw [hX1]; exact hS.below (((Below.refl _ _).alloc (Nat.le_refl _) _).alloc (by simp) _)
    have y0 : Boxed X1 B0 23 (.pointer (some ⟨h, 0, none⟩)) := by rw [hX1, hB0]; exact (Boxed.new _ _ _).alloc _
    have y1 : Boxed X1 (B0 + 1) 3 (.int .i64 (↑ki + 1)) := by
      have := Boxed.new (w2.alloc (.cells #[.pointer (some ⟨h, 0, none⟩)] 23)) 3 (.int .i64 (↑ki + 1))
      rw [hX1, hB0]; simpa using this
    have hXB : X1.heap.size = B0 + 2 := by rw [hX1, hB0]; simp
    have hown0 : ∀ k, HsAt.Own h A (some ⟨kd, kb, ki, xd, xb⟩) k → k < B0 := fun k hk => by rw [hB0]; exact (hS.q.own_lt k hk).2
    have hx8B : x8 < B0 := by rw [hB0]; exact hS.z8.lt
    have hwkB : xd < B0 ∧ xb < B0 := by rw [hB0]; exact ⟨hS.wk.bd.lt, hS.wk.bb.lt⟩
    rw [← hX1, ← hB0, ← hx8]
    obtain ⟨a, ha⟩ : ∃ a : Nat, a = ki + 1 := ⟨_, rfl⟩
    obtain ⟨d', hd'⟩ : ∃ d', d' = kd := ⟨_, rfl⟩
    obtain ⟨b', hb'⟩ : ∃ b', b' = kb := ⟨_, rfl⟩
    obtain ⟨K, hK⟩ : ∃ K : Option HW, K = (some ⟨kd, kb, ki, xd, xb⟩) := ⟨_, rfl⟩
    obtain ⟨j, hj⟩ : ∃ j : Nat, j = ki := ⟨_, rfl⟩
    have HEQ : Hid (a = ki + 1 ∧ d' = kd ∧ b' = kb ∧ K = (some ⟨kd, kb, ki, xd, xb⟩)) := Lib.hid ⟨ha, hd', hb', hK⟩
    have HSX : Hid (OldS w X1 lo h A c most L K x8 d' b' xd xb j) := Lib.hid (by rw [hd', hb', hK, hj]; exact hSX)
    have HY0 := Lib.hid y0
    have HY1 : Hid (Boxed X1 (B0 + 1) 3 (.int .i64 (a : Int))) := Lib.hid (by rw [ha]; exact y1)
    have HOW : Hid (∀ k, HsAt.Own h A K k → k < B0) := Lib.hid (by rw [hK]; exact hown0)
    have HOK : Hid (∀ k, HsAt.Own h A K k → k < w.heap.size) := Lib.hid (by rw [hK]; exact HOK0.out)
    have HFR : Hid (OldN w K xd xb) := Lib.hid (by rw [hK]; exact ⟨(fun k hk => by cases hk; exact ⟨rfl, rfl⟩), (fun e => by cases e)⟩)
    have HXZ := Lib.hid hXB
    have HWB := Lib.hid hwkB
    have ha5 : a ≤ 1000 := by rw [ha]; omega
    clear ha hd' hb' hK hj hSX y0 y1 hXB hown0 hwkB hX1 hB0 hS hlt hlt2 HSZ hn HQ1 HZ1 HZ2 HZ3 HB1 HBA HZ8 k8 hk1 hx8 w1 w2
    refine (wpIn_wide (n := 9)).1 ?_
    refine range_priv rfl (by omega) (gf := 54) (lb := #[.pointer (some ⟨B0, 0, none⟩), .pointer (some ⟨B0 + 1, 0, none⟩)]) rfl trivial (enters_of Tryd.func54 (by kernel_rfl) rfl)
      (hfrom_stops HSX.out.q B0 (B0 + 1) a (by omega) HY0.out HY1.out (fun k => HsAt.Own h A K k ∨ k = B0 ∨ k = B0 + 1) (.inr (.inl rfl)) (.inr (.inr rfl)) (fun k hk => .inl hk) 6)
      (Nat.le_refl _) (fun k hk => ⟨by
        have e := HXZ.out
        rcases hk with hk | hk | hk
        · have := HOW.out k hk; omega
        · omega
        · omega, rfl⟩) (fun _ => rfl)
      (fun pre f W => (∀ y ∈ pre, hasW d' b' y.2 = false) ∧ Below X1.heap.size X1 W)
      (OldX w lo h A c most L d' b' xd xb)
      (AbP.and (AbP.pure _) (AbP.below (Nat.le_refl _) (Nat.le_refl _)))
      (OldX.ab (by have := HSX.out.b.size; omega) (by have := HSX.out.z2.lt; omega) (by have := HSX.out.z3.lt; omega) (fun i k hk => by
        have e := HXZ.out
        have e2 := HWB.out
        have e3 := HSX.out.hh
        have e4 := HSX.out.b.size
        rcases hk with rfl | hk | ⟨p, hp, hk⟩
        · omega
        · have := HOW.out k (.inr (.inl hk)); omega
        · cases hp; rcases hk with rfl | rfl <;> omega))
      ⟨by simp, Below.refl _ _⟩
      ?a1S ?assignS ?bodyS ?doneS ?stopS
    case assignS =>
      intro l x W K hK
      simp only [encH]
      rw [put_two]
      gi_wp2
      exact hK
    case bodyS =>
      rintro lo' pre x f W hff hz ⟨hno, hbW⟩ hlen hel
      have hS := HSX.out.below hbW
      have k8 : W.cell? ⟨x8, 1, none⟩ = some (.func (.func 63) #[] #[.pointer (some ⟨xd, 0, none⟩), .pointer (some ⟨xb, 0, none⟩)]) := hS.z8.cell 1
      have hx2 : x.2.length ≤ 3000 := (hS.q.ok x.2 (List.mem_iff_getElem?.2 ⟨_, hel⟩)).2
      have hxl : x.1 < L.length := (List.getElem?_eq_some_iff.1 hel).1
      have HAS := Lib.hid (has_any d' b' x.2 hS.wk.dl hS.wk.bl (by omega) xd xb W hS.wk.bd.cell hS.wk.bb.cell)
      have HNO := Lib.hid hno
      have HBW := Lib.hid hbW
      have HS := Lib.hid hS
      by_cases hv : hasW d' b' x.2 = true
      · rw [hv] at HAS
        have HV := Lib.hid hv
        have k1 := hS.z1.cell
        have r1 := hS.z2.cell
        have fr1 := hS.z2.frozen
        have r2 := hS.z3.cell
        have fr2 := hS.z3.frozen
        have k80 : W.cell? ⟨x8, 0, none⟩ = some (.string ⟨d'.toArray⟩) := hS.z8.cell 0
        have k82 : W.cell? ⟨x8, 2, none⟩ = some (.int .i64 j) := hS.z8.cell 2
        have f82 := hS.z8.frozen 2
        obtain ⟨v3, v4, v5, hwc⟩ : ∃ v3 v4 v5, wkC K = [v3, v4, v5] := by cases K <;> exact ⟨_, _, _, rfl⟩
        have hhd := hS.q.head
        rw [hwc] at hhd
        have h3 : W.cell? ⟨h, 3, none⟩ = some v3 := hhd.cell 3
        have h4 : W.cell? ⟨h, 4, none⟩ = some v4 := hhd.cell 4
        have h5 : W.cell? ⟨h, 5, none⟩ = some v5 := hhd.cell 5
        have f3 := hhd.frozen 3
        have f4 := hhd.frozen 4
        have f5 := hhd.frozen 5
        have h8 := hS.h8
        have hn1 : h < x8 := by omega
        have hn2 : w.heap.size < x8 := by omega
        have hn3 : w.heap.size + 1 < x8 := by omega
        have hn4 : w.heap.size + 1 + 1 < x8 := by omega
        have hn5 : h < w.heap.size + 1 := by omega
        have hn6 : h < w.heap.size + 1 + 1 := by omega
        clear hno hbW hS hv hwc hhd hel hlen hff
        gi_wp2_with (fail)
        refine ⟨trivial, ?_⟩
        refine (CallsIn.inRound lo' (callsIn_wide.2 HAS.out)).mono ?_
        rintro e w' ⟨rfl, rfl⟩
        gi_wp2
        have hf := old_fin HS.out x.1 hxl x.2
        exact ⟨old_keeps _ _ _ _ _ _ _ _ _ _, rfl, pre, x, rfl, HNO.out, HV.out, hf.1, hf.2.1, hf.2.2.1, hf.2.2.2⟩
      · have hv' : hasW d' b' x.2 = false := by simpa using hv
        rw [hv'] at HAS
        have HV := Lib.hid hv'
        clear hno hbW hS hv hv' hel hlen hff
        gi_wp2_with (fail)
        refine ⟨trivial, ?_⟩
        refine (CallsIn.inRound lo' (callsIn_wide.2 HAS.out)).mono ?_
        rintro e w' ⟨rfl, rfl⟩
        gi_wp2
        exact ⟨Rk.refl _ _ _, (fun y hy => by
          rcases List.mem_append.1 hy with hy | hy
          · exact HNO.out y hy
          · simp only [List.mem_cons, List.not_mem_nil, or_false] at hy
            rw [hy]; exact HV.out), HBW.out⟩
    case doneS =>
      rintro D ys f W hD hys ⟨hno, hbW⟩ hK
      have hS := HSX.out.below hbW
      have hnone : nextW d' b' L a = none := by
        unfold nextW
        rw [← hys]
        exact find_nowhere hno
      have k1 := hS.z2.cell
      have k2 := hS.z3.cell
      have f1 := hS.z2.frozen
      have f2 := hS.z3.frozen
      have HS := Lib.hid hS
      have HN := Lib.hid hnone
      clear hno hbW hS hnone hys
      go_wp2
      have hK' := ((KeepsOthers.setCell W ⟨w.heap.size + 1, 0, none⟩ (.string ⟨#[]⟩)).trans (KeepsOthers.setCell _ ⟨w.heap.size + 1 + 1, 0, none⟩ (.bool false))).same D _ hK rfl
      refine ⟨by simp, .inl ⟨_, _, rfl, run_takeDeferred hK', ?_⟩⟩
      have z2 := Boxed.setO (Boxed.set (.string ⟨#[]⟩) HS.out.z2) (k := w.heap.size + 1 + 1) (by omega) 0 (.bool false)
      have z3 := Boxed.set (.bool false) (Boxed.setO HS.out.z3 (k := w.heap.size + 1) (by omega) 0 (.string ⟨#[]⟩))
      have hchg : Chg (fun k => k = w.heap.size + 1 ∨ k = w.heap.size + 1 + 1) W ((W.setCell ⟨w.heap.size + 1, 0, none⟩ (.string ⟨#[]⟩)).setCell ⟨w.heap.size + 1 + 1, 0, none⟩ (.bool false)) := ((Chg.refl _ W).setCell (p := ⟨w.heap.size + 1, 0, none⟩) (.inl (.inl rfl)) _).setCell (p := ⟨w.heap.size + 1 + 1, 0, none⟩) (.inl (.inr rfl)) _
      generalize (W.setCell ⟨w.heap.size + 1, 0, none⟩ (.string ⟨#[]⟩)).setCell ⟨w.heap.size + 1 + 1, 0, none⟩ (.bool false) = W9 at *
      have hq9 : HsAt W9 lo h A c most L K := HS.out.q.keep hchg (fun k hk => by have := HOK.out k hk; omega)
      have hch : Chg (one h) w W9 := (Chg.of_below (S := one h) HS.out.b).trans hchg (fun k hk => .inr (by omega))
      have hend := old_end hq9 hK' z2 z3 hch (by have := HSX.out.b.size; omega)
      have c2 := hend.2.1
      have c3 := hend.2.2.1
      have hP : OldP w lo h A c most L K d' b' a (.returned (.tuple #[.string ⟨#[]⟩, .bool false])) (W9.putObj D (.deferred none)) := .inl ⟨HN.out, rfl, hend.1, hend.2.2.2⟩
      have HP := Lib.hid hP
      clear hP hend
      refine ⟨.tuple #[.string ⟨#[]⟩, .bool false], by simp [results, Tryd.f24, go_sem, c2, c3], ?_⟩
      have hfin := HP.out
      obtain ⟨rfl, rfl, rfl, rfl⟩ := HEQ.out
      exact hfin
    case stopS =>
      rintro D co pre f W hD hpre ⟨rfl, p, x, hp, hno, hv, hq, z2, z3, hch⟩ hK
      rw [hp] at hpre
      have hsome : nextW d' b' L a = some (x.1, x.2) := find_here hno hv hpre
      have hend := old_end hq hK z2 z3 hch (by have := HSX.out.b.size; omega)
      have c2 := hend.2.1
      have c3 := hend.2.2.1
      have hP : OldP w lo h A c most L K d' b' a (.returned (.tuple #[.string ⟨x.2.toArray⟩, .bool true])) (W.putObj D (.deferred none)) := .inr ⟨x.1, x.2, xd, xb, hsome, rfl, hend.1, hend.2.2.2, HFR.out⟩
      have HP := Lib.hid hP
      clear hP hend hsome hpre hp hno hv hq z2 z3 hch
      gi_wp2
      refine ⟨by simp, .inl ⟨_, _, rfl, run_takeDeferred hK, ?_⟩⟩
      refine ⟨.tuple #[.string ⟨x.2.toArray⟩, .bool true], by simp [results, Tryd.f24, go_sem, c2, c3], ?_⟩
      have hfin := HP.out
      obtain ⟨rfl, rfl, rfl, rfl⟩ := HEQ.out
      exact hfin
end Go.Proofs.YtfjiogockpmogaaDoor
