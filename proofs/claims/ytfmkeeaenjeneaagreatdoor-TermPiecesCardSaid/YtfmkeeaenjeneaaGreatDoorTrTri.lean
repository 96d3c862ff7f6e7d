/-
  Three terminals and the document's, apart from each other.
-/
import Derived.Test.YtfmkeeaenjeneaaGreatDoorTrShows
import Derived.Test.YtfmkeeaenjeneaaGreatDoorTmAwake
namespace Go.Proofs.YtfmkeeaenjeneaaGreatDoor
open Go.RowKit Go.Sort
set_option linter.unusedVariables false
set_option linter.unusedSimpArgs false

theorem TmAt.chg_ {w w' : World} {lo t g rb : Nat} {bs : List Nat} {T : TS} {B : List UInt8} {S : Nat → Prop} (h : TmAt w lo t g rb bs T B) (hc : Chg S w w') (hn : ∀ k, TmOwn t g rb bs k → ¬ S k) : TmAt w' lo t g rb bs T B := by
  obtain ⟨xs, h1, h2, h3⟩ := h.blk
  exact ⟨⟨xs, h1, h2, h3.chg hc (hn t (.inl rfl))⟩, h.grid.keep hc (fun k hk h => hn k (.inr hk) h), h.lot, h.row, h.col, h.b32⟩
theorem TmAt.weaken {w : World} {lo lo' t g rb : Nat} {bs : List Nat} {T : TS} {B : List UInt8} (h : TmAt w lo t g rb bs T B) (hl : lo' ≤ lo) : TmAt w lo' t g rb bs T B :=
  ⟨h.blk, { h.grid with lo := fun k hk => Nat.le_trans hl (h.grid.lo k hk) }, Nat.le_trans hl h.lot, h.row, h.col, h.b32⟩
/-- a terminal, with the set of its blocks -/
def TmS (w : World) (lo t : Nat) (T : TS) (B : List UInt8) (O : Nat → Prop) : Prop := ∃ g rb bs, TmAt w lo t g rb bs T B ∧ O = TmOwn t g rb bs
namespace TmS
variable {w w' : World} {lo t : Nat} {T : TS} {B : List UInt8} {O S : Nat → Prop}
theorem chg (h : TmS w lo t T B O) (hc : Chg S w w') (hn : ∀ k, O k → ¬ S k) : TmS w' lo t T B O := by
  obtain ⟨g, rb, bs, h1, rfl⟩ := h
  exact ⟨g, rb, bs, h1.chg_ hc hn, rfl⟩
theorem below (h : TmS w lo t T B O) (hb : Below w.heap.size w w') : TmS w' lo t T B O := by
  obtain ⟨g, rb, bs, h1, rfl⟩ := h
  exact ⟨g, rb, bs, h1.below hb, rfl⟩
theorem lo_ (h : TmS w lo t T B O) {k : Nat} (hk : O k) : lo ≤ k := by
  obtain ⟨g, rb, bs, h1, rfl⟩ := h
  exact h1.own_lo hk
theorem lt (h : TmS w lo t T B O) {k : Nat} (hk : O k) : k < w.heap.size := by
  obtain ⟨g, rb, bs, h1, rfl⟩ := h
  exact h1.own_lt k hk
theorem weaken {lo' : Nat} (h : TmS w lo t T B O) (hl : lo' ≤ lo) : TmS w lo' t T B O := by
  obtain ⟨g, rb, bs, h1, rfl⟩ := h
  exact ⟨g, rb, bs, h1.weaken hl, rfl⟩
theorem write (h : TmS w lo t T B O) (hbase : Base w lo) (hB : B.length < 32) (pb : Nat) (vs : List Part) (hvs : vs.length ≤ 1000) (hP : PartsAt w O pb vs) :
    Calls Tryz.prog 8 #[.pointer (some ⟨t, 0, none⟩), .slice (some ⟨pb, 0, none⟩) vs.length vs.length] w fun e w' => e = .returned (.tuple #[]) ∧ ∃ O', TmS w' lo t (wrA (T, B) vs).1 (wrA (T, B) vs).2 O' ∧ (∀ k, O' k → O k ∨ w.heap.size ≤ k) ∧ Chg O w w' := by
  obtain ⟨g, rb, bs, h1, rfl⟩ := h
  refine (write_any h1 hbase hB pb vs hvs hP).mono ?_
  rintro e w' ⟨he, bs', h2, h3, h4⟩
  refine ⟨he, _, ⟨g, rb, bs', h2, rfl⟩, fun k hk => ?_, h4⟩
  rcases hk with rfl | hk
  · exact .inl (.inl rfl)
  · exact (h3 k hk).imp .inr id
end TmS
theorem tnewS (W H : Nat) (w1 : 1 ≤ W) (w5 : W ≤ 500) (h1 : 1 ≤ H) (h5 : H ≤ 500) (w : World) (hT : BlankT w) :
    Calls Tryz.prog 5 #[.int .i64 W, .int .i64 H] w fun e w' => ∃ t O, e = .returned (.tuple #[.pointer (some ⟨t, 0, none⟩), .int .i64 0]) ∧ TmS w' w.heap.size t (tmNew W H) [] O ∧ Below w.heap.size w w' := by
  refine (tnew_ok W H w1 w5 h1 h5 w hT).mono ?_
  rintro e w' ⟨t, g, rb, bs, he, ht, hb⟩
  exact ⟨t, _, he, ⟨g, rb, bs, ht, rfl⟩, hb⟩

/-- three terminals, and the document's in its box -/
structure Tri (w wr : World) (t : Fin 3 → Nat) (st : Fin 3 → TS × List UInt8) (O : Fin 3 → Nat → Prop) (z : Nat) (T0 : TS) (A : Option Addr) (c : Nat) : Prop where
  tm : ∀ i, TmS wr w.heap.size (t i) (st i).1 (st i).2 (O i)
  apart : ∀ i j, i ≠ j → ∀ k, O i k → ¬ O j k
  box : Blk wr z 34 (rtC T0 A c (.slice none 0 0))
  zno : ∀ i, ¬ O i z
  zlo : w.heap.size ≤ z
  rows : RfAt wr (fun b => b ≠ z ∧ ∀ i, ¬ O i b) A c T0.L
  base : Base wr w.heap.size
  bel : Below w.heap.size w wr
namespace Tri
variable {w wr w' : World} {t : Fin 3 → Nat} {st : Fin 3 → TS × List UInt8} {O : Fin 3 → Nat → Prop} {z : Nat} {T0 : TS} {A : Option Addr} {c : Nat}
theorem below (h : Tri w wr t st O z T0 A c) (hb : Below wr.heap.size wr w') : Tri w w' t st O z T0 A c :=
  ⟨fun i => (h.tm i).below hb, h.apart, h.box.below hb h.box.lt, h.zno, h.zlo, h.rows.below hb, h.base.below hb, h.bel.trans (hb.mono h.bel.size)⟩
theorem write (h : Tri w wr t st O z T0 A c) (i : Fin 3) {T : TS} {B : List UInt8} {O' : Nat → Prop} (hs : TmS w' w.heap.size (t i) T B O') (ho : ∀ k, O' k → O i k ∨ wr.heap.size ≤ k) (hc : Chg (O i) wr w') :
    ∃ st' O2, Tri w w' t st' O2 z T0 A c ∧ st' i = (T, B) ∧ ∀ j, j ≠ i → st' j = st j := by
  refine ⟨fun j => if j = i then (T, B) else st j, fun j => if j = i then O' else O j, ⟨fun j => ?_, fun j l hjl k hj hl => ?_, h.box.chg hc (h.zno i), fun j hj => ?_, h.zlo, ((h.rows.mono (D' := fun b => (b ≠ z ∧ ∀ i, ¬ O i b) ∧ ∀ j, ¬ (if j = i then O' else O j) b) (fun b hb hd => ⟨hd, fun j hj => ?_⟩)).chg hc (fun b _ hb => hb.1.2 i)).mono (fun b _ hd => ⟨hd.1.1, hd.2⟩), h.base.chg hc (fun k hk => (h.tm i).lo_ hk), h.bel.trans (hc.below h.bel.size (fun k hk => (h.tm i).lo_ hk))⟩, by simp, fun j hj => by simp [hj]⟩
  · by_cases e : j = i
    · subst e; simpa using hs
    · simp only [e, if_false]
      exact (h.tm j).chg hc (fun k hk => h.apart j i e k hk)
  · by_cases e : j = i
    · subst e
      have el : l ≠ j := fun e => hjl e.symm
      simp only [if_true] at hj
      simp only [el, if_false] at hl
      rcases ho k hj with h1 | h1
      · exact h.apart j l hjl k h1 hl
      · exact absurd ((h.tm l).lt hl) (by omega)
    · simp only [e, if_false] at hj
      by_cases e2 : l = i
      · subst e2
        simp only [if_true] at hl
        rcases ho k hl with h1 | h1
        · exact h.apart j l hjl k hj h1
        · exact absurd ((h.tm j).lt hj) (by omega)
      · simp only [e2, if_false] at hl
        exact h.apart j l hjl k hj hl
  · by_cases e : j = i
    · subst e
      simp only [if_true] at hj
      rcases ho z hj with h1 | h1
      · exact h.zno j h1
      · exact absurd h.box.lt (by omega)
    · simp only [e, if_false] at hj
      exact h.zno j hj
  · by_cases e : j = i
    · subst e
      simp only [if_true] at hj
      rcases ho b hj with h1 | h1
      · exact hd.2 j h1
      · omega
    · simp only [e, if_false] at hj
      exact hd.2 j hj
/-- bytes that are handed to a terminal as one part -/
theorem parts1 (h : Tri w wr t st O z T0 A c) (i : Fin 3) (A' : Option Addr) (x : List UInt8) (c' : Nat) (hx : x.length ≤ 100000) (hS : Sl wr w.heap.size A' (bv x)) :
    PartsAt (wr.alloc (.cells #[.slice A' x.length c'] 32)) (O i) wr.heap.size [(A', x, c')] := by
  have hb : Below wr.heap.size wr (wr.alloc (.cells #[.slice A' x.length c'] 32)) := (Below.refl _ _).alloc (Nat.le_refl _) _
  have h2 : Blk (wr.alloc (.cells #[.slice A' x.length c'] 32)) wr.heap.size 32 [.slice A' x.length c'] := Blk.new wr _ _
  refine ⟨h2.lt, fun hk => ?_, fun j v hv => ?_, fun v hv => ?_, fun v hv => ?_⟩
  · exact absurd ((h.tm i).lt hk) (by omega)
  · match j, hv with
    | 0, hv => simp at hv; subst hv; exact h2.cell 0
    | j + 1, hv => simp at hv
  · simp at hv
    subst hv
    by_cases h0 : x = []
    · exact .inl h0
    · right
      obtain ⟨b, o, e, hbl, hc⟩ := hS.open_ (by rw [bv_length]; exact List.length_pos_iff.2 h0)
      have := h.bel.size
      exact ⟨b, o, e, by simp; omega, fun hk => absurd ((h.tm i).lo_ hk) (by omega), fun i hi => (hb.cell (p := ⟨b, o + i, none⟩) (by show b < wr.heap.size; omega)).trans (hc i _ (bv_get hi))⟩
  · simp at hv
    subst hv
    exact hx
theorem parts2 (h : Tri w wr t st O z T0 A c) (i : Fin 3) (A' : Option Addr) (x : List UInt8) (c' : Nat) (hx : x.length ≤ 100000) (hS : Sl wr w.heap.size A' (bv x)) :
    PartsAt (wr.alloc (.cells #[.slice A' x.length c', .slice none 0 0] 32)) (O i) wr.heap.size [(A', x, c'), (none, [], 0)] := by
  have hb : Below wr.heap.size wr (wr.alloc (.cells #[.slice A' x.length c', .slice none 0 0] 32)) := (Below.refl _ _).alloc (Nat.le_refl _) _
  have h2 : Blk (wr.alloc (.cells #[.slice A' x.length c', .slice none 0 0] 32)) wr.heap.size 32 [.slice A' x.length c', .slice none 0 0] := Blk.new wr _ _
  refine ⟨h2.lt, fun hk => ?_, fun j v hv => ?_, fun v hv => ?_, fun v hv => ?_⟩
  · exact absurd ((h.tm i).lt hk) (by omega)
  · match j, hv with
    | 0, hv => simp at hv; subst hv; exact h2.cell 0
    | 1, hv => simp at hv; subst hv; exact h2.cell 1
    | j + 2, hv => simp at hv
  · simp at hv
    rcases hv with rfl | rfl
    · by_cases h0 : x = []
      · exact .inl h0
      · right
        obtain ⟨b, o, e, hbl, hc⟩ := hS.open_ (by rw [bv_length]; exact List.length_pos_iff.2 h0)
        have := h.bel.size
        exact ⟨b, o, e, by simp; omega, fun hk => absurd ((h.tm i).lo_ hk) (by omega), fun i hi => (hb.cell (p := ⟨b, o + i, none⟩) (by show b < wr.heap.size; omega)).trans (hc i _ (bv_get hi))⟩
    · exact .inl rfl
  · simp at hv
    rcases hv with rfl | rfl
    · exact hx
    · simp
theorem wr1 (h : Tri w wr t st O z T0 A c) (i : Fin 3) (hlt : (st i).2.length < 32) (A' : Option Addr) (x : List UInt8) (m c' : Nat) (hm : m = x.length) (hx : x.length ≤ 100000) (hS : Sl wr w.heap.size A' (bv x)) :
    Calls Tryz.prog 8 #[.pointer (some ⟨t i, 0, none⟩), .slice (some ⟨wr.heap.size, 0, none⟩) 1 1] (wr.alloc (.cells #[.slice A' m c'] 32)) fun e w' => e = .returned (.tuple #[]) ∧ ∃ st' O', Tri w w' t st' O' z T0 A c ∧ st' i = wrT (st i) x ∧ ∀ j, j ≠ i → st' j = st j := by
  subst hm
  have hb : Below wr.heap.size wr (wr.alloc (.cells #[.slice A' x.length c'] 32)) := (Below.refl _ _).alloc (Nat.le_refl _) _
  have h1 := h.below hb
  refine ((h1.tm i).write h1.base hlt wr.heap.size [(A', x, c')] (by simp) (h.parts1 i A' x c' hx hS)).mono ?_
  rintro e w' ⟨rfl, O', a1, a2, a3⟩
  obtain ⟨st', O2, b1, b2, b3⟩ := h1.write i a1 a2 a3
  exact ⟨rfl, st', O2, b1, by rw [b2]; rfl, b3⟩
theorem wr2 (h : Tri w wr t st O z T0 A c) (i : Fin 3) (hlt : (st i).2.length < 32) (A' : Option Addr) (x : List UInt8) (m c' : Nat) (hm : m = x.length) (hx : x.length ≤ 100000) (hS : Sl wr w.heap.size A' (bv x)) :
    Calls Tryz.prog 8 #[.pointer (some ⟨t i, 0, none⟩), .slice (some ⟨wr.heap.size, 0, none⟩) 2 2] (wr.alloc (.cells #[.slice A' m c', .slice none 0 0] 32)) fun e w' => e = .returned (.tuple #[]) ∧ ∃ st' O', Tri w w' t st' O' z T0 A c ∧ st' i = wrT (st i) x ∧ ∀ j, j ≠ i → st' j = st j := by
  subst hm
  have hb : Below wr.heap.size wr (wr.alloc (.cells #[.slice A' x.length c', .slice none 0 0] 32)) := (Below.refl _ _).alloc (Nat.le_refl _) _
  have h1 := h.below hb
  refine ((h1.tm i).write h1.base hlt wr.heap.size [(A', x, c'), (none, [], 0)] (by simp) (h.parts2 i A' x c' hx hS)).mono ?_
  rintro e w' ⟨rfl, O', a1, a2, a3⟩
  obtain ⟨st', O2, b1, b2, b3⟩ := h1.write i a1 a2 a3
  exact ⟨rfl, st', O2, b1, by rw [b2]; rfl, b3⟩
end Tri
end Go.Proofs.YtfmkeeaenjeneaaGreatDoor
