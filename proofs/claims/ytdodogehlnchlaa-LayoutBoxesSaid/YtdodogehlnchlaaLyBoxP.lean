/-
  Rows of boxes of the call's own; walk: Boxes.
-/
import Derived.Test.YtdodogehlnchlaaLyBoxI
namespace Go.Proofs.Ytdodogehlnchlaa
open Go.RowKit Go.Shelf Go.Sort
attribute [local go_sem] Oper.semAt_some
set_option linter.unusedVariables false
set_option linter.unusedSimpArgs false

def bxB (L : List Bx) : List Value := L.flatMap bxC
theorem bxB_append (L M : List Bx) : bxB (L ++ M) = bxB L ++ bxB M := by unfold bxB; rw [List.flatMap_append]
theorem bxB_length (L : List Bx) : (bxB L).length = L.length * 4 := by
  induction L with
  | nil => rfl
  | cons x L ih => simp only [bxB, List.flatMap_cons, List.length_append, List.length_cons] at *; rw [ih]; simp only [bxC, List.length_cons, List.length_nil]; omega
theorem bxB_one (L : List Bx) : ∀ v ∈ bxB L, v.oneCell' = true := by
  intro v hv
  unfold bxB at hv
  obtain ⟨x, _, hx⟩ := List.mem_flatMap.1 hv
  simp only [bxC, List.mem_cons, List.not_mem_nil, or_false] at hx
  rcases hx with rfl | rfl | rfl | rfl <;> rfl
theorem bxB_get {L : List Bx} {k : Nat} {b : Bx} (h : L[k]? = some b) {j : Nat} {v : Value} (hv : (bxC b)[j]? = some v) : (bxB L)[k * 4 + j]? = some v := by
  have hj : j < 4 := by have := (List.getElem?_eq_some_iff.1 hv).1; simpa [bxC] using this
  induction L generalizing k with
  | nil => simp at h
  | cons x L ih =>
    cases k with
    | zero =>
      simp at h
      subst h
      rw [bxB, List.flatMap_cons, List.getElem?_append_left (by simp [bxC]; omega), Nat.zero_mul, Nat.zero_add]
      exact hv
    | succ k =>
      rw [bxB, List.flatMap_cons, List.getElem?_append_right (by simp [bxC]; omega), show (k + 1) * 4 + j - (bxC x).length = k * 4 + j by simp [bxC]; omega]
      exact ih (by simpa using h)
theorem bx_info : (Try.prog.info? 52).map (fun i => (i.zero, i.size, i.bytes)) = some (some (.agg #[.int .i64 0, .int .i64 0, .int .i64 0, .int .i64 0]), 4, 32) := by kernel_rfl
theorem bx_size : (Try.prog.info? 52).map (·.size) = some 4 := by kernel_rfl
/-- a row of boxes of the call's own -/
def OX (w : World) (base : Nat) (A : Option Addr) (n c : Nat) (L : List Bx) : Prop := w.ownsRow base 52 4 (.slice A n c) n (bxB L)
theorem OX.none_ (w : World) (base : Nat) : OX w base none 0 0 [] := World.ownsRow_nil w base _ _
theorem OX.kept {w w' : World} {base n c : Nat} {A : Option Addr} {L : List Bx} {row : Option Nat} (h : OX w base A n c L) (hg : w.grownBy w' row) (hne : blk A = none ∨ blk A ≠ row) : OX w' base A n c L := World.ownsRow.kept h hg (by rw [ownBlock_slice]; exact hne)
theorem OX.blk_lt {w : World} {base n c : Nat} {A : Option Addr} {L : List Bx} (h : OX w base A n c L) (g : Nat) (hg : blk A = some g) : base ≤ g ∧ g < w.heap.size := World.ownsRow.lt h g (by rw [ownBlock_slice]; exact hg)
theorem OX.sl {w : World} {base n c : Nat} {A : Option Addr} {L : List Bx} (h : OX w base A n c L) : Sl w w.heap.size A (bxB L) := by
  rcases h with ⟨hl, ⟨hv, h0⟩ | ⟨g, cap, cur, hv, hb, hh, hnc, hc, hcur, ht⟩⟩
  · exact .inl (List.eq_nil_of_length_eq_zero (by omega))
  · injection hv with hA _ hC
    subst hA
    have hB : Blk w g 52 cur.toList := by unfold Blk; rw [Array.toArray_toList]; exact hh
    refine .inr ⟨g, 0, rfl, hB.lt, hB.range 0 _ (fun j v hv => ?_)⟩
    rw [← ht] at hv
    rw [List.getElem?_take] at hv
    split at hv
    · simpa using hv
    · cases hv
theorem run_appX (w : World) (base : Nat) (A : Option Addr) (n c : Nat) (L : List Bx) (hown : OX w base A n c L) (hbase : base ≤ w.heap.size) (b : Bx) (hn : n ≤ 1000000) :
    ∃ A' c' w', (Builtin.append_ #[47, 47] 47 #[.slice A n c, .slice (some ⟨w.heap.size, 0, none⟩) 1 1]).run Try.prog (w.alloc (.cells (bxC b).toArray 52)) = .ok (.slice A' (n + 1) c') w' ∧ OX w' base A' (n + 1) c' (L ++ [b]) ∧ Chg (fun g => blk A = some g) w w' ∧ (blk A' = blk A ∨ blk A' = some (w.heap.size + 1)) := by
  obtain ⟨i0, hi0, hz0, hz1, hz2⟩ := info_parts bx_info
  have hown2 : OX (w.alloc (.cells (bxC b).toArray 52)) base A n c L := World.ownsRow.alloc hown _
  obtain ⟨v', w', hrun, h2, h3, h4⟩ := run_append_sl (P := Try.prog) (w.alloc (.cells (bxC b).toArray 52)) base 47 47 52 i0 _ 4 32 Try.underlying47 hi0 hz0 hz1 hz2 rfl (by omega) _ n (bxB L) hown2 (w.heap.size + 1) (some ⟨w.heap.size, 0, none⟩) 1 1 (bxC b) (Sl.new w (bxC b).toArray 52) rfl (fun h => by cases h) (fun u hu => bxB_one [b] u (by simpa [bxB] using hu)) (by simp only [maxLen]; omega) (by omega) (by simp; omega)
  obtain ⟨A', c', rfl, hn', _⟩ := own_of h2
  simp only [ownBlock_slice] at h3 h4
  refine ⟨A', c', w', hrun, ?_, ((Chg.refl _ w).alloc _).grown h3 (fun k hk => .inl hk), by rw [World.size_alloc] at h4; exact h4⟩
  unfold OX
  rw [bxB_append]
  simpa [bxB] using h2

/-! Boxes -/
def okB (w h gap : Int) (n m : Nat) (Pr Pc : Nat → Pt) : Prop := chkV h 0 n Pr = 0 ∧ chkV w gap m Pc = 0
instance (w h gap : Int) (n m : Nat) (Pr Pc : Nat → Pt) : Decidable (okB w h gap n m Pr Pc) := by unfold okB; infer_instance
def upR (h : Int) (n : Nat) (Pr : Nat → Pt) : Sts := l3 0 h 0 Pr n
def sdR (w gap : Int) (m : Nat) (Pc : Nat → Pt) : Sts := l3 gap w 0 Pc m
/-- the boxes -/
def bxsR (w h gap : Int) (n m : Nat) (Pr Pc : Nat → Pt) : List Bx := if okB w h gap n m Pr Pc then boxL (upR h n Pr) n (sdR w gap m Pc) m else []
structure BxIt (w0 : World) (D C B1 B2 : Nat) (A1 A2 : Option Addr) (n m : Nat) (σ τ : Sts) (w : World) : Prop where
  a1 : 0 < n → A1 = some ⟨B1, 0, none⟩
  a2 : 0 < m → A2 = some ⟨B2, 0, none⟩
  s1 : 0 < n → Blk w B1 62 (slB σ n)
  s2 : 0 < m → Blk w B2 62 (slB τ m)
  d : Boxed w D 56 (.slice A1 n n)
  c : Boxed w C 56 (.slice A2 m m)
  bel : Below w0.heap.size w0 w

set_option maxRecDepth 100000 in
set_option maxHeartbeats 8000000 in
theorem pboxes_any (ww hh gap : Int) (Ar Ac : Option Addr) (n m cr cc : Nat) (Pr Pc : Nat → Pt) (w : World) (hn : n ≤ 65) (hm : m ≤ 65) (hSr : Sl w w.heap.size Ar (ptB Pr n)) (hSc : Sl w w.heap.size Ac (ptB Pc m)) :
    Calls Try.prog 38 #[.int .i64 ww, .int .i64 hh, .int .i64 gap, .slice Ar n cr, .slice Ac m cc] w fun e w' => ∃ D C B1 B2 A1 A2, e = .returned (.func (.func 45) #[] #[.pointer (some ⟨D, 0, none⟩), .pointer (some ⟨C, 0, none⟩)]) ∧ BxIt w D C B1 B2 A1 A2 (if okB ww hh gap n m Pr Pc then n else 0) (if okB ww hh gap n m Pr Pc then m else 0) (upR hh n Pr) (sdR ww gap m Pc) w' := by
  have hb : Below w.heap.size w ((w.alloc (.cells #[.slice none 0 0] 56)).alloc (.cells #[.slice none 0 0] 56)) := ((Below.refl _ w).alloc (Nat.le_refl _) _).alloc (by simp) _
  have hd := (Boxed.new w 56 (.slice none 0 0)).alloc (.cells #[.slice none 0 0] 56)
  have hc := Boxed.new (w.alloc (.cells #[.slice none 0 0] 56)) 56 (.slice none 0 0)
  rw [World.size_alloc] at hc
  obtain ⟨W1, hW1⟩ : ∃ W1, W1 = (w.alloc (.cells #[.slice none 0 0] 56)).alloc (.cells #[.slice none 0 0] 56) := ⟨_, rfl⟩
  have hc' : Boxed W1 (w.heap.size + 1) 56 (.slice none 0 0) := by rw [hW1]; exact hc
  rw [← hW1] at hb hd
  have hSr1 : Sl W1 W1.heap.size Ar (ptB Pr n) := (hSr.below hb).more hb.size
  have hSc1 : Sl W1 W1.heap.size Ac (ptB Pc m) := (hSc.below hb).more hb.size
  have HW1 := Lib.hid hW1
  have HD := Lib.hid hd
  have HC := Lib.hid hc'
  have HB := Lib.hid hb
  have HSR := Lib.hid hSr1
  have HSC := Lib.hid hSc1
  have HK1 := Lib.hid (fun W h => check_any hh 0 Ar n cr Pr W hn h)
  have HK2 := Lib.hid (fun W h => check_any ww gap Ac m cc Pc W hm h)
  clear hc hc' hd hb hSr hSc hSr1 hSc1 hW1
  by_cases h1 : chkV hh 0 n Pr = 0
  · by_cases h2 : chkV ww gap m Pc = 0
    · have hok : okB ww hh gap n m Pr Pc := ⟨h1, h2⟩
      rw [if_pos hok]
      have e2 : (if okB ww hh gap n m Pr Pc then m else 0) = m := if_pos hok
      rw [e2]
      obtain ⟨⟨q0, q5, _, _⟩, ⟨n1, n64⟩, hokr⟩ := chkV_ok h1
      obtain ⟨⟨p0, p5, g0, g9⟩, ⟨m1, m64⟩, hokc⟩ := chkV_ok h2
      rw [h1] at HK1
      rw [h2] at HK2
      have HL1 := Lib.hid (fun W h => lay_any hh 0 0 Ar n cr Pr W n1 n64 q0 q5 (Int.le_refl _) (by omega) hokr h)
      have HL2 := Lib.hid (fun W h => lay_any ww gap 0 Ac m cc Pc W m1 m64 p0 p5 g0 g9 hokc h)
      clear hok e2 h1 h2 hokr hokc
      go_enter Try.func38, Try.ntmps38
      go_upto_region 2 with (fail)
      rw [← HW1.out]
      clear HW1
      go_upto_region 3 with (first
        | (go_at_call 18; with_reducible refine (HK1.out W1 HSR.out).mono ?_; rintro e w2 ⟨rfl, hb⟩; have B2 := Lib.hid hb; have SC2 := Lib.hid (sl_on HSC.out hb); have SR2 := Lib.hid (sl_on HSR.out hb); clear hb)
        | (go_at_call 18; with_reducible refine (HK2.out w2 SC2.out).mono ?_; rintro e w3 ⟨rfl, hb⟩; have B3 := Lib.hid (B2.out.trans (hb.mono B2.out.size)); have SC3 := Lib.hid (sl_on SC2.out hb); have SR3 := Lib.hid (sl_on SR2.out hb); clear hb))
      go_wp2_with (first
        | (go_at_call 30; with_reducible refine (HL1.out w3 SR3.out).mono ?_; rintro e w4 ⟨X1, hx1, rfl, hbl, hb⟩; have L4 := Lib.hid hbl; have B4 := Lib.hid (B3.out.trans (hb.mono B3.out.size)); have SC4 := Lib.hid (sl_on SC3.out hb); have HX1 := Lib.hid (Nat.le_trans B3.out.size hx1); clear hb hbl hx1))
      refine (HL2.out w4 SC4.out).mono ?_
      rintro e w5 ⟨X2, hx2, rfl, hbl, hb⟩
      have M5 := Lib.hid hbl
      have L5 := Lib.hid (L4.out.below hb L4.out.lt)
      have B5 := Lib.hid (B4.out.trans (hb.mono B4.out.size))
      have HX2 := Lib.hid (Nat.le_trans B4.out.size hx2)
      have hd5 : Boxed w5 w.heap.size 56 (.slice none 0 0) := (B5.out.block _ (Boxed.lt HD.out)).trans HD.out
      have hc5 : Boxed w5 (w.heap.size + 1) 56 (.slice none 0 0) := (B5.out.block _ (Boxed.lt HC.out)).trans HC.out
      have cd5 := hd5.cell
      have cc5 := hc5.cell
      have fd5 := hd5.frozen
      have fc5 := hc5.frozen
      have HD5 := Lib.hid hd5
      have HC5 := Lib.hid hc5
      clear hb hbl hx2 hd5 hc5
      go_wp2_with (fail)
      go_ret
      have hl1 := Boxed.lt HC.out
      have hx1 := HX1.out
      have hx2 := HX2.out
      refine ⟨w.heap.size, w.heap.size + 1, X1, X2, _, _, rfl, fun _ => rfl, fun _ => rfl, fun _ => Blk.setO (Blk.setO L5.out (by omega) 0 _) (by omega) 0 _, fun _ => Blk.setO (Blk.setO M5.out (by omega) 0 _) (by omega) 0 _, Boxed.setO (Boxed.set _ HD5.out) (by omega) 0 _, Boxed.set _ (Boxed.setO HC5.out (by omega) 0 _), ?_⟩
      exact ((HB.out.trans (B5.out.mono HB.out.size)).setCell (p := ⟨w.heap.size, 0, none⟩) (Nat.le_refl _) _).setCell (p := ⟨w.heap.size + 1, 0, none⟩) (by simp) _
    · have hno : ¬ okB ww hh gap n m Pr Pc := fun h => h2 h.2
      rw [if_neg hno]
      have e2 : (if okB ww hh gap n m Pr Pc then m else 0) = 0 := if_neg hno
      rw [e2]
      rw [h1] at HK1
      have hne : (chkV ww gap m Pc == 0) = false := by simp [h2]
      generalize chkV ww gap m Pc = v2 at *
      clear hno e2 h1
      go_enter Try.func38, Try.ntmps38
      go_upto_region 2 with (fail)
      rw [← HW1.out]
      clear HW1
      go_wp2_with (first
        | (go_at_call 18; with_reducible refine (HK1.out W1 HSR.out).mono ?_; rintro e w2 ⟨rfl, hb⟩; have B2 := Lib.hid hb; have SC2 := Lib.hid (sl_on HSC.out hb); clear hb)
        | (go_at_call 18; with_reducible refine (HK2.out w2 SC2.out).mono ?_; rintro e w3 ⟨rfl, hb⟩; have B3 := Lib.hid (B2.out.trans (hb.mono B2.out.size)); clear hb))
      go_ret
      exact ⟨w.heap.size, w.heap.size + 1, 0, 0, none, none, rfl, fun h => absurd h (by omega), fun h => absurd h (by omega), fun h => absurd h (by omega), fun h => absurd h (by omega), (B3.out.block _ (Boxed.lt HD.out)).trans HD.out, (B3.out.block _ (Boxed.lt HC.out)).trans HC.out, HB.out.trans (B3.out.mono HB.out.size)⟩
  · have hno : ¬ okB ww hh gap n m Pr Pc := fun h => h1 h.1
    rw [if_neg hno]
    have e2 : (if okB ww hh gap n m Pr Pc then m else 0) = 0 := if_neg hno
    rw [e2]
    have hne : (chkV hh 0 n Pr == 0) = false := by simp [h1]
    generalize chkV hh 0 n Pr = v1 at *
    clear hno e2
    go_enter Try.func38, Try.ntmps38
    go_upto_region 2 with (fail)
    rw [← HW1.out]
    clear HW1
    go_wp2_with (go_at_call 18; with_reducible refine (HK1.out W1 HSR.out).mono ?_; rintro e w2 ⟨rfl, hb⟩; have B2 := Lib.hid hb; clear hb)
    go_ret
    exact ⟨w.heap.size, w.heap.size + 1, 0, 0, none, none, rfl, fun h => absurd h (by omega), fun h => absurd h (by omega), fun h => absurd h (by omega), fun h => absurd h (by omega), (B2.out.block _ (Boxed.lt HD.out)).trans HD.out, (B2.out.block _ (Boxed.lt HC.out)).trans HC.out, HB.out.trans (B2.out.mono HB.out.size)⟩
end Go.Proofs.Ytdodogehlnchlaa
