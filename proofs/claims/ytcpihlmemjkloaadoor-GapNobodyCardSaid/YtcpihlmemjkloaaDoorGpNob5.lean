/-
  Walk: Find in a buffer that nobody made.
-/
import Derived.Test.YtcpihlmemjkloaaDoorGpNob4
namespace Go.Proofs.YtcpihlmemjkloaaDoor
open Go.RowKit Go.Shelf Go.Sort
attribute [local go_sem] Oper.semAt_some
set_option linter.unusedVariables false
set_option linter.unusedSimpArgs false

set_option maxRecDepth 100000 in
set_option maxHeartbeats 4000000 in
theorem gfind_not {w : World} {p : Option Addr} (h : GpNo w p) (X : Option Addr) (m d : Nat) (hm5 : m ≤ 1000000) :
    Calls Tryd.prog 20 #[.pointer p, .slice X m d] w fun e w' => e = .returned (.tuple #[.int .i64 0, .bool false]) ∧ Below w.heap.size w w' := by
  rcases Nat.eq_zero_or_pos m with h0 | h0
  · subst h0; exact find_empty p d X
  have H := Lib.hid h
  have hmi : ¬ ((m : Int) = 0) := by omega
  have hmn : m ≠ 0 := by omega
  clear h h0
  refine (callsIn_wide (n := 9)).1 ?_
  refine callsIn_of_wp_marks Tryd.func20 rfl trivial ?_ rfl
  simp only [Tryd.ntmps20, List.size_toArray, List.length_cons, List.length_nil, Nat.reduceAdd, Nat.reduceSub, Array.replicate_succ, Array.replicate_zero, List.push_toArray, List.append_toArray, List.nil_append, List.cons_append]
  refine wpIn_wide.2 ?_
  have hb0 : Below w.heap.size w ((((w.alloc (.cells #[.pointer p] 22)).alloc (.cells #[.slice X m d] 24)).alloc (.cells #[.int .i64 0] 3)).alloc (.cells #[.bool false] 4)) :=
    ((((Below.refl _ w).alloc (Nat.le_refl _) _).alloc (by simp) _).alloc (by simp; omega) _).alloc (by simp; omega) _
  have HB0 := Lib.hid hb0
  clear hb0
  go_wp2_with (first
    | (go_at_call 16; refine (gcursor_not (H.out.below HB0.out)).mono ?_; rintro e w1 ⟨rfl, rfl⟩)
    | (go_at_call 23; refine (gall_any _ _).mono ?_; rintro e w' ⟨rfl, rfl⟩))
  refine (wpIn_wide (n := 9)).1 ?_
  have y2 := (((Boxed.new ((w.alloc (.cells #[.pointer p] 22)).alloc (.cells #[.slice X m d] 24)) 3 (.int .i64 0)).alloc (.cells #[.bool false] 4)).alloc (.cells #[.int .i64 0] 3)).alloc (.cells #[.pointer p] 22)
  have y3 := ((Boxed.new (((w.alloc (.cells #[.pointer p] 22)).alloc (.cells #[.slice X m d] 24)).alloc (.cells #[.int .i64 0] 3)) 4 (.bool false)).alloc (.cells #[.int .i64 0] 3)).alloc (.cells #[.pointer p] 22)
  have y5 := Boxed.new (((((w.alloc (.cells #[.pointer p] 22)).alloc (.cells #[.slice X m d] 24)).alloc (.cells #[.int .i64 0] 3)).alloc (.cells #[.bool false] 4)).alloc (.cells #[.int .i64 0] 3)) 22 (.pointer p)
  simp only [World.size_alloc] at y2 y3 y5
  have hb2 : Below w.heap.size w ((((((w.alloc (.cells #[.pointer p] 22)).alloc (.cells #[.slice X m d] 24)).alloc (.cells #[.int .i64 0] 3)).alloc (.cells #[.bool false] 4)).alloc (.cells #[.int .i64 0] 3)).alloc (.cells #[.pointer p] 22)) := (HB0.out.alloc HB0.out.size _).alloc (by have := HB0.out.size; simp at this ⊢; omega) _
  have hsz2 : ((((((w.alloc (.cells #[.pointer p] 22)).alloc (.cells #[.slice X m d] 24)).alloc (.cells #[.int .i64 0] 3)).alloc (.cells #[.bool false] 4)).alloc (.cells #[.int .i64 0] 3)).alloc (.cells #[.pointer p] 22)).heap.size = w.heap.size + 1 + 1 + 1 + 1 + 1 + 1 := by simp
  generalize hX1 : (((((w.alloc (.cells #[.pointer p] 22)).alloc (.cells #[.slice X m d] 24)).alloc (.cells #[.int .i64 0] 3)).alloc (.cells #[.bool false] 4)).alloc (.cells #[.int .i64 0] 3)).alloc (.cells #[.pointer p] 22) = X1 at *
  clear hX1
  have hfl := gnoO_lt (B := w.heap.size + 1 + 1 + 1 + 1 + 1) (n := X1.heap.size) H.out (by omega) (by omega)
  refine range_priv rfl (by omega) (gf := 48) (lb := #[.pointer (some ⟨w.heap.size + 1 + 1 + 1 + 1 + 1, 0, none⟩)]) rfl trivial (enters_of Tryd.func48 (by kernel_rfl) rfl)
    (gall_none p (w.heap.size + 1 + 1 + 1 + 1 + 1) X1 (H.out.below hb2) y5 (gnoO (w.heap.size + 1 + 1 + 1 + 1 + 1) p) (fun k hk => hk))
    (Nat.le_refl _) (fun k hk => ⟨hfl k hk, rfl⟩) (fun _ => rfl)
    (fun pre f W => (Boxed W (w.heap.size + 1 + 1) 3 (.int .i64 0) ∧ Boxed W (w.heap.size + 1 + 1 + 1) 4 (.bool false)) ∧ Below w.heap.size w W)
    (fun _ _ _ _ => False)
    (AbP.and (AbP.and (AbP.boxed (fun (_ : List (Nat × List UInt8)) => .int .i64 0) (by omega)) (AbP.boxed (fun _ => .bool false) (by omega))) (AbP.below (by omega) (Nat.le_refl _)))
    (fun _ => AbP.none _)
    ⟨⟨y2, y3⟩, hb2⟩
    (fun x => { tmps := #[.pointer p, .slice X m d, .pointer (some ⟨w.heap.size, 0, none⟩), .pointer (some ⟨w.heap.size + 1, 0, none⟩), .pointer (some ⟨w.heap.size + 1 + 1, 0, none⟩), .pointer (some ⟨w.heap.size + 1 + 1 + 1, 0, none⟩), .pointer (some ⟨w.heap.size + 1 + 1 + 1 + 1, 0, none⟩), .int .i64 x.1, .slice X m d, .int .i64 m, .bool false, .pointer p, .int .i64 0, .pointer p, .func (.func 48) #[] #[.pointer (some ⟨w.heap.size + 1 + 1 + 1 + 1 + 1, 0, none⟩)], .int .i64 x.1, .string ⟨x.2.toArray⟩, undef, undef, undef, undef, undef, undef, undef, undef, undef, undef], defers := [] }) ?assign ?body ?done ?stop
  case assign =>
    intro l x W K hK
    simp only [encG]
    rw [put_two]
    gi_wp2
    exact hK
  case body =>
    rintro l pre x f W hf hz hI hlen hel
    exact hel.elim
  case done =>
    rintro D ys fr W hD rfl ⟨⟨b2, b3⟩, hBW⟩ hK
    have d2 := b2.cell
    have d3 := b3.cell
    have g2 := b2.frozen
    have g3 := b3.frozen
    have B2 := Lib.hid b2
    have B3 := Lib.hid b3
    have HBW2 := Lib.hid hBW
    clear b2 b3 hBW hb2 y2 y3 y5
    go_wp2
    have e2 : Boxed ((W.setCell ⟨w.heap.size + 1 + 1, 0, none⟩ (.int .i64 0)).setCell ⟨w.heap.size + 1 + 1 + 1, 0, none⟩ (.bool false)) (w.heap.size + 1 + 1) 3 (.int .i64 0) := (B2.out.set _).other (by omega) _
    have e3 : Boxed ((W.setCell ⟨w.heap.size + 1 + 1, 0, none⟩ (.int .i64 0)).setCell ⟨w.heap.size + 1 + 1 + 1, 0, none⟩ (.bool false)) (w.heap.size + 1 + 1 + 1) 4 (.bool false) := (B3.out.other (by omega) _).set _
    have hK' := (KeepsOthers.setCell (W.setCell ⟨w.heap.size + 1 + 1, 0, none⟩ (.int .i64 0)) ⟨w.heap.size + 1 + 1 + 1, 0, none⟩ (.bool false)).same D _ ((KeepsOthers.setCell W ⟨w.heap.size + 1 + 1, 0, none⟩ (.int .i64 0)).same D _ hK rfl) rfl
    refine ⟨by simp, .inl ⟨_, _, rfl, run_takeDeferred hK', ?_⟩⟩
    have hc2 := cell_kept e2.cell (grownBy_putObj' _ D (.deferred none)) (fun r e => by cases e; exact ⟨_, hK', rfl⟩)
    have hc3 := cell_kept e3.cell (grownBy_putObj' _ D (.deferred none)) (fun r e => by cases e; exact ⟨_, hK', rfl⟩)
    refine ⟨.tuple #[.int .i64 0, .bool false], ?_, rfl, ((HBW2.out.setCell (p := ⟨w.heap.size + 1 + 1, 0, none⟩) (by simp; omega) _).setCell (p := ⟨w.heap.size + 1 + 1 + 1, 0, none⟩) (by simp; omega) _).trans (belowK_b (w := w) (Nat.le_refl _) _ D _ _ (by omega) hK' rfl rfl)⟩
    simp [results, Tryd.f20, go_sem, hc2, hc3]
  case stop =>
    rintro D c pre f W _ h _ _
    exact h.elim
end Go.Proofs.YtcpihlmemjkloaaDoor
