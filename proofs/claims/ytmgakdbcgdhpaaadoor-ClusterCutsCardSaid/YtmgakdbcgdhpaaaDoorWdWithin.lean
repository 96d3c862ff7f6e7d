/-
  Walks: width.within, over whatever iterator of ranges.
-/
import Derived.Test.YtmgakdbcgdhpaaaDoorWdIter
import Derived.RangeFuncWrites
import Derived.Outline
namespace Go.Proofs.YtmgakdbcgdhpaaaDoor
open Go.RowKit Go.Shelf
attribute [local go_sem] Oper.semAt_some
set_option linter.unusedVariables false

def InA (T : List (Int × Int)) (r : Int) (b : Nat) (pre : List (Int × Int)) (W : World) : Prop := (∀ y ∈ pre, y.2 < r) ∧ W.cell? ⟨b, 0, none⟩ = some (.int .i32 r) ∧ W.cell? ⟨b + 1, 0, none⟩ = some (.bool false) ∧ W.frozen? ⟨b + 1, 0, none⟩ = false
def OutA (T : List (Int × Int)) (r : Int) (b : Nat) (c : Code) (pre : List (Int × Int)) (W : World) : Prop := c = .ret ∧ ∃ v, (pre <+: T → v = wit T r) ∧ W.cell? ⟨b + 1, 0, none⟩ = some (.bool v)
theorem out_wit {T pre : List (Int × Int)} {x : Int × Int} {r : Int} {v : Bool} (hp : ∀ y ∈ pre, y.2 < r) (hx : r ≤ x.2) (hv : v = decide (x.1 ≤ r)) (h : pre ++ [x] <+: T) : v = wit T r := by
  obtain ⟨t, rfl⟩ := h
  rw [List.append_assoc, wit_append _ _ _ (fun y hy => by have := hp y hy; omega)]
  simp only [List.cons_append, wit]
  rw [if_pos hx, hv]

set_option maxRecDepth 100000 in
set_option maxHeartbeats 2000000 in
theorem within_any (gf : Nat) (T : List (Int × Int)) (r : Int) (w : World) (hen : ∀ (args : Array Value) (w : World), Sem.run Tryd.prog (callFunc gf args) w = Result.ok (Next.enter gf args) w)
    (hst : ∀ w', Below w.heap.size w w' → SeqStopsK Fence.wide 4 Tryd.prog gf #[] encT (Below w.heap.size) (fun ys => ys = T) (fun pre => pre <+: T) T.length w') :
    Calls Tryd.prog 51 #[.int .i32 r, .func (.func gf) #[] #[]] w fun e w' => e = .returned (.bool (wit T r)) ∧ Below w.heap.size w w' := by
  generalize hv0 : wit T r = v0
  have HV0 := Lib.hid hv0
  clear hv0
  refine (callsIn_wide (n := 5)).1 ?_
  refine callsIn_of_wp_marks Tryd.func51 rfl trivial ?_ rfl
  simp only [Tryd.ntmps51, List.size_toArray, List.length_cons, List.length_nil, Nat.reduceAdd, Nat.reduceSub, Array.replicate_succ, Array.replicate_zero, List.push_toArray, List.append_toArray, List.nil_append, List.cons_append]
  refine wpIn_wide.2 ?_
  go_wp2
  refine (wpIn_wide (n := 5)).1 ?_
  have c0 := (Boxed.new w 21 (.int .i32 r)).alloc (.cells #[.bool false] 4)
  have c1 := Boxed.new (w.alloc (.cells #[.int .i32 r] 21)) 4 (.bool false)
  rw [World.size_alloc] at c1
  have hB0 : Below w.heap.size w ((w.alloc (.cells #[.int .i32 r] 21)).alloc (.cells #[.bool false] 4)) := ((Below.refl _ w).alloc (Nat.le_refl _) _).alloc (by simp) _
  have hc := hst _ hB0
  refine wpIn_rangeFunc_ownG rfl (by omega) (gf := gf) (lb := #[]) rfl trivial hen hc belowK_t (belowK_b (by simp; omega)) (Below.refl _ _) (fun _ => rfl)
    (fun pre W => InA T r w.heap.size pre W ∧ Below w.heap.size w W)
    (fun c pre W => OutA T r w.heap.size c pre W ∧ Below w.heap.size w W)
    (OwnFrom.and (Own.from (fun s A B row hs hg hr => ⟨hs.1, cell_kept hs.2.1 hg hr, cell_kept hs.2.2.1 hg hr, (frozen_kept hs.2.2.1 hg hr).trans hs.2.2.2⟩) _) (ownFrom_below (Nat.le_refl _) (by simp; omega)))
    (fun c => OwnFrom.and (Own.from (fun s A B row hs hg hr => ⟨hs.1, hs.2.elim fun v h => ⟨v, h.1, cell_kept h.2 hg hr⟩⟩) _) (ownFrom_below (Nat.le_refl _) (by simp; omega)))
    ⟨⟨by simp, c0.cell, c1.cell, c1.frozen⟩, hB0⟩
    (fun x => { tmps := #[.int .i32 r, .func (.func gf) #[] #[], .pointer (some ⟨w.heap.size, 0, none⟩), undef, .pointer (some ⟨w.heap.size + 1, 0, none⟩), .int .i32 x.1, .int .i32 x.2, .func (.func gf) #[] #[], .int .i32 x.1, .int .i32 x.2, undef, undef, undef, undef, undef, undef], defers := [] }) ?assign ?body ?done ?stop
  case assign =>
    intro l x W K hK
    simp only [encT]
    rw [put_two]
    gi_wp2
    exact hK
  case body =>
    rintro l pre x W ⟨⟨hp, hcw, hcr, hfr⟩, hB⟩ _
    have HP := Lib.hid hp
    clear hp
    by_cases hx : r ≤ x.2
    · obtain ⟨v, hv⟩ : ∃ v, v = decide (x.1 ≤ r) := ⟨_, rfl⟩
      have HV := Lib.hid hv
      rw [eq_comm] at hv
      gi_wp2
      refine ⟨(KeepsOthers.setCell _ _ _).from _, ⟨rfl, v, fun h => out_wit HP.out hx HV.out h, ?_⟩, hB.setCell (p := ⟨w.heap.size + 1, 0, none⟩) (by simp) _⟩
      exact World.cell?_setCell_same' _ _ _ (by rw [hcr]; rfl)
    · have HX := Lib.hid hx
      gi_wp2
      exact ⟨(KeepsOthers.refl _).from _, Below.refl _ _, ⟨fun y hy => (List.mem_append.1 hy).elim (HP.out y) (fun e => by simp at e; subst e; have := HX.out; omega), hcw, hcr, hfr⟩, hB⟩
  case done =>
    rintro D ys W hD rfl ⟨⟨hne, _, hcr, hfr⟩, hB⟩ hK
    have hw0 := wit_none ys r (fun y hy => by have := hne y hy; omega)
    obtain rfl : false = v0 := hw0.symm.trans HV0.out
    clear hne hw0
    go_wp2
    have hK' := (KeepsOthers.setCell W ⟨w.heap.size + 1, 0, none⟩ (.bool false)).same D _ hK rfl
    refine ⟨by simp, .inl ⟨_, _, rfl, run_takeDeferred hK', ?_⟩⟩
    have hc5 := cell_kept (World.cell?_setCell_same' W ⟨w.heap.size + 1, 0, none⟩ (.bool false) (by rw [hcr]; rfl)) (grownBy_putObj' _ D (.deferred none)) (fun r e => by cases e; exact ⟨_, hK', rfl⟩)
    refine ⟨.bool false, ?_, rfl, (hB.setCell (p := ⟨w.heap.size + 1, 0, none⟩) (by simp) _).trans (belowK_b (w := w) (Nat.le_refl _) _ D _ _ (by simp at hD; omega) hK' rfl rfl)⟩
    simp [results, Tryd.f51, go_sem, hc5]
  case stop =>
    rintro D c pre W hD hpre ⟨⟨rfl, v, hv, hcr⟩, hB⟩ hK
    obtain rfl : v = v0 := (hv hpre).trans HV0.out
    clear hv hpre
    gi_wp2
    refine ⟨by simp, .inl ⟨_, _, rfl, run_takeDeferred hK, ?_⟩⟩
    have hc5 := cell_kept hcr (grownBy_putObj' _ D (.deferred none)) (fun r e => by cases e; exact ⟨_, hK, rfl⟩)
    refine ⟨.bool v, ?_, rfl, hB.trans (belowK_b (w := w) (Nat.le_refl _) W D _ _ (by simp at hD; omega) hK rfl rfl)⟩
    simp [results, Tryd.f51, go_sem, hc5]
end Go.Proofs.YtmgakdbcgdhpaaaDoor
