/-
  Walks: Back of a buffer that nobody made; told, Widths, Text, Find of it.
-/
import Derived.Test.YtjdfajgjejpfeaaGreatDoorGpNobo
import Derived.Test.YtjdfajgjejpfeaaGreatDoorRegT
import Derived.Outline
namespace Go.Proofs.YtjdfajgjejpfeaaGreatDoor
open Go.RowKit Go.Shelf Go.Sort
attribute [local go_sem] Oper.semAt_some
set_option linter.unusedVariables false
set_option linter.unusedSimpArgs false

set_option maxHeartbeats 400000 in
theorem gback_any (p : Option Addr) (w : World) : Calls Tryz.prog 31 #[.pointer p] w fun e w' =>
    e = .returned (.func (.func 58) #[] #[.pointer (some ⟨w.heap.size, 0, none⟩)]) ∧ w' = w.alloc (.cells #[.pointer p] 23) := by
  go_enter Tryz.func31, Tryz.ntmps31
  go_wp2
  go_ret
  exact ⟨rfl, rfl⟩
set_option maxHeartbeats 400000 in
theorem sback_any (X : Option Addr) (n c : Nat) (w : World) : Calls Tryz.prog 59 #[.slice X n c] w fun e w' =>
    e = .returned (.func (.func 69) #[] #[.pointer (some ⟨w.heap.size, 0, none⟩)]) ∧ w' = w.alloc (.cells #[.slice X n c] 27) := by
  go_enter Tryz.func59, Tryz.ntmps59
  go_wp2
  go_ret
  exact ⟨rfl, rfl⟩

set_option maxRecDepth 100000 in
set_option maxHeartbeats 4000000 in
/-- told over an iterator that yields nothing -/
theorem told_none (gf : Nat) (bd : Nat) (most : Int) (w : World) (f0 : Nat → Prop) (hbd : bd < w.heap.size) (hf : ∀ k, f0 k → k < w.heap.size)
    (hnf : ∀ w, Sem.run Tryz.prog (binOp .eql 68 (.func (.func gf) #[] #[.pointer (some ⟨bd, 0, none⟩)]) .nilFunc) w = .ok (.bool false) w)
    (eg : ∀ args w, (callFunc gf args).run Tryz.prog w = .ok (.enter gf args) w)
    (hseq : ∀ W, Below w.heap.size w W → SeqP Fence.wide 8 Tryz.prog gf #[.pointer (some ⟨bd, 0, none⟩)] encG f0 (fun _ => False) (fun xs => xs = []) (fun _ => False) 0 W) :
    Calls Tryz.prog 29 #[.func (.func gf) #[] #[.pointer (some ⟨bd, 0, none⟩)], .int .i64 most] w fun e w' => e = .returned (.tuple #[.slice none 0 0, .slice none 0 0, .bool true]) ∧ Below w.heap.size w w' := by
  have HSEQ := Lib.hid hseq
  have HF := Lib.hid hf
  have HEG := Lib.hid eg
  clear hseq hf eg
  refine (callsIn_wide (n := 9)).1 ?_
  refine callsIn_of_wp_marks Tryz.func29 rfl trivial ?_ rfl
  simp only [Tryz.ntmps29, List.size_toArray, List.length_cons, List.length_nil, Nat.reduceAdd, Nat.reduceSub, Array.replicate_succ, Array.replicate_zero, List.push_toArray, List.append_toArray, List.nil_append, List.cons_append]
  refine wpIn_wide.2 ?_
  go_wp2_with (fail)
  refine (wpIn_wide (n := 9)).1 ?_
  have y0 := (Boxed.new (w.alloc (.cells #[.int .i64 most] 3)) 64 (.slice none 0 0)).alloc (.cells #[.slice none 0 0] 27)
  have y1 := Boxed.new ((w.alloc (.cells #[.int .i64 most] 3)).alloc (.cells #[.slice none 0 0] 64)) 27 (.slice none 0 0)
  simp only [World.size_alloc] at y0 y1
  have hb0 : Below w.heap.size w (((w.alloc (.cells #[.int .i64 most] 3)).alloc (.cells #[.slice none 0 0] 64)).alloc (.cells #[.slice none 0 0] 27)) := (((Below.refl _ w).alloc (Nat.le_refl _) _).alloc (by simp) _).alloc (by simp; omega) _
  have hsz : (((w.alloc (.cells #[.int .i64 most] 3)).alloc (.cells #[.slice none 0 0] 64)).alloc (.cells #[.slice none 0 0] 27)).heap.size = w.heap.size + 3 := by simp
  generalize hX1 : ((w.alloc (.cells #[.int .i64 most] 3)).alloc (.cells #[.slice none 0 0] 64)).alloc (.cells #[.slice none 0 0] 27) = X1 at *
  clear hX1
  refine range_priv rfl (by omega) (gf := gf) (lb := #[.pointer (some ⟨bd, 0, none⟩)]) rfl trivial HEG.out
    (HSEQ.out X1 hb0)
    (Nat.le_refl _) (fun k hk => ⟨by have := HF.out k hk; omega, rfl⟩) (fun _ => rfl)
    (fun pre f W => (Boxed W (w.heap.size + 1) 64 (.slice none 0 0) ∧ Boxed W (w.heap.size + 1 + 1) 27 (.slice none 0 0)) ∧ Below w.heap.size w W)
    (fun _ _ _ _ => False)
    (AbP.and (AbP.and (AbP.boxed (fun (_ : List (Nat × List UInt8)) => .slice none 0 0) (by omega)) (AbP.boxed (fun _ => .slice none 0 0) (by omega))) (AbP.below (by omega) (Nat.le_refl _)))
    (fun _ => AbP.none _)
    ⟨⟨y0, y1⟩, hb0⟩
    (fun x => { tmps := #[.func (.func gf) #[] #[.pointer (some ⟨bd, 0, none⟩)], .int .i64 most, undef, .pointer (some ⟨w.heap.size, 0, none⟩), .slice none 0 0, .slice none 0 0, .bool false, .pointer (some ⟨w.heap.size + 1, 0, none⟩), .pointer (some ⟨w.heap.size + 1 + 1, 0, none⟩), .int .i64 x.1, .string ⟨x.2.toArray⟩, .func (.func gf) #[] #[.pointer (some ⟨bd, 0, none⟩)], .bool false, .func (.func gf) #[] #[.pointer (some ⟨bd, 0, none⟩)], .int .i64 x.1, .string ⟨x.2.toArray⟩, undef, undef, undef, undef, undef, undef, undef, undef, undef, undef, undef, undef, undef, undef], defers := [] }) ?assign ?body ?done ?stop
  case assign =>
    intro l x W K hK
    simp only [encG]
    rw [put_two]
    gi_wp2
    exact hK
  case body =>
    rintro l pre x f W hf hz hI hlen hel
    exact hel.elim
  case done =>
    rintro D ys f W hD rfl ⟨⟨b0, b1⟩, hB⟩ hK
    have c0 := b0.cell
    have c1 := b1.cell
    have HB := Lib.hid hB
    clear b0 b1 hB y0 y1 hb0
    go_wp2
    go_quiet (fail)
    go_wp2
    have hK' : (W.drewN nq).heap[D]? = some (.deferred (some [])) := by rw [World.heap_drewN]; exact hK
    refine ⟨by simp, .inl ⟨_, _, rfl, run_takeDeferred hK', ?_⟩⟩
    have hb1 := HB.out.trans ((gp_drewN W nq).mono HB.out.size)
    refine ⟨.tuple #[.slice none 0 0, .slice none 0 0, .bool true], ?_, rfl, hb1.trans (belowK_b (w := w) (Nat.le_refl _) _ D _ _ (by omega) hK' rfl rfl)⟩
    simp [results, Tryz.f29, go_sem]
  case stop =>
    rintro D c pre f W _ h _ _
    exact h.elim
end Go.Proofs.YtjdfajgjejpfeaaGreatDoor
