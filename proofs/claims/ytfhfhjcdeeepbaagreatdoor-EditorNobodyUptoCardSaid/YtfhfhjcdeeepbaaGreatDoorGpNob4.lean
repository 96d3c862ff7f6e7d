/-
  Walks: Widths, Text, Find of a buffer that nobody made.
-/
import Derived.Test.YtfhfhjcdeeepbaaGreatDoorGpNob3
namespace Go.Proofs.YtfhfhjcdeeepbaaGreatDoor
open Go.RowKit Go.Shelf Go.Sort
attribute [local go_sem] Oper.semAt_some
set_option linter.unusedVariables false
set_option linter.unusedSimpArgs false

theorem gnoO_lt {w : World} {p : Option Addr} {B n : Nat} (h : GpNo w p) (hB : B < n) (hw : w.heap.size ≤ n) : ∀ k, gnoO B p k → k < n := fun k hk => by
  rcases hk with rfl | hk
  · exact hB
  · have := h.lt k hk; omega

set_option maxRecDepth 100000 in
set_option maxHeartbeats 2000000 in
theorem gwidths_not {w : World} {p : Option Addr} (h : GpNo w p) :
    Calls Tryz.prog 31 #[.pointer p] w fun e w' => e = .returned (.slice none 0 0) ∧ Below w.heap.size w w' := by
  have H := Lib.hid h
  clear h
  refine (callsIn_wide (n := 9)).1 ?_
  refine callsIn_of_wp_marks Tryz.func31 rfl trivial ?_ rfl
  simp only [Tryz.ntmps31, List.size_toArray, List.length_cons, List.length_nil, Nat.reduceAdd, Nat.reduceSub, Array.replicate_succ, Array.replicate_zero, List.push_toArray, List.append_toArray, List.nil_append, List.cons_append]
  refine wpIn_wide.2 ?_
  go_wp2_with (go_at_call 37; refine (gall_any _ _).mono ?_; rintro e w' ⟨rfl, rfl⟩)
  refine (wpIn_wide (n := 9)).1 ?_
  have y0 := (Boxed.new w 54 (.slice none 0 0)).alloc (.cells #[.pointer p] 43)
  have y1 := Boxed.new (w.alloc (.cells #[.slice none 0 0] 54)) 43 (.pointer p)
  simp only [World.size_alloc] at y1
  have hb0 : Below w.heap.size w ((w.alloc (.cells #[.slice none 0 0] 54)).alloc (.cells #[.pointer p] 43)) := ((Below.refl _ w).alloc (Nat.le_refl _) _).alloc (by simp) _
  have hsz : ((w.alloc (.cells #[.slice none 0 0] 54)).alloc (.cells #[.pointer p] 43)).heap.size = w.heap.size + 2 := by simp
  generalize hX1 : (w.alloc (.cells #[.slice none 0 0] 54)).alloc (.cells #[.pointer p] 43) = X1 at *
  clear hX1
  have hfl := gnoO_lt (B := w.heap.size + 1) (n := X1.heap.size) H.out (by omega) (by omega)
  refine range_priv rfl (by omega) (gf := 64) (lb := #[.pointer (some ⟨w.heap.size + 1, 0, none⟩)]) rfl trivial (enters_of Tryz.func64 (by kernel_rfl) rfl)
    (gall_none p (w.heap.size + 1) X1 (H.out.below hb0) y1 (gnoO (w.heap.size + 1) p) (fun k hk => hk))
    (Nat.le_refl _) (fun k hk => ⟨hfl k hk, rfl⟩) (fun _ => rfl)
    (fun pre f W => Boxed W w.heap.size 54 (.slice none 0 0) ∧ Below w.heap.size w W)
    (fun _ _ _ _ => False)
    (AbP.and (AbP.boxed (fun (_ : List (Nat × List UInt8)) => .slice none 0 0) (by omega)) (AbP.below (by omega) (Nat.le_refl _)))
    (fun _ => AbP.none _)
    ⟨y0, hb0⟩
    (fun x => { tmps := #[.pointer p, undef, .slice none 0 0, .pointer (some ⟨w.heap.size, 0, none⟩), undef, .string ⟨x.2.toArray⟩, .pointer p, .func (.func 64) #[] #[.pointer (some ⟨w.heap.size + 1, 0, none⟩)], .int .i64 x.1, .string ⟨x.2.toArray⟩, undef, undef, undef, undef, undef, undef], defers := [] }) ?assign ?body ?done ?stop
  case assign =>
    intro l x W K hK
    simp only [encG]
    rw [put_two]
    gi_wp2
    exact hK
  case body =>
    rintro l pre x f W hf hz hI hlen hel
    exact hel.elim
  case done =>
    rintro D ys f W hD rfl ⟨b0, hB⟩ hK
    have c0 := b0.cell
    have HB := Lib.hid hB
    clear b0 hB y0 y1 hb0
    go_wp2
    refine ⟨by simp, .inl ⟨_, _, rfl, run_takeDeferred hK, ?_⟩⟩
    exact ⟨_, results_tmp rfl _ _ _, rfl, HB.out.trans (belowK_b (w := w) (Nat.le_refl _) W D _ _ (by omega) hK rfl rfl)⟩
  case stop =>
    rintro D c pre f W _ h _ _
    exact h.elim

set_option maxRecDepth 100000 in
set_option maxHeartbeats 2000000 in
theorem gtext_not {w : World} {p : Option Addr} (h : GpNo w p) :
    Calls Tryz.prog 25 #[.pointer p] w fun e w' => e = .returned (.string ⟨#[]⟩) ∧ Below w.heap.size w w' := by
  have H := Lib.hid h
  clear h
  refine (callsIn_wide (n := 9)).1 ?_
  refine callsIn_of_wp_marks Tryz.func25 rfl trivial ?_ rfl
  simp only [Tryz.ntmps25, List.size_toArray, List.length_cons, List.length_nil, Nat.reduceAdd, Nat.reduceSub, Array.replicate_succ, Array.replicate_zero, List.push_toArray, List.append_toArray, List.nil_append, List.cons_append]
  refine wpIn_wide.2 ?_
  go_wp2_with (go_at_call 37; refine (gall_any _ _).mono ?_; rintro e w' ⟨rfl, rfl⟩)
  refine (wpIn_wide (n := 9)).1 ?_
  have hBd : BldAt ((w.alloc (.cells #[.pointer none, .slice none 0 0] 73)).alloc (.cells #[.pointer p] 43)) w.heap.size none 0 0 [] :=
    ⟨_, .inl rfl, (Blk.new w 73 [.pointer none, .slice none 0 0]).alloc _, OB.none_ _ _⟩
  have y1 := Boxed.new (w.alloc (.cells #[.pointer none, .slice none 0 0] 73)) 43 (.pointer p)
  simp only [World.size_alloc] at y1
  have hb0 : Below w.heap.size w ((w.alloc (.cells #[.pointer none, .slice none 0 0] 73)).alloc (.cells #[.pointer p] 43)) := ((Below.refl _ w).alloc (Nat.le_refl _) _).alloc (by simp) _
  have hsz : ((w.alloc (.cells #[.pointer none, .slice none 0 0] 73)).alloc (.cells #[.pointer p] 43)).heap.size = w.heap.size + 2 := by simp
  generalize hX1 : (w.alloc (.cells #[.pointer none, .slice none 0 0] 73)).alloc (.cells #[.pointer p] 43) = X1 at *
  clear hX1
  have hfl := gnoO_lt (B := w.heap.size + 1) (n := X1.heap.size) H.out (by omega) (by omega)
  refine range_priv rfl (by omega) (gf := 64) (lb := #[.pointer (some ⟨w.heap.size + 1, 0, none⟩)]) rfl trivial (enters_of Tryz.func64 (by kernel_rfl) rfl)
    (gall_none p (w.heap.size + 1) X1 (H.out.below hb0) y1 (gnoO (w.heap.size + 1) p) (fun k hk => hk))
    (Nat.le_refl _) (fun k hk => ⟨hfl k hk, rfl⟩) (fun _ => rfl)
    (fun pre f W => HoldS w.heap.size [] f W ∧ Below w.heap.size w W)
    (fun _ _ _ _ => False)
    (AbP.and (AbP.holdS (fun (_ : List (Nat × List UInt8)) => []) (by omega)) (AbP.below (by omega) (Nat.le_refl _)))
    (fun _ => AbP.none _)
    ⟨⟨none, 0, 0, hBd, fun g hg => by cases hg⟩, hb0⟩
    (fun x => { tmps := #[.pointer p, undef, .string ⟨#[]⟩, .pointer (some ⟨w.heap.size, 0, none⟩), undef, .string ⟨x.2.toArray⟩, .pointer p, .func (.func 64) #[] #[.pointer (some ⟨w.heap.size + 1, 0, none⟩)], .int .i64 x.1, .string ⟨x.2.toArray⟩, undef, undef, undef], defers := [] }) ?assign ?body ?done ?stop
  case assign =>
    intro l x W K hK
    simp only [encG]
    rw [put_two]
    gi_wp2
    exact hK
  case body =>
    rintro l pre x f W hf hz hI hlen hel
    exact hel.elim
  case done =>
    rintro D ys f W hD rfl ⟨⟨A1, n1, c1, hbd, hm⟩, hbW⟩ hK
    have hcall := gstring_any hbd
    have hDne : ∀ W', Chg (fun k => blk A1 = some k) W W' → W'.heap[D]? = some (.deferred (some [])) := fun W' hc => hc.heap hK (fun e => by
      have := hbd.cells D _ (.inr e) hK
      cases this)
    have HD := Lib.hid hDne
    have HCALL := Lib.hid hcall
    have HBW := Lib.hid hbW
    have hA1 : ∀ k, blk A1 = some k → w.heap.size ≤ k := fun k hk => by obtain ⟨_, _, _, ho⟩ := hbd; exact (ho.blk_lt k hk).1
    have HA1 := Lib.hid hA1
    clear hcall hbd hm hBd hb0 hbW hDne hA1 y1
    go_wp2_with (go_at_call 39; refine HCALL.out.mono ?_; rintro e W' ⟨rfl, hc'⟩)
    refine ⟨by simp, .inl ⟨_, _, rfl, run_takeDeferred (HD.out _ hc'), ?_⟩⟩
    exact ⟨_, results_tmp rfl _ _ _, rfl, (HBW.out.trans (hc'.below HBW.out.size HA1.out)).trans (belowK_b (w := w) (Nat.le_refl _) W' D _ _ (by omega) (HD.out _ hc') rfl rfl)⟩
  case stop =>
    rintro D c pre f W _ h _ _
    exact h.elim
end Go.Proofs.YtfhfhjcdeeepbaaGreatDoor
