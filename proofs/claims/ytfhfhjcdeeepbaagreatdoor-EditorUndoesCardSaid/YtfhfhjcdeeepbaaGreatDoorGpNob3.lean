/-
  Walks: Back's iterator over a buffer that nobody made; Widths, Text, Find of it.
-/
import Derived.Test.YtfhfhjcdeeepbaaGreatDoorGpNob2
namespace Go.Proofs.YtfhfhjcdeeepbaaGreatDoor
open Go.RowKit Go.Shelf Go.Sort
attribute [local go_sem] Oper.semAt_some
set_option linter.unusedVariables false
set_option linter.unusedSimpArgs false

set_option maxRecDepth 100000 in
set_option maxHeartbeats 1000000 in
theorem sback_none (n : Nat) (bd : Nat) (w : World) (hbd : Boxed w bd 38 (.slice none 0 0)) (f0 : Nat → Prop) (hf : f0 bd) :
    SeqP Fence.wide (n + 1) Tryz.prog 122 #[.pointer (some ⟨bd, 0, none⟩)] encG f0 (fun _ => False) (fun xs => xs = []) (fun _ => False) 0 w := by
  intro l J Jx W hsz hf0 hJ hJx hY h0
  have hbdW : Boxed W bd 38 (.slice none 0 0) := (hf0 bd hf).trans hbd
  have hcd := hbdW.cell
  have H0 := Lib.hid h0
  clear hJ hJx hY h0 hf0 hbd hbdW hf
  refine callsIn_of_wp Tryz.func122 rfl trivial ?_ rfl
  simp only [Tryz.ntmps122, List.size_toArray, List.length_cons, List.length_nil, Nat.reduceAdd, Nat.reduceSub, Array.replicate_succ, Array.replicate_zero, List.push_toArray, List.append_toArray, List.nil_append, List.cons_append]
  gi_wp2
  gi_loopw [3] (fun v wr => v = .int .i64 (-1) ∧ J [] f0 wr) (fun v _ => 0)
  case atStart => exact ⟨rfl, H0.out⟩
  case round =>
    obtain ⟨rfl, hj⟩ := hrel
    gi_wp2
    go_end0
    first | exact ⟨⟨_, rfl⟩, .inl ⟨_, f0, rfl, hj⟩⟩ | exact ⟨⟨_, rfl⟩, .inl ⟨f0, hj⟩⟩

set_option maxRecDepth 100000 in
set_option maxHeartbeats 4000000 in
theorem gback_none (p : Option Addr) (bd : Nat) (w : World) (hp : GpNo w p) (hbd : Boxed w bd 43 (.pointer p)) (f0 : Nat → Prop) (hf : ∀ k, gnoO bd p k → f0 k) (hfs : ∀ k, f0 k → k < w.heap.size) :
    SeqP Fence.wide 8 Tryz.prog 103 #[.pointer (some ⟨bd, 0, none⟩)] encG f0 (fun _ => False) (fun xs => xs = []) (fun _ => False) 0 w := by
  intro l J Jx W hsz hf0 hJ hJx hY h0
  have hbdW : Boxed W bd 43 (.pointer p) := (hf0 bd (hf _ (.inl rfl))).trans hbd
  have hpW : GpNo W p := hp.same (fun k hk => hf0 k (hf _ (.inr hk)))
  have hbb : Below W.heap.size W (W.alloc (.cells #[.func (.yield l) #[] #[]] 94)) := (Below.refl _ W).alloc (Nat.le_refl _) _
  have hcd := cell_regrown ((hbdW.alloc (.cells #[.func (.yield l) #[] #[]] 94)).cell)
  have HP := Lib.hid (hpW.below hbb)
  have HBB := Lib.hid hbb
  have H0 := Lib.hid h0
  have HJ := Lib.hid hJ
  have HFS := Lib.hid (fun k hk => Nat.lt_of_lt_of_le (hfs k hk) hsz)
  clear hJ hJx hY h0 hf0 hp hbd hpW hbdW hf hfs hbb
  have Q1 := Lib.hid (fun d os => Calls.regrown_of ((gline_not (HP.out.below (below_regrown _ d os))).mono fun e w' ⟨a, b⟩ => ⟨a, b ▸ Below.refl _ _⟩))
  have Q2 := Lib.hid (fun d os => Calls.regrown_of ((gcursor_not (HP.out.below (below_regrown _ d os))).mono fun e w' ⟨a, b⟩ => ⟨a, b ▸ Below.refl _ _⟩))
  refine callsIn_of_wp_marks Tryz.func103 rfl trivial ?_ rfl
  simp only [Tryz.ntmps103, List.size_toArray, List.length_cons, List.length_nil, Nat.reduceAdd, Nat.reduceSub, Array.replicate_succ, Array.replicate_zero, List.push_toArray, List.append_toArray, List.nil_append, List.cons_append]
  refine wpIn_wide.2 ?_
  go_wp2_with (fail)
  refine wp_region_below_tail 5 (by kernel_rfl) (by kernel_rfl) ?_
  simp only [List.take_succ_cons, List.take_zero, List.drop_succ_cons, List.drop_zero]
  repeat (first
    | go_big_quiet_step (first | exact Q1.out _ _ | exact Q2.out _ _)
    | quiet_step (first | exact Q1.out _ _ | exact Q2.out _ _))
  refine wpQuiet_nil ?_
  intro _ hw'
  obtain ⟨⟨dq, osq⟩, hw''⟩ := hw'
  subst hw''
  have HBQ := Lib.hid (HBB.out.trans ((below_regrown (W.alloc (.cells #[.func (.yield l) #[] #[]] 94)) dq osq).mono HBB.out.size))
  clear Q1 Q2 hcd
  generalize grow (redrawn (W.alloc (.cells #[.func (.yield l) #[] #[]] 94)) dq) osq = w2 at *
  go_wp2_with (go_at_call 104; refine (sback_any none 0 0 w2).mono ?_; rintro e w' ⟨rfl, rfl⟩)
  refine (wpIn_wide (n := 8)).1 ?_
  have y0 := Boxed.new w2 38 (.slice none 0 0)
  have hb2 : Below W.heap.size W (w2.alloc (.cells #[.slice none 0 0] 38)) := HBQ.out.alloc HBQ.out.size _
  have hsz2 : (w2.alloc (.cells #[.slice none 0 0] 38)).heap.size = w2.heap.size + 1 := by simp
  have hW2 := HBQ.out.size
  obtain ⟨z, hz⟩ : ∃ z, z = w2.heap.size := ⟨_, rfl⟩
  rw [← hz] at y0 hsz2 hW2 ⊢
  generalize hX1 : w2.alloc (.cells #[.slice none 0 0] 38) = X1 at *
  have hJ1 : J [] (fun k => f0 k ∨ k = z) X1 := HJ.out [] f0 _ W X1 H0.out (Turn.of_below hb2) (fun k hk => hk.imp id (fun e => ⟨by omega, by omega⟩))
  clear hX1 hz
  refine range_priv rfl (by omega) (gf := 122) (lb := #[.pointer (some ⟨z, 0, none⟩)]) rfl trivial (enters_of Tryz.func122 (by kernel_rfl) rfl)
    (sback_none 6 z X1 y0 (fun k => f0 k ∨ k = z) (.inr rfl))
    (Nat.le_refl _) (fun k hk => ⟨by
      rcases hk with hk | hk
      · have := HFS.out k hk; omega
      · omega, rfl⟩) (fun _ => rfl)
    (fun pre f V => J [] f V)
    (fun _ _ _ _ => False)
    (fun pre f f' A B h ht hf => HJ.out [] f f' A B h (ht.mono (by omega)) hf)
    (fun _ => AbP.none _)
    hJ1
    (fun x => { tmps := #[.func (.yield l) #[] #[], .pointer (some ⟨bd, 0, none⟩), .pointer (some ⟨W.heap.size, 0, none⟩), .int .i64 x.1, .string ⟨x.2.toArray⟩, .pointer p, .slice none 0 0, .pointer p, .int .i64 0, .slice none 0 0, .func (.func 122) #[] #[.pointer (some ⟨z, 0, none⟩)], .int .i64 x.1, .string ⟨x.2.toArray⟩, undef, undef, undef, undef, undef], defers := [] }) ?assign ?body ?done ?stop
  case assign =>
    intro l x W K hK
    simp only [encG]
    rw [put_two]
    gi_wp2
    exact hK
  case body =>
    rintro l pre x f W hf hz hI hlen hel
    exact hel.elim
  case done =>
    rintro D ys f V hD rfl hI hK
    have hfin := HJ.out.put (.deferred none) hI (by omega) hK rfl
    have HFN := Lib.hid hfin
    clear hfin hI y0 hb2 hJ1
    gi_wp2
    refine ⟨by simp, .inl ⟨_, _, rfl, run_takeDeferred hK, ?_⟩⟩
    exact ⟨_, results_none rfl _ _ _, ⟨_, rfl⟩, .inl ⟨[], f, rfl, HFN.out⟩⟩
  case stop =>
    rintro D c pre f V _ h _ _
    exact h.elim

end Go.Proofs.YtfhfhjcdeeepbaaGreatDoor
