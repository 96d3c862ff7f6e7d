/-
  Walks: a buffer that nobody made.
-/
import Derived.Test.YtjdfajgjejpfeaaGreatDoorGpFind
namespace Go.Proofs.YtjdfajgjejpfeaaGreatDoor
open Go.RowKit Go.Shelf
attribute [local go_sem] Oper.semAt_some
set_option linter.unusedVariables false
set_option linter.unusedSimpArgs false

theorem GpNo.same {w w' : World} {p : Option Addr} (h : GpNo w p) (hs : ∀ k, blk p = some k → w'.heap[k]? = w.heap[k]?) : GpNo w' p := by
  rcases h with h | ⟨g, rfl, hc⟩
  · exact .inl h
  · exact .inr ⟨g, rfl, (World.cell?_of_block (w := w) (a := ⟨g, 0, none⟩) (hs g rfl)).trans hc⟩
theorem GpNo.lt {w : World} {p : Option Addr} (h : GpNo w p) : ∀ k, blk p = some k → k < w.heap.size := by
  intro k hk
  rcases h with rfl | ⟨g, rfl, hc⟩
  · cases hk
  · have : g = k := by simpa [blk] using hk
    subst this
    exact World.block_lt_of_cell? w _ hc

set_option maxHeartbeats 1000000 in
theorem gcursor_not {w : World} {p : Option Addr} (h : GpNo w p) : Calls Tryz.prog 15 #[.pointer p] w fun e w' => e = .returned (.int .i64 0) ∧ w = w' := by
  have H := Lib.hid h
  clear h
  go_enter Tryz.func15, Tryz.ntmps15
  go_wp2_with (go_at_call 40; refine (gmade_not H.out).mono ?_; rintro e w' ⟨rfl, rfl⟩)
  go_ret
  exact ⟨rfl, rfl⟩
set_option maxHeartbeats 1000000 in
theorem glen_not {w : World} {p : Option Addr} (h : GpNo w p) : Calls Tryz.prog 17 #[.pointer p] w fun e w' => e = .returned (.int .i64 0) ∧ w = w' := by
  have H := Lib.hid h
  clear h
  go_enter Tryz.func17, Tryz.ntmps17
  go_wp2_with (go_at_call 40; refine (gmade_not H.out).mono ?_; rintro e w' ⟨rfl, rfl⟩)
  go_ret
  exact ⟨rfl, rfl⟩
set_option maxHeartbeats 1000000 in
theorem groom_not {w : World} {p : Option Addr} (h : GpNo w p) : Calls Tryz.prog 39 #[.pointer p] w fun e w' => e = .returned (.int .i64 0) ∧ w = w' := by
  have H := Lib.hid h
  clear h
  go_enter Tryz.func39, Tryz.ntmps39
  go_wp2_with (go_at_call 40; refine (gmade_not H.out).mono ?_; rintro e w' ⟨rfl, rfl⟩)
  go_ret
  exact ⟨rfl, rfl⟩
set_option maxHeartbeats 1000000 in
theorem gline_not {w : World} {p : Option Addr} (h : GpNo w p) : Calls Tryz.prog 35 #[.pointer p] w fun e w' => e = .returned (.slice none 0 0) ∧ w = w' := by
  have H := Lib.hid h
  clear h
  go_enter Tryz.func35, Tryz.ntmps35
  go_wp2_with (go_at_call 40; refine (gmade_not H.out).mono ?_; rintro e w' ⟨rfl, rfl⟩)
  go_ret
  exact ⟨rfl, rfl⟩
set_option maxHeartbeats 1000000 in
theorem gat_not {w : World} {p : Option Addr} (h : GpNo w p) (a : Int) : Calls Tryz.prog 27 #[.pointer p, .int .i64 a] w fun e w' => e = .returned (.tuple #[.string ⟨#[]⟩, .bool false]) ∧ w = w' := by
  have H := Lib.hid h
  clear h
  go_enter Tryz.func27, Tryz.ntmps27
  go_wp2_with (go_at_call 40; refine (gmade_not H.out).mono ?_; rintro e w' ⟨rfl, rfl⟩)
  go_ret2
  exact ⟨rfl, rfl⟩
set_option maxHeartbeats 1000000 in
theorem ginsert_not {w : World} {p : Option Addr} (h : GpNo w p) (v : Value) : Calls Tryz.prog 11 #[.pointer p, v] w fun e w' => e = .returned (.int .i64 4) ∧ w = w' := by
  have H := Lib.hid h
  clear h
  go_enter Tryz.func11, Tryz.ntmps11
  go_wp2_with (go_at_call 40; refine (gmade_not H.out).mono ?_; rintro e w' ⟨rfl, rfl⟩)
  go_ret
  exact ⟨rfl, rfl⟩
set_option maxHeartbeats 1000000 in
theorem greplace_not {w : World} {p : Option Addr} (h : GpNo w p) (a : Int) (v : Value) : Calls Tryz.prog 22 #[.pointer p, .int .i64 a, v] w fun e w' => e = .returned (.int .i64 4) ∧ w = w' := by
  have H := Lib.hid h
  clear h
  go_enter Tryz.func22, Tryz.ntmps22
  go_wp2_with (go_at_call 40; refine (gmade_not H.out).mono ?_; rintro e w' ⟨rfl, rfl⟩)
  go_ret
  exact ⟨rfl, rfl⟩
set_option maxHeartbeats 1000000 in
theorem gdelete_not {w : World} {p : Option Addr} (h : GpNo w p) (a b : Int) : Calls Tryz.prog 14 #[.pointer p, .int .i64 a, .int .i64 b] w fun e w' => e = .returned (.slice none 0 0) ∧ w = w' := by
  have H := Lib.hid h
  clear h
  go_enter Tryz.func14, Tryz.ntmps14
  go_wp2_with (go_at_call 40; refine (gmade_not H.out).mono ?_; rintro e w' ⟨rfl, rfl⟩)
  go_ret
  exact ⟨rfl, rfl⟩
set_option maxHeartbeats 1000000 in
theorem gmove_not {w : World} {p : Option Addr} (h : GpNo w p) (a : Int) : Calls Tryz.prog 12 #[.pointer p, .int .i64 a] w fun e w' => e = .returned (.int .i64 0) ∧ w = w' := by
  have H := Lib.hid h
  clear h
  go_enter Tryz.func12, Tryz.ntmps12
  go_wp2_with (go_at_call 40; refine (gmade_not H.out).mono ?_; rintro e w' ⟨rfl, rfl⟩)
  go_ret
  exact ⟨rfl, rfl⟩
set_option maxHeartbeats 1000000 in
theorem gfork_not {w : World} {p : Option Addr} (h : GpNo w p) : Calls Tryz.prog 16 #[.pointer p] w fun e w' => e = .returned (.pointer none) ∧ w = w' := by
  have H := Lib.hid h
  clear h
  go_enter Tryz.func16, Tryz.ntmps16
  go_wp2_with (go_at_call 40; refine (gmade_not H.out).mono ?_; rintro e w' ⟨rfl, rfl⟩)
  go_ret
  exact ⟨rfl, rfl⟩

/-- what an iterator over a buffer that nobody made calls its own -/
def gnoO (bd : Nat) (p : Option Addr) : Nat → Prop := fun k => k = bd ∨ blk p = some k
set_option maxRecDepth 100000 in
set_option maxHeartbeats 1000000 in
theorem gall_none (p : Option Addr) (bd : Nat) (w : World) (hp : GpNo w p) (hbd : Boxed w bd 23 (.pointer p)) (f0 : Nat → Prop) (hf : ∀ k, gnoO bd p k → f0 k) :
    SeqP Fence.wide 8 Tryz.prog 57 #[.pointer (some ⟨bd, 0, none⟩)] encG f0 (fun _ => False) (fun xs => xs = []) (fun _ => False) 0 w := by
  intro l J Jx W hsz hf0 hJ hJx hY h0
  have hbdW : Boxed W bd 23 (.pointer p) := (hf0 bd (hf _ (.inl rfl))).trans hbd
  have hpW : GpNo W p := hp.same (fun k hk => hf0 k (hf _ (.inr hk)))
  have hcd := hbdW.cell
  have H0 := Lib.hid h0
  have HP := Lib.hid hpW
  clear hJ hJx hY h0 hf0 hp hbd hpW hbdW hf
  refine callsIn_of_wp Tryz.func57 rfl trivial ?_ rfl
  simp only [Tryz.ntmps57, List.size_toArray, List.length_cons, List.length_nil, Nat.reduceAdd, Nat.reduceSub, Array.replicate_succ, Array.replicate_zero, List.push_toArray, List.append_toArray, List.nil_append, List.cons_append]
  gi_wp2_with (refine ⟨trivial, ?_⟩; gi_at_call 35; refine (callsIn_wide.2 (gline_not HP.out)).mono ?_; rintro e w' ⟨rfl, rfl⟩)
  gi_loopw [8] (fun v wr => v = .int .i64 (0 : Nat) ∧ J [] f0 wr) (fun v _ => 0)
  case atStart => exact ⟨rfl, H0.out⟩
  case round =>
    obtain ⟨rfl, hj⟩ := hrel
    gi_wp2
    go_end0
    first | exact ⟨⟨_, rfl⟩, .inl ⟨_, f0, rfl, hj⟩⟩ | exact ⟨⟨_, rfl⟩, .inl ⟨f0, hj⟩⟩
end Go.Proofs.YtjdfajgjejpfeaaGreatDoor
