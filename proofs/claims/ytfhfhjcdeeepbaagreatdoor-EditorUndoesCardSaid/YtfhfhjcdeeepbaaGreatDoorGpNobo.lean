/-
  Walks: a buffer that nobody made.
-/
import Derived.Test.YtfhfhjcdeeepbaaGreatDoorGpFind
namespace Go.Proofs.YtfhfhjcdeeepbaaGreatDoor
open Go.RowKit Go.Shelf
attribute [local go_sem] Oper.semAt_some
set_option linter.unusedVariables false
set_option linter.unusedSimpArgs false

theorem GpNo.same {w w' : World} {p : Option Addr} (h : GpNo w p) (hs : ∀ k, blk p = some k → w'.heap[k]? = w.heap[k]?) : GpNo w' p := by
  rcases h with h | ⟨g, rfl, hc⟩
  · exact .inl h
  · exact .inr ⟨g, rfl, (World.cell?_of_block (w := w) (a := ⟨g, 0, none⟩) (hs g rfl)).trans hc⟩
theorem GpNo.lt {w : World} {p : Option Addr} (h : GpNo w p) : ∀ k, blk p = some k → k < w.heap.size := by
  intro k hk
  rcases h with rfl | ⟨g, rfl, hc⟩
  · cases hk
  · have : g = k := by simpa [blk] using hk
    subst this
    exact World.block_lt_of_cell? w _ hc

set_option maxHeartbeats 1000000 in
theorem gcursor_not {w : World} {p : Option Addr} (h : GpNo w p) : Calls Tryz.prog 26 #[.pointer p] w fun e w' => e = .returned (.int .i64 0) ∧ w = w' := by
  have H := Lib.hid h
  clear h
  go_enter Tryz.func26, Tryz.ntmps26
  go_wp2_with (go_at_call 40; refine (gmade_not H.out).mono ?_; rintro e w' ⟨rfl, rfl⟩)
  go_ret
  exact ⟨rfl, rfl⟩
set_option maxHeartbeats 1000000 in
theorem glen_not {w : World} {p : Option Addr} (h : GpNo w p) : Calls Tryz.prog 32 #[.pointer p] w fun e w' => e = .returned (.int .i64 0) ∧ w = w' := by
  have H := Lib.hid h
  clear h
  go_enter Tryz.func32, Tryz.ntmps32
  go_wp2_with (go_at_call 40; refine (gmade_not H.out).mono ?_; rintro e w' ⟨rfl, rfl⟩)
  go_ret
  exact ⟨rfl, rfl⟩
set_option maxHeartbeats 1000000 in
theorem groom_not {w : World} {p : Option Addr} (h : GpNo w p) : Calls Tryz.prog 68 #[.pointer p] w fun e w' => e = .returned (.int .i64 0) ∧ w = w' := by
  have H := Lib.hid h
  clear h
  go_enter Tryz.func68, Tryz.ntmps68
  go_wp2_with (go_at_call 40; refine (gmade_not H.out).mono ?_; rintro e w' ⟨rfl, rfl⟩)
  go_ret
  exact ⟨rfl, rfl⟩
set_option maxHeartbeats 1000000 in
theorem gline_not {w : World} {p : Option Addr} (h : GpNo w p) : Calls Tryz.prog 30 #[.pointer p] w fun e w' => e = .returned (.slice none 0 0) ∧ w = w' := by
  have H := Lib.hid h
  clear h
  go_enter Tryz.func30, Tryz.ntmps30
  go_wp2_with (go_at_call 40; refine (gmade_not H.out).mono ?_; rintro e w' ⟨rfl, rfl⟩)
  go_ret
  exact ⟨rfl, rfl⟩
set_option maxHeartbeats 1000000 in
theorem gat_not {w : World} {p : Option Addr} (h : GpNo w p) (a : Int) : Calls Tryz.prog 89 #[.pointer p, .int .i64 a] w fun e w' => e = .returned (.tuple #[.string ⟨#[]⟩, .bool false]) ∧ w = w' := by
  have H := Lib.hid h
  clear h
  go_enter Tryz.func89, Tryz.ntmps89
  go_wp2_with (go_at_call 40; refine (gmade_not H.out).mono ?_; rintro e w' ⟨rfl, rfl⟩)
  go_ret2
  exact ⟨rfl, rfl⟩
set_option maxHeartbeats 1000000 in
theorem ginsert_not {w : World} {p : Option Addr} (h : GpNo w p) (v : Value) : Calls Tryz.prog 70 #[.pointer p, v] w fun e w' => e = .returned (.int .i64 4) ∧ w = w' := by
  have H := Lib.hid h
  clear h
  go_enter Tryz.func70, Tryz.ntmps70
  go_wp2_with (go_at_call 40; refine (gmade_not H.out).mono ?_; rintro e w' ⟨rfl, rfl⟩)
  go_ret
  exact ⟨rfl, rfl⟩
set_option maxHeartbeats 1000000 in
theorem greplace_not {w : World} {p : Option Addr} (h : GpNo w p) (a : Int) (v : Value) : Calls Tryz.prog 91 #[.pointer p, .int .i64 a, v] w fun e w' => e = .returned (.int .i64 4) ∧ w = w' := by
  have H := Lib.hid h
  clear h
  go_enter Tryz.func91, Tryz.ntmps91
  go_wp2_with (go_at_call 40; refine (gmade_not H.out).mono ?_; rintro e w' ⟨rfl, rfl⟩)
  go_ret
  exact ⟨rfl, rfl⟩
set_option maxHeartbeats 1000000 in
theorem gdelete_not {w : World} {p : Option Addr} (h : GpNo w p) (a b : Int) : Calls Tryz.prog 99 #[.pointer p, .int .i64 a, .int .i64 b] w fun e w' => e = .returned (.slice none 0 0) ∧ w = w' := by
  have H := Lib.hid h
  clear h
  go_enter Tryz.func99, Tryz.ntmps99
  go_wp2_with (go_at_call 40; refine (gmade_not H.out).mono ?_; rintro e w' ⟨rfl, rfl⟩)
  go_ret
  exact ⟨rfl, rfl⟩
set_option maxHeartbeats 1000000 in
theorem gmove_not {w : World} {p : Option Addr} (h : GpNo w p) (a : Int) : Calls Tryz.prog 74 #[.pointer p, .int .i64 a] w fun e w' => e = .returned (.int .i64 0) ∧ w = w' := by
  have H := Lib.hid h
  clear h
  go_enter Tryz.func74, Tryz.ntmps74
  go_wp2_with (go_at_call 40; refine (gmade_not H.out).mono ?_; rintro e w' ⟨rfl, rfl⟩)
  go_ret
  exact ⟨rfl, rfl⟩
set_option maxHeartbeats 1000000 in
theorem gfork_not {w : World} {p : Option Addr} (h : GpNo w p) : Calls Tryz.prog 62 #[.pointer p] w fun e w' => e = .returned (.pointer none) ∧ w = w' := by
  have H := Lib.hid h
  clear h
  go_enter Tryz.func62, Tryz.ntmps62
  go_wp2_with (go_at_call 40; refine (gmade_not H.out).mono ?_; rintro e w' ⟨rfl, rfl⟩)
  go_ret
  exact ⟨rfl, rfl⟩

/-- what an iterator over a buffer that nobody made calls its own -/
def gnoO (bd : Nat) (p : Option Addr) : Nat → Prop := fun k => k = bd ∨ blk p = some k
set_option maxRecDepth 100000 in
set_option maxHeartbeats 1000000 in
theorem gall_none (p : Option Addr) (bd : Nat) (w : World) (hp : GpNo w p) (hbd : Boxed w bd 43 (.pointer p)) (f0 : Nat → Prop) (hf : ∀ k, gnoO bd p k → f0 k) :
    SeqP Fence.wide 8 Tryz.prog 64 #[.pointer (some ⟨bd, 0, none⟩)] encG f0 (fun _ => False) (fun xs => xs = []) (fun _ => False) 0 w := by
  intro l J Jx W hsz hf0 hJ hJx hY h0
  have hbdW : Boxed W bd 43 (.pointer p) := (hf0 bd (hf _ (.inl rfl))).trans hbd
  have hpW : GpNo W p := hp.same (fun k hk => hf0 k (hf _ (.inr hk)))
  have hcd := hbdW.cell
  have H0 := Lib.hid h0
  have HP := Lib.hid hpW
  clear hJ hJx hY h0 hf0 hp hbd hpW hbdW hf
  refine callsIn_of_wp Tryz.func64 rfl trivial ?_ rfl
  simp only [Tryz.ntmps64, List.size_toArray, List.length_cons, List.length_nil, Nat.reduceAdd, Nat.reduceSub, Array.replicate_succ, Array.replicate_zero, List.push_toArray, List.append_toArray, List.nil_append, List.cons_append]
  gi_wp2_with (refine ⟨trivial, ?_⟩; gi_at_call 30; refine (callsIn_wide.2 (gline_not HP.out)).mono ?_; rintro e w' ⟨rfl, rfl⟩)
  gi_loopw [8] (fun v wr => v = .int .i64 (0 : Nat) ∧ J [] f0 wr) (fun v _ => 0)
  case atStart => exact ⟨rfl, H0.out⟩
  case round =>
    obtain ⟨rfl, hj⟩ := hrel
    gi_wp2
    go_end0
    first | exact ⟨⟨_, rfl⟩, .inl ⟨_, f0, rfl, hj⟩⟩ | exact ⟨⟨_, rfl⟩, .inl ⟨f0, hj⟩⟩
end Go.Proofs.YtfhfhjcdeeepbaaGreatDoor
