/-
  The law's told over All and over Back of a buffer.
-/
import Derived.Test.YtjdfajgjejpfeaaGreatDoorGpBack
namespace Go.Proofs.YtjdfajgjejpfeaaGreatDoor
open Go.RowKit Go.Shelf Go.Sort
set_option linter.unusedVariables false
set_option linter.unusedSimpArgs false

/-- a buffer's blocks and the box of its iterator -/
def gitO (B g : Nat) (A : Option Addr) (k : Nat) : Prop := k = B ∨ GpOwn g A k
theorem ToldP.from {w w1 : World} {most : Nat} {T : List (Nat × List UInt8)} (hb : Below w.heap.size w w1) {e : Ending} {w' : World} (h : ToldP w1 most T e w') : ToldP w most T e w' := by
  obtain ⟨A1, c1, A2, c2, he, h1, h2, h3⟩ := h
  exact ⟨A1, c1, A2, c2, he, h1.weaken hb.size, h2.weaken hb.size, hb.trans (h3.mono hb.size)⟩
set_option maxHeartbeats 1000000 in
theorem told_all {w : World} {lo g n C most f t : Nat} {A : Option Addr} {p s : List (List UInt8)} (h : GpAt w lo g A n C most f t p s) (m : Nat) :
    Calls Tryz.prog 29 #[.func (.func 57) #[] #[.pointer (some ⟨w.heap.size, 0, none⟩)], .int .i64 m] (w.alloc (.cells #[.pointer (some ⟨g, 0, none⟩)] 23)) (ToldP w m (ats (p ++ s))) := by
  have hb : Below w.heap.size w (w.alloc (.cells #[.pointer (some ⟨g, 0, none⟩)] 23)) := (Below.refl _ w).alloc (Nat.le_refl _) _
  have hbx := Boxed.new w 23 (.pointer (some ⟨g, 0, none⟩))
  have hlt := h.own_lt
  have h4 : ln p s ≤ 4096 := by have := h.ln_le; have := h.m4; omega
  refine (told_seq 57 w.heap.size m (w.alloc (.cells #[.pointer (some ⟨g, 0, none⟩)] 23)) (gitO w.heap.size g A) (ats (p ++ s)) (ln p s) (by omega) (fun x => (p ++ s)[x.1]? = some x.2) (fun k hk => by
    rcases hk with rfl | hk
    · simp
    · have := hlt k hk; simp; omega) (fun w => by kernel_rfl) (enters_of Tryz.func57 (by kernel_rfl) rfl)
    (fun W hW => gall_stops ((h.below hb).below hW) w.heap.size (Boxed.cell (t := 23) ((hW.block _ hbx.lt).trans hbx)) _ (.inl rfl) (fun k hk => .inr hk))).mono ?_
  rintro e w' he
  exact he.from hb
set_option maxHeartbeats 1000000 in
theorem told_back {w : World} {lo g n C most f t : Nat} {A : Option Addr} {p s : List (List UInt8)} (h : GpAt w lo g A n C most f t p s) (m : Nat) :
    Calls Tryz.prog 29 #[.func (.func 58) #[] #[.pointer (some ⟨w.heap.size, 0, none⟩)], .int .i64 m] (w.alloc (.cells #[.pointer (some ⟨g, 0, none⟩)] 23)) (ToldP w m (ats p).reverse) := by
  have hb : Below w.heap.size w (w.alloc (.cells #[.pointer (some ⟨g, 0, none⟩)] 23)) := (Below.refl _ w).alloc (Nat.le_refl _) _
  have hbx := Boxed.new w 23 (.pointer (some ⟨g, 0, none⟩))
  have hlt := h.own_lt
  have h4 : f ≤ 4096 := by have := h.ln_le; have := h.m4; have := h.fp; unfold ln at *; omega
  have hfl : ∀ k, gitO w.heap.size g A k → k < (w.alloc (.cells #[.pointer (some ⟨g, 0, none⟩)] 23)).heap.size := fun k hk => by
    rcases hk with rfl | hk
    · simp
    · have := hlt k hk; simp; omega
  refine (told_seq 58 w.heap.size m (w.alloc (.cells #[.pointer (some ⟨g, 0, none⟩)] 23)) (gitO w.heap.size g A) (ats p).reverse f (by omega) (fun x => p[x.1]? = some x.2) hfl (fun w => by kernel_rfl) (enters_of Tryz.func58 (by kernel_rfl) rfl)
    (fun W hW => gback_stops ((h.below hb).below hW) w.heap.size ((hW.block _ hbx.lt).trans hbx) _ (.inl rfl) (fun k hk => .inr hk) (fun k hk => Nat.lt_of_lt_of_le (hfl k hk) hW.size))).mono ?_
  rintro e w' he
  exact he.from hb
end Go.Proofs.YtjdfajgjejpfeaaGreatDoor
