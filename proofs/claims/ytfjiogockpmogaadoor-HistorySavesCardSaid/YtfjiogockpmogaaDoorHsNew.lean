/-
  Walks: Older and Newer of a history that nobody made; Newer.
-/
import Derived.Test.YtfjiogockpmogaaDoorHsOld
import Derived.Deep.RegionLaw
namespace Go.Proofs.YtfjiogockpmogaaDoor
open Go.RowKit Go.Shelf Go.Sort
attribute [local go_sem] Oper.semAt_some
set_option linter.unusedVariables false
set_option linter.unusedSimpArgs false

theorem boxes3 (w : World) (p : Option Addr) : (∀ W, W = ((w.alloc (.cells #[.pointer p] 23)).alloc (.cells #[.string ⟨#[]⟩] 9)).alloc (.cells #[.bool false] 4) →
    Below w.heap.size w W ∧ Boxed W w.heap.size 23 (.pointer p) ∧ Boxed W (w.heap.size + 1) 9 (.string ⟨#[]⟩) ∧ Boxed W (w.heap.size + 1 + 1) 4 (.bool false) ∧ W.heap.size = w.heap.size + 3) := by
  rintro W rfl
  have z2 := (Boxed.new (w.alloc (.cells #[.pointer p] 23)) 9 (.string ⟨#[]⟩)).alloc (.cells #[.bool false] 4)
  have z3 := Boxed.new ((w.alloc (.cells #[.pointer p] 23)).alloc (.cells #[.string ⟨#[]⟩] 9)) 4 (.bool false)
  simp only [World.size_alloc] at z2 z3
  exact ⟨(((Below.refl _ w).alloc (Nat.le_refl _) _).alloc (by simp) _).alloc (by simp; omega) _, ((Boxed.new w 23 (.pointer p)).alloc (.cells #[.string ⟨#[]⟩] 9)).alloc (.cells #[.bool false] 4), z2, z3, by simp⟩

set_option maxRecDepth 100000 in
set_option maxHeartbeats 4000000 in
theorem holder_not {w : World} {p : Option Addr} (q : HsNo w p) (d b : ByteArray) :
    Calls Tryd.prog 24 #[.pointer p, .string d, .string b] w fun e w' => e = .returned (.tuple #[.string ⟨#[]⟩, .bool false]) ∧ Below w.heap.size w w' := by
  have hbx := boxes3 w p _ rfl
  obtain ⟨hb, z1, z2, z3, hsz⟩ := hbx
  have H := Lib.hid (q.below hb)
  have HB := Lib.hid hb
  clear q hb hsz
  go_enter Tryd.func24, Tryd.ntmps24
  go_upto_region 1 with (fail)
  generalize ((w.alloc (.cells #[.pointer p] 23)).alloc (.cells #[.string ⟨#[]⟩] 9)).alloc (.cells #[.bool false] 4) = w1 at *
  have k1 := z1.cell
  have k2 := z2.cell
  have k3 := z3.cell
  have f2 := z2.frozen
  have f3 := z3.frozen
  go_wp2_with (go_at_call 35; refine (hmade_not H.out).mono ?_; rintro e w' ⟨rfl, rfl⟩)
  refine bodyPost_ret (v := .tuple #[.string ⟨#[]⟩, .bool false]) (by simp [results, Tryd.results24, go_sem, k2, k3]) rfl ⟨rfl, ?_⟩
  exact (HB.out.setCell (p := ⟨w.heap.size + 1, 0, none⟩) (by simp) _).setCell (p := ⟨w.heap.size + 1 + 1, 0, none⟩) (by simp; omega) _

set_option maxRecDepth 100000 in
set_option maxHeartbeats 4000000 in
theorem hnewer_not {w : World} {p : Option Addr} (q : HsNo w p) :
    Calls Tryd.prog 25 #[.pointer p] w fun e w' => e = .returned (.tuple #[.string ⟨#[]⟩, .bool false]) ∧ Below w.heap.size w w' := by
  have hbx := boxes3 w p _ rfl
  obtain ⟨hb, z1, z2, z3, hsz⟩ := hbx
  have H := Lib.hid (q.below hb)
  have HB := Lib.hid hb
  clear q hb hsz
  go_enter Tryd.func25, Tryd.ntmps25
  go_upto_region 1 with (fail)
  generalize ((w.alloc (.cells #[.pointer p] 23)).alloc (.cells #[.string ⟨#[]⟩] 9)).alloc (.cells #[.bool false] 4) = w1 at *
  have k1 := z1.cell
  have k2 := z2.cell
  have k3 := z3.cell
  have f2 := z2.frozen
  have f3 := z3.frozen
  go_wp2_with (go_at_call 35; refine (hmade_not H.out).mono ?_; rintro e w' ⟨rfl, rfl⟩)
  refine bodyPost_ret (v := .tuple #[.string ⟨#[]⟩, .bool false]) (by simp [results, Tryd.results25, go_sem, k2, k3]) rfl ⟨rfl, ?_⟩
  exact (HB.out.setCell (p := ⟨w.heap.size + 1, 0, none⟩) (by simp) _).setCell (p := ⟨w.heap.size + 1 + 1, 0, none⟩) (by simp; omega) _

set_option maxRecDepth 100000 in
set_option maxHeartbeats 4000000 in
theorem hnewer_none {w : World} {lo h c most : Nat} {A : Option Addr} {L : List (List UInt8)} (q : HsAt w lo h A c most L none) :
    Calls Tryd.prog 25 #[.pointer (some ⟨h, 0, none⟩)] w fun e w' => e = .returned (.tuple #[.string ⟨#[]⟩, .bool false]) ∧ Below w.heap.size w w' := by
  have hbx := boxes3 w (some ⟨h, 0, none⟩) _ rfl
  obtain ⟨hb, z1, z2, z3, hsz⟩ := hbx
  have q1 := q.below hb
  have c0 := q1.c0
  have h4 : World.cell? _ ⟨h, 4, none⟩ = some .nilFunc := q1.head.cell 4
  have hn := nil_nil
  have HB := Lib.hid hb
  clear q hb hsz q1
  go_enter Tryd.func25, Tryd.ntmps25
  go_upto_region 1 with (fail)
  generalize ((w.alloc (.cells #[.pointer (some ⟨h, 0, none⟩)] 23)).alloc (.cells #[.string ⟨#[]⟩] 9)).alloc (.cells #[.bool false] 4) = w1 at *
  have k1 := z1.cell
  have k2 := z2.cell
  have k3 := z3.cell
  have f2 := z2.frozen
  have f3 := z3.frozen
  go_wp2_with (go_at_call 35; refine (hmade_yes h _ c0).mono ?_; rintro e w' ⟨rfl, rfl⟩)
  refine bodyPost_ret (v := .tuple #[.string ⟨#[]⟩, .bool false]) (by simp [results, Tryd.results25, go_sem, k2, k3]) rfl ⟨rfl, ?_⟩
  exact (HB.out.setCell (p := ⟨w.heap.size + 1, 0, none⟩) (by simp) _).setCell (p := ⟨w.heap.size + 1 + 1, 0, none⟩) (by simp; omega) _
end Go.Proofs.YtfjiogockpmogaaDoor
