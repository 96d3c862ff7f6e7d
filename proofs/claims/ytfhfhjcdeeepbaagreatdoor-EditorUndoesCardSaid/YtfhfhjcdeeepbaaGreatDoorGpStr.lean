/-
  Walk: String of a builder: only the builder's own bytes are turned (frozen).
-/
import Derived.Test.YtfhfhjcdeeepbaaGreatDoorGpAll
import Derived.Test.YtfhfhjcdeeepbaaGreatDoorStrB
import Derived.Lib.UnsafeStr
import Derived.Lib.MakeNoZero
import Derived.Deep.RegionHeld3
namespace Go.Proofs.YtfhfhjcdeeepbaaGreatDoor
open Go.RowKit Go.Shelf
set_option linter.unusedVariables false
set_option linter.unusedSimpArgs false

/-- a strings.Builder at block b, which holds the bytes l in memory of its own -/
def BldAt (w : World) (b : Nat) (A : Option Addr) (n c : Nat) (l : List UInt8) : Prop :=
  ∃ p, (p = .pointer none ∨ p = .pointer (some ⟨b, 0, none⟩)) ∧ Blk w b 73 [p, .slice A n c] ∧ OB w b A n c l
theorem BldAt.len {w : World} {b n c : Nat} {A : Option Addr} {l : List UInt8} (h : BldAt w b A n c l) : n = l.length := by obtain ⟨_, _, _, ho⟩ := h; exact ho.len
theorem chg_freeze {S : Nat → Prop} (w : World) (g n : Nat) (hg : S g) : Chg S w (w.freeze ⟨g, 0, none⟩ n) := by
  unfold World.freeze
  split
  · exact Chg.refl _ _
  · refine ⟨rfl, rfl, rfl, by simp, fun k hk hn => ?_⟩
    simp only [Array.getElem?_modify]
    rw [if_neg (fun e => hn (by have e' : g = k := e; rw [← e']; exact hg))]

set_option maxHeartbeats 2000000 in
set_option maxRecDepth 100000 in
theorem gstring_any {w : World} {b n c : Nat} {A : Option Addr} {l : List UInt8} (h : BldAt w b A n c l) :
    Calls Tryz.prog 39 #[.pointer (some ⟨b, 0, none⟩)] w fun e w' => e = .returned (.string ⟨l.toArray⟩) ∧ Chg (fun k => blk A = some k) w w' := by
  obtain ⟨p, hp, hbk, ho⟩ := h
  have hlen := ho.len
  have c1 : w.drew.cell? ⟨b, 1, none⟩ = some (.slice A n c) := hbk.cell 1
  have hUS := fun W q => Lib.run_unsafeString_none (P := Tryz.prog) W 95 3 9 q
  rcases ho.1.2 with ⟨hv, hz⟩ | ⟨g, cap, cur, hv, hbg, hg, hnc, hcm, hcs, htake⟩
  · injection hv with hA hn hc
    subst hA hc
    have hn0 : n = 0 := hz
    subst hn0
    have hl : l = [] := List.eq_nil_of_length_eq_zero (by omega)
    subst hl
    have hSD : (Builtin.unsafeSliceData_ #[71] 95 #[.slice none 0 0]).run Tryz.prog w.drew = .ok (.pointer none) w.drew := rfl
    clear hbk ho hlen hp
    go_enter Tryz.func39, Tryz.ntmps39
    go_wp2
    go_region
    all_goals (go_wp2; go_ret; exact ⟨rfl, (Chg.refl _ w).drew⟩)
  · injection hv with hA hn hc
    subst hA hc
    rcases Nat.eq_zero_or_pos n with h0 | h0
    · subst h0
      have hl : l = [] := List.eq_nil_of_length_eq_zero (by omega)
      subst hl
      by_cases hc0 : c = 0
      · subst hc0
        have hSD : (Builtin.unsafeSliceData_ #[71] 95 #[.slice (some ⟨g, 0, none⟩) 0 0]).run Tryz.prog w.drew = .ok (.pointer (some ⟨w.drew.heap.size, 0, none⟩)) (w.drew.alloc (.view ⟨g, 0, none⟩ 5)) :=
          Lib.run_unsafeSliceData_zero w.drew _ _ 5 Tryz.underlying95 ⟨g, 0, none⟩ 0 (5, cur.size) (by have hg' : w.drew.heap[g]? = some (.cells cur 5 (0, 0)) := hg; simp [World.shape?, hg'])
        have hb' : Blk (w.drew.alloc (.view ⟨g, 0, none⟩ 5)) b 73 [p, .slice (some ⟨g, 0, none⟩) 0 0] := Blk.alloc (w := w.drew) hbk _
        have c2 : (w.drew.alloc (.view ⟨g, 0, none⟩ 5)).cell? ⟨b, 1, none⟩ = some (.slice (some ⟨g, 0, none⟩) 0 0) := hb'.cell 1
        have c3 : (w.alloc (.view ⟨g, 0, none⟩ 5)).drew.cell? ⟨b, 1, none⟩ = some (.slice (some ⟨g, 0, none⟩) 0 0) := c2
        have c0 : w.cell? ⟨b, 1, none⟩ = some (.slice (some ⟨g, 0, none⟩) 0 0) := c1
        clear hbk ho hlen hp hb' hg hnc hcm hcs htake
        go_enter Tryz.func39, Tryz.ntmps39
        go_wp2
        go_region
        all_goals (go_wp2; go_ret; exact ⟨rfl, ((Chg.refl _ w).drew).alloc _⟩)
      · have hSD : (Builtin.unsafeSliceData_ #[71] 95 #[.slice (some ⟨g, 0, none⟩) 0 c]).run Tryz.prog w.drew = .ok (.pointer (some ⟨g, 0, none⟩)) w.drew :=
          Lib.run_unsafeSliceData_row _ _ _ _ _ _ hc0
        clear hbk ho hlen hp hg hnc hcm hcs htake hc0
        go_enter Tryz.func39, Tryz.ntmps39
        go_wp2
        go_region
        all_goals (go_wp2; go_ret; exact ⟨rfl, (Chg.refl _ w).drew⟩)
    · subst hlen
      have hSD : (Builtin.unsafeSliceData_ #[71] 95 #[.slice (some ⟨g, 0, none⟩) l.length c]).run Tryz.prog w.drew = .ok (.pointer (some ⟨g, 0, none⟩)) w.drew :=
        Lib.run_unsafeSliceData_row _ _ _ _ _ _ (by omega)
      have hUS2 : (Builtin.unsafeString_ #[95, 3] 9 #[.pointer (some ⟨g, 0, none⟩), .int .i64 l.length]).run Tryz.prog w.drew = .ok (.string ⟨l.toArray⟩) (w.drew.freeze ⟨g, 0, none⟩ l.length) := by
        refine Lib.run_unsafeString_row w.drew 95 3 9 5 Tryz.underlying95 (by kernel_rfl) g cur.size (by have hg' : w.drew.heap[g]? = some (.cells cur 5 (0, 0)) := hg; simp [World.shape?, hg']) l (by intro e; subst e; simp at h0) (by omega) (by unfold maxLen at hcm; omega) ?_
        intro j x hx
        have := ho.1.cells (g := g) rfl j (.int .u8 x.toNat) (by simp [bv, hx])
        exact this
      clear hUS hbk ho hp hg hnc hcm hcs htake
      go_enter Tryz.func39, Tryz.ntmps39
      go_wp2
      go_region
      all_goals (go_wp2; go_ret; exact ⟨rfl, ((Chg.refl _ w).drew).trans (chg_freeze (S := fun k => blk (some (⟨g, 0, none⟩ : Addr)) = some k) w.drew g _ rfl) (fun _ h => .inl h)⟩)
end Go.Proofs.YtfhfhjcdeeepbaaGreatDoor
