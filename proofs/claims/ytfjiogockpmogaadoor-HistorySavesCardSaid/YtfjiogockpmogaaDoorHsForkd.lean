/-
  Walk: the law's forked.
-/
import Derived.Test.YtfjiogockpmogaaDoorHsFil
import Derived.Test.YtfjiogockpmogaaDoorHsFork
namespace Go.Proofs.YtfjiogockpmogaaDoor
open Go.RowKit Go.Sort
set_option linter.unusedVariables false
set_option linter.unusedSimpArgs false

set_option maxRecDepth 100000 in
/-- the blocks of a history behind a call: those from before, and new ones -/
def OwnN (w : World) (h : Nat) (A : Option Addr) (K : Option HW) (h' : Nat) (A' : Option Addr) (K' : Option HW) : Prop := ∀ k, HsAt.Own h' A' K' k → HsAt.Own h A K k ∨ w.heap.size ≤ k
theorem OwnN.ended (w : World) (h : Nat) (A : Option Addr) (K : Option HW) : OwnN w h A K h A none := fun k hk => by
  rcases hk with hk | hk | ⟨x, hx, _⟩
  · exact .inl (.inl hk)
  · exact .inl (.inr (.inl hk))
  · cases hx
theorem OwnN.refl (w : World) (h : Nat) (A : Option Addr) (K : Option HW) : OwnN w h A K h A K := fun k hk => .inl hk
theorem OwnN.walk (w : World) (h : Nat) (A : Option Addr) (k0 : HW) (d b : List UInt8) (i : Nat) : OwnN w h A (some k0) h A (some ⟨d, b, i, k0.xd, k0.xb⟩) := fun k hk => by
  rcases hk with hk | hk | ⟨x, hx, hk⟩
  · exact .inl (.inl hk)
  · exact .inl (.inr (.inl hk))
  · injection hx with hx; subst hx; exact .inl (.inr (.inr ⟨k0, rfl, hk⟩))
theorem OwnN.old {w w0 : World} {h : Nat} {A : Option Addr} {K : Option HW} {d b : List UInt8} {i xd xb : Nat} (ho : OldN w K xd xb) (hw : w0.heap.size ≤ w.heap.size) : OwnN w0 h A K h A (some ⟨d, b, i, xd, xb⟩) := fun k hk => by
  rcases hk with hk | hk | ⟨x, hx, hk⟩
  · exact .inl (.inl hk)
  · exact .inl (.inr (.inl hk))
  · injection hx with hx
    subst hx
    cases K with
    | none => have := ho.2 rfl; right; rcases hk with hk | hk <;> (simp only at hk; omega)
    | some k0 =>
      have := ho.1 k0 rfl
      left
      exact .inr (.inr ⟨k0, rfl, by
        rcases hk with hk | hk
        · exact .inl (by simp only at hk; omega)
        · exact .inr (by simp only at hk; omega)⟩)
theorem OwnN.add {w : World} {h : Nat} {A A' : Option Addr} {K : Option HW} (ha : ∀ k, blk A' = some k → blk A = some k ∨ w.heap.size ≤ k) : OwnN w h A K h A' .none := fun k hk => by
  rcases hk with hk | hk | ⟨x, hx, _⟩
  · exact .inl (.inl hk)
  · exact (ha k hk).imp (fun h => .inr (.inl h)) id
  · cases hx
theorem OwnN.more {w w0 : World} {h h' : Nat} {A A' : Option Addr} {K K' : Option HW} (o : OwnN w h A K h' A' K') (hw : w0.heap.size ≤ w.heap.size) : OwnN w0 h A K h' A' K' := fun k hk => (o k hk).imp id (fun h => by omega)
theorem hadd_anyX {w : World} {lo h c most : Nat} {A : Option Addr} {L : List (List UInt8)} {K : Option HW} (q : HsAt w lo h A c most L K) (s : ByteArray) (hs : s.size ≤ 1000) (hT : Tabs w) (hTl : TLo lo) :
    Calls Tryd.prog 23 #[.pointer (some ⟨h, 0, none⟩), .string s] w fun e w' => ∃ A' c', e = .returned (.bool (addB (flatB s.data.toList) L)) ∧ HsAt w' lo h A' c' most (if addB (flatB s.data.toList) L then addL most (flatB s.data.toList) L else L) none ∧ Chg (one h) w w' ∧ OwnN w h A K h A' none := by
  cases hy : addB (flatB s.data.toList) L with
  | true =>
    refine (hadd_yesX q s hs hT hTl hy).mono ?_
    rintro e w' ⟨A', c', rfl, hq, hc, ha⟩
    exact ⟨A', c', rfl, hq, hc, OwnN.add (fun k hk => .inr (ha k hk))⟩
  | false =>
    refine (hadd_no q s hs hT hTl hy).mono ?_
    rintro e w' ⟨rfl, hq, hc⟩
    exact ⟨A, c, rfl, hq, hc, OwnN.ended _ _ _ _⟩
set_option maxHeartbeats 4000000 in
theorem hforked_any {w : World} {lo h c most : Nat} {A : Option Addr} {L : List (List UInt8)} {K : Option HW} (q : HsAt w lo h A c most L K) (hlw : lo ≤ w.heap.size) (hT : Tabs w) (hTl : TLo lo) :
    Calls Tryd.prog 9 #[.pointer (some ⟨h, 0, none⟩)] w fun e w' => ∃ h' A' c', e = .returned (.pointer (some ⟨h', 0, none⟩)) ∧ HsAt w' lo h' A' c' most L K ∧ Chg (one h) w w' ∧ OwnN w h A K h' A' K ∧ w.heap.size ≤ h' := by
  have Q := Lib.hid q
  have HT := Lib.hid hT
  have HTL := Lib.hid hTl
  have HF := Lib.hid (hfork_any q hlw)
  have hh : h < w.heap.size := q.head.lt
  clear q hT hTl
  go_enter Tryd.func9, Tryd.ntmps9
  go_wp2_with (fail)
  refine HF.out.mono ?_
  rintro e w1 ⟨h', A', c', rfl, hq1, hlo, hA1, hb⟩
  have hlo2 := hlo
  have Q1 := Lib.hid hq1
  have HB := Lib.hid hb
  have HA1 := Lib.hid hA1
  clear hq1 hb hA1
  go_wp2_with (fail)
  refine (hadd_any (w0 := w) (Q.out.below HB.out) ⟨#[115, 111, 109, 101, 116, 104, 105, 110, 103, 32, 101, 108, 115, 101]⟩ (by decide) (HT.out.below HB.out) HTL.out).mono ?_
  rintro e w2 ⟨A2, c2, rfl, hq2, hc2⟩
  have HC := Lib.hid hc2
  clear hq2 hc2
  go_wp2_with (fail)
  go_ret
  refine ⟨h', A', c', rfl, Q1.out.keep HC.out (fun k hk e => ?_), (Chg.of_below (S := one h) HB.out).trans HC.out (fun j hj => .inl hj), fun k hk => ?_, hlo2⟩
  rotate_left
  · rcases hk with hk | hk | hk
    · right; omega
    · exact .inr (HA1.out k hk)
    · exact .inl (.inr (.inr hk))
  unfold one at e
  subst e
  rcases hk with hk | hk | ⟨x, hx, hk⟩
  · omega
  · have := HA1.out _ hk; omega
  · have := Q.out.wne hx
    rcases hk with hk | hk <;> omega
end Go.Proofs.YtfjiogockpmogaaDoor
