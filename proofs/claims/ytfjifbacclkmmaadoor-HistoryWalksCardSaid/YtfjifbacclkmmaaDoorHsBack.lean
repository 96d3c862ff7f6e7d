/-
  Walk: the law's back (Older, till there is none).
-/
import Derived.Test.YtfjifbacclkmmaaDoorHsFil
namespace Go.Proofs.YtfjifbacclkmmaaDoor
open Go.RowKit
set_option linter.unusedVariables false
set_option linter.unusedSimpArgs false

theorem OR.chgH {w w' : World} {base n c : Nat} {e : TypeId} {A : Option Addr} {xs : List Value} {S : Nat → Prop} (h : OR w base e A n c xs) (hc : Chg S w w') (hn : ∀ g, blk A = some g → ¬ S g) : OR w' base e A n c xs := by
  obtain ⟨⟨hl, hv⟩, hn'⟩ := h
  refine ⟨⟨hl, ?_⟩, hn'⟩
  rcases hv with hv | ⟨g, cap, cur, hv, h1, h2, h3⟩
  · exact .inl hv
  · refine .inr ⟨g, cap, cur, hv, h1, ?_, h3⟩
    injection hv with hA
    subst hA
    exact hc.heap h2 (hn g rfl)
/-- what back's loop keeps -/
structure BackS (w W : World) (lo h : Nat) (A : Option Addr) (c most : Nat) (L : List (List UInt8)) (d b : List UInt8) (k : Nat) (A1 : Option Addr) (c1 : Nat) (l : List (List UInt8)) (K : Option HW) : Prop where
  q : HsAt W lo h A c most L K
  st : StW d b L l K
  row : OR W w.heap.size 9 A1 k c1 (sv l)
  apart : ∀ g, blk A1 = some g → ¬ HsAt.Own h A K g
  ch : Chg (one h) w W
/-- what back hands back -/
def BackP (w : World) (lo h : Nat) (A : Option Addr) (c most : Nat) (L : List (List UInt8)) (d b : List UInt8) (e : Ending) (w' : World) : Prop :=
  ∃ A1 k c1 l K, e = .returned (.slice A1 k c1) ∧ BackS w w' lo h A c most L d b k A1 c1 l K ∧ nextW d b L (walkOf K d b).2.2 = none

set_option maxRecDepth 100000 in
set_option maxHeartbeats 8000000 in
theorem back_any {w : World} {lo h c most : Nat} {A : Option Addr} {L : List (List UInt8)} (q : HsAt w lo h A c most L none) (d b : List UInt8) (hd : d.length ≤ 1000000) (hb : b.length ≤ 1000000) (hlw : lo ≤ w.heap.size) :
    Calls Tryd.prog 20 #[.pointer (some ⟨h, 0, none⟩), .string ⟨d.toArray⟩, .string ⟨b.toArray⟩] w (BackP w lo h A c most L d b) := by
  have h0 : Hid (BackS w w lo h A c most L d b 0 none 0 [] none) := Lib.hid ⟨q, rfl, OR.none_ _ _ _, (fun g hg => by cases hg), Chg.refl _ _⟩
  have hl4 := q.len4
  have hhl := q.head.lt
  have HAL : Hid (∀ g, blk A = some g → g < w.heap.size) := Lib.hid (fun g hg => (q.rne g hg).2.2)
  clear q
  go_enter Tryd.func20, Tryd.ntmps20
  go_wp2_with (fail)
  go_loopw [7, 8] (fun u v wr => ∃ k A1 c1 l K, v = .int .i64 (k : Nat) ∧ u = .slice A1 k c1 ∧ BackS w wr lo h A c most L d b k A1 c1 l K) (fun _ v _ => 300 - (intOf v).toNat)
  case atStart => exact ⟨0, none, 0, [], none, rfl, rfl, h0.out⟩
  case round =>
    obtain ⟨k, A1, c1, l, K, rfl, rfl, hS⟩ := hrel
    have HS := Lib.hid hS
    have hkl : k = l.length := by rw [hS.row.len, sv_length]
    have hk4 : k ≤ 256 := by rw [hkl]; have := hS.st.len; omega
    have hki : (k : Int) < 300 := by omega
    have hold := holder_any hS.q d b hd hb (by have := hS.ch.size; omega)
    obtain ⟨hw1, hw2⟩ := hS.st.next
    generalize hwk : (walkOf K d b).2.2 = a at hold hw2
    rw [hw1, hwk] at hold
    simp only at hold
    have HOLD := Lib.hid hold
    have HW2 := Lib.hid hw2
    have HWK := Lib.hid hwk
    have HKL := Lib.hid hkl
    clear hold hw1 hw2 hwk hS hkl
    go_wp2_with (fail)
    refine HOLD.out.mono ?_
    rintro e w1 (⟨hn, rfl, hq1, hc1⟩ | ⟨i, x, xd, xb, hn, rfl, hq1, hc1, hN⟩)
    · have hfin : BackP w lo h A c most L d b (.returned (.slice A1 k c1)) w1 := ⟨A1, k, c1, l, K, rfl, ⟨hq1, HS.out.st, HS.out.row.chgH hc1 (fun g hg e => HS.out.apart g hg (.inl e)), HS.out.apart, HS.out.ch.trans hc1 (fun _ h => .inl h)⟩, by rw [HWK.out]; exact hn⟩
      have HF := Lib.hid hfin
      clear hfin hn hq1 hc1
      go_wp2
      go_ret
      exact HF.out
    · obtain ⟨hiL, hix, hPx, hG⟩ := next_some hn
      have hr1 : OR w1 w.heap.size 9 A1 k c1 (sv l) := HS.out.row.chgH hc1 (fun g hg e => HS.out.apart g hg (.inl e))
      have hsz1 : w.heap.size ≤ w1.heap.size := Nat.le_trans HS.out.ch.size hc1.size
      have hap1 : ∀ g, blk A1 = some g → ¬ HsAt.Own h A (some ⟨d, b, i, xd, xb⟩) g := fun g hg ho => by
        rcases ho with ho | ho | ⟨p, hp, ho⟩
        · exact HS.out.apart g hg (.inl ho)
        · exact HS.out.apart g hg (.inr (.inl ho))
        · cases hp
          have hglt := (HS.out.row.blk_lt g hg).2
          cases hK : K with
          | none => have := hN.2 hK; simp only at ho; omega
          | some k' =>
            have := hN.1 k' hK
            exact HS.out.apart g hg (.inr (.inr ⟨k', hK, by simp only at ho; rw [this.1, this.2] at ho; exact ho⟩))
      obtain ⟨A4, c4, w7, hrun4, hO7, hg7, hat7⟩ := run_app Tryd.underlying27 str_info rfl (by omega) (w1.alloc (.cells #[.string ⟨x.toArray⟩] 9)) 27 w.heap.size A1 k c1 _ (hr1.alloc _) (some ⟨w1.heap.size, 0, none⟩) 1 1 [.string ⟨x.toArray⟩] (w1.heap.size + 1) (Sl.new w1 #[.string ⟨x.toArray⟩] 9) rfl (fun e => by cases e) (by intro u hu; simp at hu; subst hu; rfl) (k + 1) rfl (by omega) (by simp; omega)
      have hbA : Below w1.heap.size w1 (w1.alloc (.cells #[.string ⟨x.toArray⟩] 9)) := (Below.refl _ _).alloc (Nat.le_refl _) _
      have hchg : Chg (fun g => blk A1 = some g) w1 w7 := ((Chg.refl _ w1).alloc _).grown hg7 (fun g hg => .inl hg)
      have hq7 : HsAt w7 lo h A c most L (some ⟨d, b, i, xd, xb⟩) := hq1.keep hchg (fun g hg e => hap1 g e hg)
      have hap7 : ∀ g, blk A4 = some g → ¬ HsAt.Own h A (some ⟨d, b, i, xd, xb⟩) g := fun g hg ho => by
        rcases blk_at hat7 g hg with h' | h'
        · exact hap1 g h' ho
        · have h1 := (hq1.own_lt g ho).2
          have h2 := hbA.size
          omega
      have hnew : BackS w w7 lo h A c most L d b (k + 1) A4 c4 (l ++ [x]) (some ⟨d, b, i, xd, xb⟩) := ⟨hq7, ⟨rfl, rfl, ⟨x, hix, hPx⟩, by rw [hG, txh_snoc, ← HW2.out]⟩, by rw [sv_snoc]; exact hO7, hap7, (HS.out.ch.trans hc1 (fun _ h => .inl h)).trans hchg (fun g hg => .inr (HS.out.row.blk_lt g hg).1)⟩
      have HNEW := Lib.hid hnew
      have HR4 := Lib.hid hrun4
      clear hiL hix hPx hG hr1 hap1 hrun4 hO7 hg7 hat7 hbA hchg hq7 hap7 hnew hn hq1 hc1 hN
      go_wp2_with ((with_reducible refine at_dst 27 ?_); refine wpList_run 27 27 rfl (.tmp 24) (.tmp 26) rfl _ _ _ _ rfl rfl HR4.out ?_)
      go_roundw
      case rel => exact ⟨k + 1, A4, c4, l ++ [x], some ⟨d, b, i, xd, xb⟩, by go_num, rfl, HNEW.out⟩
      case measure => simp [intOf]; omega
end Go.Proofs.YtfjifbacclkmmaaDoor
