/-
  Walks: runes.Next where an encoding of more than one byte may begin.
-/
import Derived.Test.YteolafeeggjblaaDoorRnHead
namespace Go.Proofs.YteolafeeggjblaaDoor
open Go.RowKit

theorem nx_many {c : UInt8} {t : List UInt8} (h : 2 ≤ hsz c.toNat) : nx (c :: t) = nxt (hsz c.toNat - 1).toNat (hsz c.toNat) (fst c.toNat) (hlo c.toNat) (hhi c.toNat) t := by
  unfold nx
  simp only
  rw [if_neg (by omega), if_neg (by omega)]
theorem hsz_le (c : Int) : 0 ≤ hsz c ∧ hsz c ≤ 4 := by unfold hsz; (repeat' split) <;> omega
theorem and_mask (c : Int) (s : Nat) (hs : s ≤ 8) (h0 : 0 ≤ c) (h1 : c < 256) : bits .and .u8 c (2 ^ s - 1) = c % 2 ^ s :=
  bits_mask .u8 8 (by decide) wraps_u8 s (by omega) c h0 (by omega)

theorem nxt_nil {k : Nat} (s r lo hi : Int) {l : List UInt8} (hk : 0 < k) (hl : l = []) : nxt k s r lo hi l = (0, 0, true) := by
  obtain ⟨k, rfl⟩ : ∃ m, k = m + 1 := ⟨k - 1, by omega⟩
  subst hl; rfl
theorem nxt_out {k : Nat} (s r lo hi : Int) {l : List UInt8} {x : UInt8} {m : List UInt8} (hk : 0 < k) (hl : l = x :: m) (h : (x.toNat : Int) < lo ∨ hi < (x.toNat : Int)) :
    nxt k s r lo hi l = (65533, 1, false) := by
  obtain ⟨k, rfl⟩ : ∃ m, k = m + 1 := ⟨k - 1, by omega⟩
  subst hl; rw [nxt, if_pos h]
theorem nxt_in {k : Nat} (s r lo hi : Int) {l : List UInt8} {x : UInt8} {m : List UInt8} (hk : 0 < k) (hl : l = x :: m) (h : ¬ ((x.toNat : Int) < lo ∨ hi < (x.toNat : Int))) :
    nxt k s r lo hi l = nxt (k - 1) s (r * 64 + (x.toNat : Int) % 64) 128 191 m := by
  obtain ⟨k, rfl⟩ : ∃ m, k = m + 1 := ⟨k - 1, by omega⟩
  subst hl; rw [nxt, if_neg h]; rfl
theorem drop_cons {t : List UInt8} {j : Nat} (h : j < t.length) : t.drop j = t[j] :: t.drop (j + 1) := List.drop_eq_getElem_cons h
theorem bits_or6 (r x : Int) (h0 : 0 ≤ r) (h1 : r < 131072) (h2 : 0 ≤ x) (h3 : x < 64) : bits .or .i32 (r * 64) x = r * 64 + x :=
  bits_join .i32 31 (by decide) wraps_i32 6 (r * 64) x (by omega) (by omega) (by omega) (by omega) (by omega) (by omega)

/-- how much the bits that were told of j bytes behind the first can be -/
def small (j : Nat) (r : Int) : Prop := 0 ≤ r ∧ ((j = 0 ∧ r < 32) ∨ (j = 1 ∧ r < 2048) ∨ (j = 2 ∧ r < 131072) ∨ 3 ≤ j)

set_option maxHeartbeats 1000000 in
theorem next_many (b off cap : Nat) (c : UInt8) (t : List UInt8) (w : World) (hn : t.length < 9000000000000000000) (h : 2 ≤ hsz c.toNat)
    (hcell : ∀ j u, (bv (c :: t))[j]? = some u → w.cell? ⟨b, off + j, none⟩ = some u) :
    Calls Tryd.prog 61 #[.slice (some ⟨b, off, none⟩) (t.length + 1) cap] w fun e w' => e = nv (nx (c :: t)) ∧ Below w.heap.size w w' := by
  have hu := u8lt c
  have hc : w.cell? ⟨b, off, none⟩ = some (.int .u8 c.toNat) := hcell 0 _ rfl
  have hz : ((t.length : Int) + 1 == 0) = false := by simp; omega
  have hpos : (0 : Int) < (t.length : Int) + 1 := by omega
  have Hcell := Lib.hid hcell
  clear hcell
  have hs := hsz_le c.toNat
  have hs3 : hsz c.toNat = 2 ∨ hsz c.toNat = 3 ∨ hsz c.toNat = 4 := by omega
  have m5 := and_mask c.toNat 5 (by omega) (by omega) hu
  have m4 := and_mask c.toNat 4 (by omega) (by omega) hu
  have m3 := and_mask c.toNat 3 (by omega) (by omega) hu
  have m7 : (0 : Int) ≤ c.toNat := by omega
  have fin := nx_many (t := t) h
  rcases hs3 with hs3 | hs3 | hs3
  all_goals
    have E := Lib.hid hs3
    have fin' := fin
    rw [hs3] at fin'
    rw [show fst c.toNat = _ from by unfold fst; rw [hs3]] at fin'
    simp at fin'
    have Fin := Lib.hid fin'
    clear hs3 hs h fin fin'
    go_enter Tryd.func61, Tryd.ntmps61
    go_wp2_with (go_at_call 73; refine (head_any _ _ (by omega) (by omega)).mono ?_; rintro e w' ⟨rfl, rfl⟩; rw [E.out])
    go_quiet (fail)
    go_wp2
    go_loop [2, 6, 7, 8] (fun r lo hi i => ∃ (j : Nat) (R L H : Int), j + 2 ≤ (hsz c.toNat).toNat + 1 ∧ i = .int .i64 ((j : Int) + 1) ∧ r = .int .i32 R ∧ lo = .int .u8 L ∧ hi = .int .u8 H ∧ small j R ∧ j ≤ t.length ∧ nx (c :: t) = nxt ((hsz c.toNat).toNat - 1 - j) (hsz c.toNat) R L H (t.drop j)) (fun _ _ _ i => 4 - (intOf i).toNat)
    case atStart => exact ⟨0, _, _, _, by rw [E.out]; decide, rfl, rfl, rfl, rfl, ⟨by omega, .inl ⟨rfl, by omega⟩⟩, by omega, by rw [Fin.out, E.out]; rfl⟩
    case round =>
      obtain ⟨j, R, L, H, hj, rfl, rfl, rfl, rfl, hR, hjt, hnx⟩ := hrel
      have Hnx := Lib.hid hnx
      have hj4 : j ≤ 3 := by rw [E.out] at hj; omega
      have hsj : 1 ≤ j + 1 := by omega
      clear hnx Fin
      by_cases hend : j + 1 = (hsz c.toNat).toNat
      · have hge : ¬ (j : Int) + 1 < (hsz c.toNat) := by omega
        rw [E.out] at hge
        have HE := Lib.hid hend
        clear hend hj
        go_wp2
        go_ret3
        refine ⟨?_, below_drewN (Below.refl _ _) _⟩
        rw [Hnx.out, ← HE.out]
        have e : j + 1 - 1 - j = 0 := by omega
        rw [e]; simp [nxt, nv, E.out]
      · have hlt : (j : Int) + 1 < (hsz c.toNat) := by omega
        rw [E.out] at hlt
        have hk : 0 < (hsz c.toNat).toNat - 1 - j := by omega
        have HK := Lib.hid hk
        clear hend hk
        by_cases hlen : j < t.length
        · have hx := Hcell.out (j + 1) _ (by rw [bv_get (by simp; omega)])
          simp only [List.getElem_cons_succ] at hx
          have Hd := Lib.hid (drop_cons hlen)
          have hxu := u8lt t[j]
          have hne : ((j : Int) + 1 == (t.length : Int) + 1) = false := by simp; omega
          have hin : (j : Int) + 1 < (t.length : Int) + 1 := by omega
          generalize hxv : t[j] = x at hx Hd hxu
          clear hxv
          by_cases h1 : (x.toNat : Int) < L
          · go_wp2
            go_ret3
            refine ⟨?_, below_drewN (Below.refl _ _) _⟩
            rw [Hnx.out, nxt_out _ _ _ _ HK.out Hd.out (.inl h1)]; rfl
          · by_cases h2 : H < (x.toNat : Int)
            · go_wp2
              go_ret3
              refine ⟨?_, below_drewN (Below.refl _ _) _⟩
              rw [Hnx.out, nxt_out _ _ _ _ HK.out Hd.out (.inr h2)]; rfl
            · have hs4 : hsz c.toNat ≤ 4 := by rw [E.out]; omega
              have hj3 : j < 3 := by omega
              have hR0 : 0 ≤ R := hR.1
              have hR1 : R < 131072 := by have := hR.2; omega
              have m6 := and_mask x.toNat 6 (by omega) (by omega) hxu
              have mo := bits_or6 R ((x.toNat : Int) % 64) hR0 hR1 (by omega) (by omega)
              have hbr : 2097152 * 64 > R * 64 := by omega
              have hsm : small (j + 1) (R * 64 + (x.toNat : Int) % 64) := ⟨by omega, by have := hR.2; omega⟩
              have hnn := nxt_in (hsz c.toNat) R L H HK.out Hd.out (by omega)
              have Hnn := Lib.hid hnn
              have Hsm := Lib.hid hsm
              have hj' : j + 1 + 2 ≤ (hsz c.toNat).toNat + 1 := by rw [E.out]; omega
              have Hj' := Lib.hid hj'
              clear hnn hsm hs4 hR hj hj'
              go_wp2
              go_round
              case rel => exact ⟨j + 1, _, _, _, Hj'.out, by go_num, rfl, rfl, rfl, Hsm.out, by omega, by rw [Hnx.out, Hnn.out, Nat.sub_sub]⟩
              case measure => simp [intOf]; omega
        · have hjl : j = t.length := by omega
          have heq : ((j : Int) + 1 == (t.length : Int) + 1) = true := by simp; omega
          have Hd := Lib.hid (show t.drop j = [] from List.drop_eq_nil_of_le (by omega))
          clear hjl hlen
          go_wp2
          go_ret3
          refine ⟨?_, below_drewN (Below.refl _ _) _⟩
          rw [Hnx.out, nxt_nil _ _ _ _ HK.out Hd.out]; rfl

/-- runes.Next of any bytes. -/
theorem next_any (A : Option Addr) (n cap : Nat) (l : List UInt8) (B : Nat) (w : World) (hn : n = l.length) (hm : l.length < 9000000000000000000) (hS : Sl w B A (bv l)) :
    Calls Tryd.prog 61 #[.slice A n cap] w fun e w' => e = nv (nx l) ∧ Below w.heap.size w w' := by
  subst hn
  cases l with
  | nil => exact next_nil A cap w
  | cons c t =>
    obtain ⟨b, off, rfl, _, hcell⟩ := hS.open_ (by simp [bv_length])
    simp only [List.length_cons] at hm ⊢
    have hs := hsz_le c.toNat
    by_cases h : 2 ≤ hsz c.toNat
    · exact next_many b off cap c t w (by omega) h hcell
    · exact next_short b off cap c t w (by omega) (by omega) (hcell 0 _ rfl)
end Go.Proofs.YteolafeeggjblaaDoor
