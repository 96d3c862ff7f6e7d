/-
  Walks: the reference's Next; the two ways of decoding come to the same.
-/
import Derived.Test.YtmgakdbcgdhpaaaDoorRnBegins
import Derived.Test.YtmgakdbcgdhpaaaDoorRnNext
namespace Go.Proofs.YtmgakdbcgdhpaaaDoor
open Go.RowKit
set_option linter.unusedVariables false

theorem rnx_zero {c : UInt8} {t : List UInt8} (h : hsz c.toNat = 0) : rnx (c :: t) = (65533, 1, false) := by simp [rnx, h]
theorem take_cons' (c : UInt8) (t : List UInt8) (s : Nat) (h : 0 < s) : (c :: t).take s = c :: t.take (s - 1) := by
  obtain ⟨s, rfl⟩ : ∃ m, s = m + 1 := ⟨s - 1, by omega⟩
  rfl

set_option maxRecDepth 100000 in
set_option maxHeartbeats 1000000 in
theorem rnext_cons (b off cap : Nat) (c : UInt8) (t : List UInt8) (w : World) (hm : t.length < 9000000000000000000) (hcap : t.length + 1 ≤ cap) (hbw : b < w.heap.size)
    (hS : Sl w w.heap.size (some ⟨b, off, none⟩) (bv (c :: t))) :
    Calls Tryd.prog 64 #[.slice (some ⟨b, off, none⟩) (t.length + 1) cap] w fun e w' => e = nv (rnx (c :: t)) ∧ Below w.heap.size w w' := by
  have hc0 : w.cell? ⟨b, off, none⟩ = some (.int .u8 c.toNat) := by
    obtain ⟨b', off', h, _, hcell⟩ := hS.open_ (by simp [bv_length])
    injection h with h
    injection h with h1 h2
    subst h1; subst h2
    exact hcell 0 _ rfl
  have hcu := u8c c
  have hz : ((t.length : Int) + 1 == 0) = false := by simp; omega
  have hpos : (0 : Int) < (t.length : Int) + 1 := by omega
  have HS := Lib.hid hS
  have hs := hsz_cases c.toNat
  have hs5 : hsz c.toNat = 0 ∨ hsz c.toNat = 1 ∨ hsz c.toNat = 2 ∨ hsz c.toNat = 3 ∨ hsz c.toNat = 4 := by omega
  clear hs hS
  rcases hs5 with hs | hs | hs | hs | hs
  · have HK := Lib.hid hs
    have Fin := Lib.hid (rnx_zero (t := t) hs)
    clear hs
    go_enter Tryd.func64, Tryd.ntmps64
    go_wp2_with (go_at_call 74; refine (length_any _ _ (by omega) (by omega)).mono ?_; rintro e w' ⟨rfl, rfl⟩; rw [HK.out])
    go_ret3
    exact ⟨by rw [Fin.out]; rfl, Below.refl _ _⟩
  all_goals
    have HK := Lib.hid hs
    by_cases hlen : hsz c.toNat ≤ (t.length : Int) + 1
    · have hfin := rnx_full (t := t) (by omega) hlen
      have hlen' := hlen
      rw [hs] at hlen'
      rw [take_cons' _ _ _ (by omega)] at hfin
      have htl : (t.take ((hsz c.toNat).toNat - 1)).length + 1 = (hsz c.toNat).toNat := by simp; omega
      have hS' := (HS.out).take (hsz c.toNat).toNat
      rw [bv_take, take_cons' _ _ _ (by omega)] at hS'
      generalize ht' : t.take ((hsz c.toNat).toNat - 1) = t' at hfin htl hS'
      have HT := Lib.hid htl
      have HS' := Lib.hid hS'
      have hcapz : (hsz c.toNat).toNat ≤ cap := by omega
      rw [hs] at hcapz
      clear ht' hs hlen htl hS'
      by_cases hb : beg (c :: t') = true
      · rw [if_pos hb] at hfin
        have Fin := Lib.hid hfin
        have HB := Lib.hid hb
        clear hfin hb
        go_enter Tryd.func64, Tryd.ntmps64
        go_wp2_with (fail)
        refine (length_any _ _ (by omega) (by omega)).mono ?_
        rintro e w' ⟨rfl, rfl⟩
        rw [HK.out]
        go_wp2_with (fail)
        refine (begins_any _ _ _ c t' w.heap.size w (by have := HT.out; have := HK.out; omega) (by have := HT.out; have := HK.out; omega) HS'.out (Nat.le_refl _)).mono ?_
        rintro e w1 ⟨rfl, hb1⟩
        rw [HB.out]
        go_wp2_with (fail)
        refine (number_any _ _ _ c t' w.heap.size w1 (by have := HT.out; have := HK.out; omega) (by have := HT.out; have := HK.out; omega) (HS'.out.below hb1) hb1.size).mono ?_
        rintro e w2 ⟨rfl, hb2⟩
        go_wp2
        go_ret3
        exact ⟨by rw [Fin.out, HK.out]; rfl, hb1.trans (hb2.mono hb1.size)⟩
      · rw [if_neg hb] at hfin
        have hb' : beg (c :: t') = false := by simpa using hb
        have Fin := Lib.hid hfin
        have HB := Lib.hid hb'
        clear hfin hb hb'
        go_enter Tryd.func64, Tryd.ntmps64
        go_wp2_with (fail)
        refine (length_any _ _ (by omega) (by omega)).mono ?_
        rintro e w' ⟨rfl, rfl⟩
        rw [HK.out]
        go_wp2_with (fail)
        refine (begins_any _ _ _ c t' w.heap.size w (by have := HT.out; have := HK.out; omega) (by have := HT.out; have := HK.out; omega) HS'.out (Nat.le_refl _)).mono ?_
        rintro e w1 ⟨rfl, hb1⟩
        rw [HB.out]
        go_wp2
        go_ret3
        exact ⟨by rw [Fin.out]; rfl, hb1⟩
    · have hx : hsz c.toNat ≠ 1 := by omega
      rw [hs] at hx
      try exact absurd rfl hx
      all_goals
        clear hx
        have hfin := rnx_part (c := c) (t := t) (by omega) (by omega)
        have hlen' := hlen
        have hlt : (t.length : Int) + 1 < hsz c.toNat := by omega
        have HL := Lib.hid hlt
        rw [hs] at hlen' hlt
        clear hlen hs
        by_cases hb : beg (c :: t) = true
        · rw [if_pos hb] at hfin
          have Fin := Lib.hid hfin
          have HB := Lib.hid hb
          clear hfin hb
          go_enter Tryd.func64, Tryd.ntmps64
          go_wp2_with (fail)
          refine (length_any _ _ (by omega) (by omega)).mono ?_
          rintro e w' ⟨rfl, rfl⟩
          rw [HK.out]
          go_wp2_with (fail)
          refine (begins_any _ _ _ c t w.heap.size w rfl (by have := HL.out; omega) HS.out (Nat.le_refl _)).mono ?_
          rintro e w1 ⟨rfl, hb1⟩
          rw [HB.out]
          go_wp2
          go_ret3
          exact ⟨by rw [Fin.out]; rfl, hb1⟩
        · rw [if_neg hb] at hfin
          have hb' : beg (c :: t) = false := by simpa using hb
          have Fin := Lib.hid hfin
          have HB := Lib.hid hb'
          clear hfin hb hb'
          go_enter Tryd.func64, Tryd.ntmps64
          go_wp2_with (fail)
          refine (length_any _ _ (by omega) (by omega)).mono ?_
          rintro e w' ⟨rfl, rfl⟩
          rw [HK.out]
          go_wp2_with (fail)
          refine (begins_any _ _ _ c t w.heap.size w rfl (by have := HL.out; omega) HS.out (Nat.le_refl _)).mono ?_
          rintro e w1 ⟨rfl, hb1⟩
          rw [HB.out]
          go_wp2
          go_ret3
          exact ⟨by rw [Fin.out]; rfl, hb1⟩

set_option maxHeartbeats 400000 in
theorem rnext_nil (A : Option Addr) (cap : Nat) (w : World) :
    Calls Tryd.prog 64 #[.slice A 0 cap] w fun e w' => e = nv (rnx []) ∧ Below w.heap.size w w' := by
  go_enter Tryd.func64, Tryd.ntmps64
  go_wp2
  go_ret3
  exact ⟨rfl, Below.refl _ _⟩

/-- The reference's Next of any bytes: what runes.Next comes to. -/
theorem rnext_any (A : Option Addr) (n cap : Nat) (l : List UInt8) (w : World) (hn : n = l.length) (hm : l.length < 9000000000000000000) (hcap : l.length ≤ cap) (hS : Sl w w.heap.size A (bv l)) :
    Calls Tryd.prog 64 #[.slice A n cap] w fun e w' => e = nv (nx l) ∧ Below w.heap.size w w' := by
  subst hn
  rw [same_nx]
  cases l with
  | nil => exact rnext_nil A cap w
  | cons c t =>
    obtain ⟨b, off, rfl, hb, _⟩ := hS.open_ (by simp [bv_length])
    simp only [List.length_cons] at hm hcap ⊢
    exact rnext_cons b off cap c t w (by omega) hcap hb hS
end Go.Proofs.YtmgakdbcgdhpaaaDoor
