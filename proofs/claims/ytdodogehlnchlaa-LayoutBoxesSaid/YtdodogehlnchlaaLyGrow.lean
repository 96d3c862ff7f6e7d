/-
  Walk: grow.
-/
import Derived.Test.YtdodogehlnchlaaLyBegin
namespace Go.Proofs.Ytdodogehlnchlaa
open Go.RowKit Go.Shelf Go.Sort
attribute [local go_sem] Oper.semAt_some
set_option linter.unusedVariables false
set_option linter.unusedSimpArgs false

theorem Inv1.bd {P : Nat → Pt} {n : Nat} {σ : Sts} (h : Inv1 P n σ) (hP : ∀ i, i < n → (P i).Ok) {i : Nat} (hi : i < n) (hk : kpO σ i = true) : SlBd (σ i) := by
  obtain ⟨e, h1, h2, _⟩ := h.y i hi hk
  have := hP i hi
  have h3 := this.a
  have h4 := this.c
  have h5 := this.d
  have h6 := this.e
  refine ⟨?_, by omega, ?_, ?_, ?_, ?_⟩ <;> rw [e] <;> omega

set_option maxRecDepth 100000 in
set_option maxHeartbeats 8000000 in
theorem grow_any (B n : Nat) (σ : Sts) (P : Nat → Pt) (r : Nat) (w : World) (hn : n ≤ 64) (hr : r ≤ 500) (hP : ∀ i, i < n → (P i).Ok) (hI : Inv1 P n σ) (hS : Blk w B 62 (slB σ n)) :
    Calls Try.prog 41 #[.int .i64 r, .slice (some ⟨B, 0, none⟩) n n] w fun e w' => e = .returned (.int .i64 (growS n r σ).2) ∧ Blk w' B 62 (slB (growS n r σ).1 n) ∧ Chg (one B) w w' := by
  obtain ⟨σF, oF, hG⟩ : ∃ a b, growS n r σ = (a, b) := ⟨_, _, rfl⟩
  rw [hG]
  have HP := Lib.hid hP
  have HI := Lib.hid hI
  have HS := Lib.hid hS
  have HG := Lib.hid hG
  clear hP hI hS hG
  go_enter Try.func41, Try.ntmps41
  go_wp2_with (fail)
  go_loopw [0, 5] (fun v0 v5 wr => ∃ (k : Nat) (τ : Sts), v0 = .int .i64 k ∧ k ≤ r ∧ Hid (growS n k τ = (σF, oF)) ∧ Hid (Inv1 P n τ) ∧ Blk wr B 62 (slB τ n) ∧ Chg (one B) w wr) (fun v _ _ => (intOf v).toNat)
  case atStart => exact ⟨r, σ, rfl, Nat.le_refl _, HG, HI, HS.out, Chg.refl _ _⟩
  case round =>
    obtain ⟨k, τ, rfl, hk, HGK, HIK, hb, hc⟩ := hrel
    have HB := Lib.hid hb
    have HC := Lib.hid hc
    clear hb hc HG HI HS
    by_cases hlt : 0 < k
    · obtain ⟨i, rfl⟩ : ∃ i, k = i + 1 := ⟨k - 1, by omega⟩
      have hki : ((i + 1 : Nat) : Int) > 0 := by omega
      have hsub : ((i + 1 : Nat) : Int) - 1 = (i : Int) := by omega
      have HNX := Lib.hid (next_any B n τ wr hn HB.out (fun j hj hkj => HIK.out.bd HP.out hj hkj))
      cases hnx : nxt τ n with
      | none =>
        rw [hnx] at HNX
        simp only [oA, Option.map] at HNX
        have HE : Hid (σF = τ ∧ (oF : Int) = ((i + 1 : Nat) : Int)) := by
          have e := HGK.out
          rw [growS_none hnx] at e
          injection e with e1 e2
          exact ⟨e1.symm, by rw [← e2]⟩
        clear hnx
        go_wp2_with (go_at_call 47; refine HNX.out.mono ?_; rintro e w2 ⟨rfl, hb2⟩; have HB2 := Lib.hid hb2; clear hb2)
        go_ret
        refine ⟨by rw [HE.out.2]; exact ret_int (by omega), ?_, HC.out.trans (Chg.of_below HB2.out (S := one B)) (fun j hj => .inl hj)⟩
        rw [HE.out.1]; exact HB.out.below HB2.out HB.out.lt
      | some j =>
        rw [hnx] at HNX
        simp only [oA, Option.map] at HNX
        obtain ⟨hj1, hj2, hj3⟩ := nxt_mem hnx
        have HE : Hid (growS n i (inc τ j) = (σF, oF)) := by
          have e := HGK.out
          rw [growS_some hnx] at e
          exact e
        have HI2 : Hid (Inv1 P n (inc τ j)) := HIK.out.inc hnx
        have hsz := (HIK.out.bd HP.out hj1 hj2).b
        have hsz0 := (HIK.out.bd HP.out hj1 hj2).a
        have hsz1 := (HIK.out.bd HP.out hj1 hj2).c
        have hset := fun v => slB_setS (σ := τ) hj1 v
        have HSET := Lib.hid hset
        have HINC : Hid (upd τ j (szS (τ j) ((τ j).sz + 1)) = inc τ j) := rfl
        have hcell : ∀ W, Blk W B 62 (slB τ n) → W.cell? ⟨B, j * 7 + 6, none⟩ = some (.int .i64 (τ j).sz) := fun W h => by rw [h.cell, slB_get hj1 (by omega)]; rfl
        have HCELL := Lib.hid hcell
        generalize (τ j).sz = sz at *
        clear hnx hj2 hj3 hset hcell
        go_upto_region 5 with (go_at_call 47; refine HNX.out.mono ?_; rintro e w2 ⟨rfl, hb2⟩; have HB2 := Lib.hid hb2; clear hb2)
        have hB2 := HB.out.below HB2.out HB.out.lt
        have hcj := HCELL.out w2 hB2
        have hfr := hB2.frozen (j * 7 + 6)
        have HBW2 := Lib.hid hB2
        have HC2 : Hid (Chg (one B) w w2) := HC.out.trans (Chg.of_below HB2.out (S := one B)) (fun j hj => .inl hj)
        clear hB2 HNX HCELL
        go_wp2_with (fail)
        have hB3 := HBW2.out.set_ (j * 7 + 6) (.int .i64 (sz + 1))
        rw [HSET.out, HINC.out] at hB3
        have hC3 := HC2.out.setCell (p := ⟨B, j * 7 + 6, none⟩) (.inl rfl) (.int .i64 (sz + 1))
        go_roundw
        case rel => exact ⟨i, inc τ j, by go_num, by omega, HE, HI2, hB3, hC3⟩
        case measure => simp [intOf]
    · obtain rfl : k = 0 := by omega
      have hki : ¬ ((0 : Nat) : Int) > 0 := by omega
      have HE : Hid (σF = τ ∧ (oF : Int) = ((0 : Nat) : Int)) := by
        have e := HGK.out
        simp only [growS] at e
        injection e with e1 e2
        exact ⟨e1.symm, by rw [← e2]⟩
      go_wp2_with (fail)
      go_ret
      refine ⟨by rw [HE.out.2]; rfl, ?_, HC.out⟩
      rw [HE.out.1]; exact HB.out
end Go.Proofs.Ytdodogehlnchlaa
