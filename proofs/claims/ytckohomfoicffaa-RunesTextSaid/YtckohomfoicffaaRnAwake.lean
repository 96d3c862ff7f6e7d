/-
  The laws of layer 1: the example, the cut, what is encoded decodes.
-/
import Derived.Test.YtckohomfoicffaaRnRNext
import Derived.Test.YtckohomfoicffaaLawBytes
import Derived.Deep.RegionHeld3
namespace Go.Proofs.Ytckohomfoicffaa
open Go.RowKit
set_option linter.unusedVariables false

theorem nx_a : nx [226, 130] = (0, 0, true) := by decide
theorem nx_b : nx [226, 130, 172] = (8364, 3, false) := by decide
theorem nx_c : nx [226, 65] = (65533, 1, false) := by decide

set_option maxRecDepth 100000 in
set_option maxHeartbeats 1000000 in
theorem awake_any (w : World) :
    Calls Try.prog 13 #[] w fun e w' => e = .returned (.bool true) ∧ Below w.heap.size w w' := by
  go_enter Try.func13, Try.ntmps13
  go_wp2_with (fail)
  refine (next_any _ _ _ [226, 130] (w.heap.size + 1) _ rfl (by simp) (Sl.new w #[.int .u8 226, .int .u8 130] 5)).mono ?_
  rintro e w1 ⟨rfl, hb1⟩
  rw [nx_a]
  simp only [nv]
  go_wp2_with (fail)
  refine (next_any _ _ _ [226, 130, 172] (w1.heap.size + 1) _ rfl (by simp) (Sl.new w1 #[.int .u8 226, .int .u8 130, .int .u8 172] 5)).mono ?_
  rintro e w2 ⟨rfl, hb2⟩
  rw [nx_b]
  simp only [nv]
  go_wp2_with (fail)
  refine (next_any _ _ _ [226, 65] (w2.heap.size + 1) _ rfl (by simp) (Sl.new w2 #[.int .u8 226, .int .u8 65] 5)).mono ?_
  rintro e w3 ⟨rfl, hb3⟩
  rw [nx_c]
  simp only [nv]
  go_wp2_with (fail)
  refine (bytes_any 8364 w3).mono ?_
  rintro e w4 ⟨rfl, rfl⟩
  have he : enc (rfix 8364) = [226, 130, 172] := by decide
  rw [he]
  have hcv := run_str_sl (w3.alloc (.cells (bv [226, 130, 172]).toArray 5)) (w3.heap.size + 1) (some ⟨w3.heap.size, 0, none⟩) 3 3 [226, 130, 172] (Sl.new _ _ _) rfl
  go_wp2
  go_ret
  have b1 : Below w.heap.size w w1 := ((Below.refl _ _).alloc (Nat.le_refl _) _).trans (hb1.mono (by simp))
  have b2 : Below w.heap.size w w2 := (b1.alloc b1.size _).trans (hb2.mono (by have := b1.size; simp; omega))
  have b3 : Below w.heap.size w w3 := (b2.alloc b2.size _).trans (hb3.mono (by have := b2.size; simp; omega))
  exact ⟨rfl, b3.alloc b3.size _⟩

set_option maxHeartbeats 400000 in
theorem cut_any (A : Option Addr) (n cap : Nat) (w : World) (hn : n ≤ cap) (hm : n ≤ 9223372036854775807) :
    Calls Try.prog 4 #[.slice A n cap] w fun e w' => e = .returned (.slice A (min n 400) cap) ∧ w = w' := by
  by_cases h : n ≤ 400
  · have e : min n 400 = n := by omega
    rw [e]
    have hi : (n : Int) ≤ 400 := by omega
    go_enter Try.func4, Try.ntmps4
    go_wp2
    go_ret
    exact ⟨rfl, rfl⟩
  · have e : min n 400 = 400 := by omega
    rw [e]
    have hi : ¬ (n : Int) ≤ 400 := by omega
    have hc : 400 ≤ cap := by omega
    go_enter Try.func4, Try.ntmps4
    go_wp2
    go_ret
    exact ⟨rfl, rfl⟩

set_option maxRecDepth 100000 in
theorem nx_enc (r : Int) (h : isR r) (l : List UInt8) : nx (enc r ++ l) = (r, ((enc r).length : Int), false) := by
  have h0 : 0 ≤ r := h.1
  have h1 : r ≤ 1114111 := h.2.1
  have h2 := h.2.2
  unfold enc
  by_cases c1 : r < 128
  · rw [if_pos c1]
    simp only [List.cons_append, List.nil_append, nx, by8_val r (by omega) (by omega)]
    rw [if_neg (by unfold hsz; (repeat' split) <;> omega), if_pos (by unfold hsz; (repeat' split) <;> omega)]
    rfl
  · rw [if_neg c1]
    by_cases c2 : r < 2048
    · rw [if_pos c2]
      have e1 := by8_val (192 + r / 64) (by omega) (by omega)
      have e2 := by8_val (128 + r % 64) (by omega) (by omega)
      have hs : hsz (192 + r / 64) = 2 := by unfold hsz; (repeat' split) <;> omega
      have hl : hlo (192 + r / 64) = 128 := by unfold hlo; (repeat' split) <;> omega
      have hh : hhi (192 + r / 64) = 191 := by unfold hhi; (repeat' split) <;> omega
      have hf : fst (192 + r / 64) = r / 64 := by unfold fst; rw [hs]; simp; omega
      simp only [List.cons_append, List.nil_append, nx, e1, hs, hl, hh, hf]
      simp [nxt, e2]
      rw [if_neg (by omega)]
      simp
      omega
    · rw [if_neg c2]
      by_cases c3 : r < 65536
      · rw [if_pos c3]
        have e1 := by8_val (224 + r / 4096) (by omega) (by omega)
        have e2 := by8_val (128 + r / 64 % 64) (by omega) (by omega)
        have e3 := by8_val (128 + r % 64) (by omega) (by omega)
        have hs : hsz (224 + r / 4096) = 3 := by unfold hsz; (repeat' split) <;> omega
        have hl : hlo (224 + r / 4096) ≤ 128 + r / 64 % 64 := by unfold hlo; (repeat' split) <;> omega
        have hh : 128 + r / 64 % 64 ≤ hhi (224 + r / 4096) := by unfold hhi; (repeat' split) <;> omega
        have hf : fst (224 + r / 4096) = r / 4096 := by unfold fst; rw [hs]; simp; omega
        simp only [List.cons_append, List.nil_append, nx, e1, hs, hf]
        simp [nxt, e2, e3]
        rw [if_neg (by omega), if_neg (by omega)]
        simp
        omega
      · rw [if_neg c3]
        have e1 := by8_val (240 + r / 262144) (by omega) (by omega)
        have e2 := by8_val (128 + r / 4096 % 64) (by omega) (by omega)
        have e3 := by8_val (128 + r / 64 % 64) (by omega) (by omega)
        have e4 := by8_val (128 + r % 64) (by omega) (by omega)
        have hs : hsz (240 + r / 262144) = 4 := by unfold hsz; (repeat' split) <;> omega
        have hl : hlo (240 + r / 262144) ≤ 128 + r / 4096 % 64 := by unfold hlo; (repeat' split) <;> omega
        have hh : 128 + r / 4096 % 64 ≤ hhi (240 + r / 262144) := by unfold hhi; (repeat' split) <;> omega
        have hf : fst (240 + r / 262144) = r / 262144 := by unfold fst; rw [hs]; simp; omega
        simp only [List.cons_append, List.nil_append, nx, e1, hs, hf]
        simp [nxt, e2, e3, e4]
        rw [if_neg (by omega), if_neg (by omega), if_neg (by omega)]
        simp
        omega

end Go.Proofs.Ytckohomfoicffaa
