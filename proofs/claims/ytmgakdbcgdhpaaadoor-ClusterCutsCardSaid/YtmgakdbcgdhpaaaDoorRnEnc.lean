/-
  What is encoded decodes. No program is named here.
-/
import Derived.Test.YtmgakdbcgdhpaaaDoorRnBytesM
import Derived.Test.YtmgakdbcgdhpaaaDoorRnAllM
namespace Go.Proofs.YtmgakdbcgdhpaaaDoor
set_option linter.unusedVariables false

set_option maxRecDepth 100000 in
theorem nx_enc (r : Int) (h : isR r) (l : List UInt8) : nx (enc r ++ l) = (r, ((enc r).length : Int), false) := by
  have h0 : 0 ≤ r := h.1
  have h1 : r ≤ 1114111 := h.2.1
  have h2 := h.2.2
  unfold enc
  by_cases c1 : r < 128
  · rw [if_pos c1]
    simp only [List.cons_append, List.nil_append, nx, by8_val r (by omega) (by omega)]
    rw [if_neg (by unfold hsz; (repeat' split) <;> omega), if_pos (by unfold hsz; (repeat' split) <;> omega)]
    rfl
  · rw [if_neg c1]
    by_cases c2 : r < 2048
    · rw [if_pos c2]
      have e1 := by8_val (192 + r / 64) (by omega) (by omega)
      have e2 := by8_val (128 + r % 64) (by omega) (by omega)
      have hs : hsz (192 + r / 64) = 2 := by unfold hsz; (repeat' split) <;> omega
      have hl : hlo (192 + r / 64) = 128 := by unfold hlo; (repeat' split) <;> omega
      have hh : hhi (192 + r / 64) = 191 := by unfold hhi; (repeat' split) <;> omega
      have hf : fst (192 + r / 64) = r / 64 := by unfold fst; rw [hs]; simp; omega
      simp only [List.cons_append, List.nil_append, nx, e1, hs, hl, hh, hf]
      simp [nxt, e2]
      rw [if_neg (by omega)]
      simp
      omega
    · rw [if_neg c2]
      by_cases c3 : r < 65536
      · rw [if_pos c3]
        have e1 := by8_val (224 + r / 4096) (by omega) (by omega)
        have e2 := by8_val (128 + r / 64 % 64) (by omega) (by omega)
        have e3 := by8_val (128 + r % 64) (by omega) (by omega)
        have hs : hsz (224 + r / 4096) = 3 := by unfold hsz; (repeat' split) <;> omega
        have hl : hlo (224 + r / 4096) ≤ 128 + r / 64 % 64 := by unfold hlo; (repeat' split) <;> omega
        have hh : 128 + r / 64 % 64 ≤ hhi (224 + r / 4096) := by unfold hhi; (repeat' split) <;> omega
        have hf : fst (224 + r / 4096) = r / 4096 := by unfold fst; rw [hs]; simp; omega
        simp only [List.cons_append, List.nil_append, nx, e1, hs, hf]
        simp [nxt, e2, e3]
        rw [if_neg (by omega), if_neg (by omega)]
        simp
        omega
      · rw [if_neg c3]
        have e1 := by8_val (240 + r / 262144) (by omega) (by omega)
        have e2 := by8_val (128 + r / 4096 % 64) (by omega) (by omega)
        have e3 := by8_val (128 + r / 64 % 64) (by omega) (by omega)
        have e4 := by8_val (128 + r % 64) (by omega) (by omega)
        have hs : hsz (240 + r / 262144) = 4 := by unfold hsz; (repeat' split) <;> omega
        have hl : hlo (240 + r / 262144) ≤ 128 + r / 4096 % 64 := by unfold hlo; (repeat' split) <;> omega
        have hh : 128 + r / 4096 % 64 ≤ hhi (240 + r / 262144) := by unfold hhi; (repeat' split) <;> omega
        have hf : fst (240 + r / 262144) = r / 262144 := by unfold fst; rw [hs]; simp; omega
        simp only [List.cons_append, List.nil_append, nx, e1, hs, hf]
        simp [nxt, e2, e3, e4]
        rw [if_neg (by omega), if_neg (by omega), if_neg (by omega)]
        simp
        omega
end Go.Proofs.YtmgakdbcgdhpaaaDoor
