/-
  The law RunesNext: what stands first in any bytes, and the bytes of any number: it returns true, and nothing that was there is written.
-/
import Derived.Test.YtgalkmbocbpgiaaRnRNext
import Derived.Test.YtgalkmbocbpgiaaLawBytes
import Derived.Deep.RegionHeld3
namespace Go.Proofs.Ytgalkmbocbpgiaa
open Go.RowKit
set_option linter.unusedVariables false

theorem nx_a : nx [226, 130] = (0, 0, true) := by decide
theorem nx_b : nx [226, 130, 172] = (8364, 3, false) := by decide
theorem nx_c : nx [226, 65] = (65533, 1, false) := by decide

set_option maxRecDepth 100000 in
set_option maxHeartbeats 1000000 in
theorem awake_any (w : World) :
    Calls Try.prog 12 #[] w fun e w' => e = .returned (.bool true) ∧ Below w.heap.size w w' := by
  go_enter Try.func12, Try.ntmps12
  go_wp2_with (fail)
  refine (next_any _ _ _ [226, 130] (w.heap.size + 1) _ rfl (by simp) (Sl.new w #[.int .u8 226, .int .u8 130] 5)).mono ?_
  rintro e w1 ⟨rfl, hb1⟩
  rw [nx_a]
  simp only [nv]
  go_wp2_with (fail)
  refine (next_any _ _ _ [226, 130, 172] (w1.heap.size + 1) _ rfl (by simp) (Sl.new w1 #[.int .u8 226, .int .u8 130, .int .u8 172] 5)).mono ?_
  rintro e w2 ⟨rfl, hb2⟩
  rw [nx_b]
  simp only [nv]
  go_wp2_with (fail)
  refine (next_any _ _ _ [226, 65] (w2.heap.size + 1) _ rfl (by simp) (Sl.new w2 #[.int .u8 226, .int .u8 65] 5)).mono ?_
  rintro e w3 ⟨rfl, hb3⟩
  rw [nx_c]
  simp only [nv]
  go_wp2_with (fail)
  refine (bytes_any 8364 w3).mono ?_
  rintro e w4 ⟨rfl, rfl⟩
  have he : enc (rfix 8364) = [226, 130, 172] := by decide
  rw [he]
  have hcv := run_str_sl (w3.alloc (.cells (bv [226, 130, 172]).toArray 5)) (w3.heap.size + 1) (some ⟨w3.heap.size, 0, none⟩) 3 3 [226, 130, 172] (Sl.new _ _ _) rfl
  go_wp2
  go_ret
  have b1 : Below w.heap.size w w1 := ((Below.refl _ _).alloc (Nat.le_refl _) _).trans (hb1.mono (by simp))
  have b2 : Below w.heap.size w w2 := (b1.alloc b1.size _).trans (hb2.mono (by have := b1.size; simp; omega))
  have b3 : Below w.heap.size w w3 := (b2.alloc b2.size _).trans (hb3.mono (by have := b2.size; simp; omega))
  exact ⟨rfl, b3.alloc b3.size _⟩

set_option maxHeartbeats 400000 in
theorem cut_any (A : Option Addr) (n cap : Nat) (w : World) (hn : n ≤ cap) (hm : n ≤ 9223372036854775807) :
    Calls Try.prog 6 #[.slice A n cap] w fun e w' => e = .returned (.slice A (min n 400) cap) ∧ w = w' := by
  by_cases h : n ≤ 400
  · have e : min n 400 = n := by omega
    rw [e]
    have hi : (n : Int) ≤ 400 := by omega
    go_enter Try.func6, Try.ntmps6
    go_wp2
    go_ret
    exact ⟨rfl, rfl⟩
  · have e : min n 400 = 400 := by omega
    rw [e]
    have hi : ¬ (n : Int) ≤ 400 := by omega
    have hc : 400 ≤ cap := by omega
    go_enter Try.func6, Try.ntmps6
    go_wp2
    go_ret
    exact ⟨rfl, rfl⟩

set_option maxRecDepth 100000 in
theorem nx_enc (r : Int) (h : isR r) (l : List UInt8) : nx (enc r ++ l) = (r, ((enc r).length : Int), false) := by
  have h0 : 0 ≤ r := h.1
  have h1 : r ≤ 1114111 := h.2.1
  have h2 := h.2.2
  unfold enc
  by_cases c1 : r < 128
  · rw [if_pos c1]
    simp only [List.cons_append, List.nil_append, nx, by8_val r (by omega) (by omega)]
    rw [if_neg (by unfold hsz; (repeat' split) <;> omega), if_pos (by unfold hsz; (repeat' split) <;> omega)]
    rfl
  · rw [if_neg c1]
    by_cases c2 : r < 2048
    · rw [if_pos c2]
      have e1 := by8_val (192 + r / 64) (by omega) (by omega)
      have e2 := by8_val (128 + r % 64) (by omega) (by omega)
      have hs : hsz (192 + r / 64) = 2 := by unfold hsz; (repeat' split) <;> omega
      have hl : hlo (192 + r / 64) = 128 := by unfold hlo; (repeat' split) <;> omega
      have hh : hhi (192 + r / 64) = 191 := by unfold hhi; (repeat' split) <;> omega
      have hf : fst (192 + r / 64) = r / 64 := by unfold fst; rw [hs]; simp; omega
      simp only [List.cons_append, List.nil_append, nx, e1, hs, hl, hh, hf]
      simp [nxt, e2]
      rw [if_neg (by omega)]
      simp
      omega
    · rw [if_neg c2]
      by_cases c3 : r < 65536
      · rw [if_pos c3]
        have e1 := by8_val (224 + r / 4096) (by omega) (by omega)
        have e2 := by8_val (128 + r / 64 % 64) (by omega) (by omega)
        have e3 := by8_val (128 + r % 64) (by omega) (by omega)
        have hs : hsz (224 + r / 4096) = 3 := by unfold hsz; (repeat' split) <;> omega
        have hl : hlo (224 + r / 4096) ≤ 128 + r / 64 % 64 := by unfold hlo; (repeat' split) <;> omega
        have hh : 128 + r / 64 % 64 ≤ hhi (224 + r / 4096) := by unfold hhi; (repeat' split) <;> omega
        have hf : fst (224 + r / 4096) = r / 4096 := by unfold fst; rw [hs]; simp; omega
        simp only [List.cons_append, List.nil_append, nx, e1, hs, hf]
        simp [nxt, e2, e3]
        rw [if_neg (by omega), if_neg (by omega)]
        simp
        omega
      · rw [if_neg c3]
        have e1 := by8_val (240 + r / 262144) (by omega) (by omega)
        have e2 := by8_val (128 + r / 4096 % 64) (by omega) (by omega)
        have e3 := by8_val (128 + r / 64 % 64) (by omega) (by omega)
        have e4 := by8_val (128 + r % 64) (by omega) (by omega)
        have hs : hsz (240 + r / 262144) = 4 := by unfold hsz; (repeat' split) <;> omega
        have hl : hlo (240 + r / 262144) ≤ 128 + r / 4096 % 64 := by unfold hlo; (repeat' split) <;> omega
        have hh : 128 + r / 4096 % 64 ≤ hhi (240 + r / 262144) := by unfold hhi; (repeat' split) <;> omega
        have hf : fst (240 + r / 262144) = r / 262144 := by unfold fst; rw [hs]; simp; omega
        simp only [List.cons_append, List.nil_append, nx, e1, hs, hf]
        simp [nxt, e2, e3, e4]
        rw [if_neg (by omega), if_neg (by omega), if_neg (by omega)]
        simp
        omega

set_option maxRecDepth 100000 in
set_option maxHeartbeats 2000000 in
theorem law1_walk (A : Option Addr) (n cap : Nat) (l : List UInt8) (r : Int) (w : World) (hn : n = l.length) (hc : n ≤ cap) (hcm : cap ≤ maxLen) (hnil : A = none → cap = 0) (hS : Sl w w.heap.size A (bv l)) (h0 : -2147483648 ≤ r) (h1 : r ≤ 2147483647) :
    Calls Try.prog 3 #[.slice A n cap, .int .i32 r] w fun e w' => e = .returned (.bool true) ∧ Below w.heap.size w w' := by
  unfold maxLen at hcm
  have hcn : n ≤ 9223372036854775807 := by omega
  have hk : ∃ k : List UInt8, k.length = min n 400 ∧ Sl w w.heap.size A (bv k) := ⟨l.take 400, by simp; omega, by rw [← bv_take]; exact hS.take 400⟩
  obtain ⟨k, hkl, hSk⟩ := hk
  have hk4 : k.length ≤ 400 := by omega
  have hkc : k.length ≤ cap := by omega
  have HK := Lib.hid hkl
  have HS := Lib.hid hSk
  have HN := Lib.hid hnil
  clear hS hSk hkl hnil hn
  go_enter Try.func3, Try.ntmps3
  go_wp2_with (fail)
  refine (cut_any A n cap w hc hcn).mono ?_
  rintro e w' ⟨rfl, rfl⟩
  rw [← HK.out]
  go_wp2_with (fail)
  refine (next_any A k.length cap k w.heap.size w rfl (by omega) HS.out).mono ?_
  rintro e w1 ⟨rfl, hb1⟩
  simp only [nv]
  generalize hx : (nx k).1 = x
  generalize hy : (nx k).2.1 = y
  generalize hz : (nx k).2.2 = z
  have HX := Lib.hid hx
  have HY := Lib.hid hy
  have HZ := Lib.hid hz
  clear hx hy hz
  go_wp2_with (fail)
  refine (rnext_any A k.length cap k w1 rfl (by omega) hkc ((HS.out.below hb1).more hb1.size)).mono ?_
  rintro e w2 ⟨rfl, hb2⟩
  simp only [nv]
  rw [HX.out, HY.out, HZ.out]
  go_wp2_with (fail)
  refine (bytes_any r w2).mono ?_
  rintro e w3 ⟨rfl, rfl⟩
  generalize hc : enc (rfix r) = c
  have HC := Lib.hid hc
  have hc4 := enc_le (rfix r)
  rw [hc] at hc4
  clear hc
  have hb3 : Below w.heap.size w w2 := hb1.trans (hb2.mono hb1.size)
  have hSc0 : Sl (w2.alloc (.cells (bv c).toArray 5)) (w2.alloc (.cells (bv c).toArray 5)).heap.size (some ⟨w2.heap.size, 0, none⟩) (bv c) := by
    have := Sl.new w2 (bv c).toArray 5
    simpa using this
  have hlt0 : w2.heap.size < (w2.alloc (.cells (bv c).toArray 5)).heap.size := by simp
  have h230 : Below w.heap.size w (w2.alloc (.cells (bv c).toArray 5)) := hb3.alloc hb3.size _
  generalize w2.alloc (.cells (bv c).toArray 5) = w3 at hSc0 hlt0 h230 ⊢
  generalize w2.heap.size = g2 at hSc0 hlt0 ⊢
  have HSc := Lib.hid hSc0
  have H3 := Lib.hid h230
  clear hSc0 hb1 hb2 hb3
  go_wp2_with (first
    | (at_builtin
       (refine wpList_app_u8 _ rfl (.tmp 32) (.tmp 33) rfl w3.heap.size (some ⟨w3.heap.size, 0, none⟩) 0 0 [] rfl (OB.lit w3 [] (Nat.le_refl _) (by simp)) _ c.length c.length c w3.heap.size rfl (HSc.out.alloc (Nat.le_refl _) _) rfl (fun h => by cases h) c.length (by omega) (by omega) (by simp) ?_)
       intro A4 c4 w4 hown4 hg4 hat4
       have hb4 : Below w3.heap.size w3 w4 := ((Below.refl _ _).alloc (Nat.le_refl _) _).grown hg4 (by simp) (by simp [blk]))
    | (at_builtin
       (refine wpList_app_u8 _ rfl (.tmp 34) (.tmp 35) rfl w3.heap.size A4 c.length c4 ([] ++ c) rfl hown4 A k.length cap k w.heap.size rfl ((HS.out.below H3.out).below (hb4.mono H3.out.size)) rfl HN.out (c.length + k.length) (by omega) (by omega) hb4.size ?_)
       intro A5 c5 w5 hown5 hg5 hat5))
  refine (next_any A5 (c.length + k.length) c5 (c ++ k) w5.heap.size w5 (by simp) (by simp; omega) hown5.sl).mono ?_
  rintro e w6 ⟨rfl, hb6⟩
  rw [← HC.out, nx_enc _ (rfix_isR r), HC.out]
  simp only [nv]
  have hb5 : Below w3.heap.size w3 w5 := hb4.grown hg5 hb4.size (fun g hg => (hown4.blk_lt g hg).1)
  have hb36 : Below w3.heap.size w3 w6 := hb5.trans (hb6.mono hb5.size)
  have hS6 := HSc.out.below hb36
  have hg6 : g2 < w6.heap.size := by have := hb36.size; omega
  have H6 := Lib.hid (H3.out.trans (hb36.mono H3.out.size))
  have hlt36 : w3.heap.size ≤ w6.heap.size := hb36.size
  clear hb5 hb6 hb36 hb4 hg4 hat4 hown4 hg5 hat5 hown5
  have cv1 := run_str_sl w6 w3.heap.size (some ⟨g2, 0, none⟩) c.length c.length c hS6 rfl
  have cv2 := run_str_sl w6.drew w3.heap.size (some ⟨g2, 0, none⟩) c.length c.length c hS6.drew rfl
  have cv3 := fun o => run_str_sl (w6.alloc o) w3.heap.size (some ⟨g2, 0, none⟩) c.length c.length c (hS6.alloc hlt36 o) rfl
  have cv4 := fun o => run_str_sl (w6.alloc o).drew w3.heap.size (some ⟨g2, 0, none⟩) c.length c.length c (hS6.alloc hlt36 o).drew rfl
  have hSn : Sl (w6.alloc (.cells (bv c).toArray 5)) (w6.heap.size + 1) (some ⟨w6.heap.size, 0, none⟩) (bv c) := by
    have := Sl.new w6 (bv c).toArray 5
    simpa using this
  have cv5 := run_str_sl (w6.alloc (.cells (bv c).toArray 5)) _ _ c.length c.length c hSn rfl
  have cv6 := run_str_sl (w6.alloc (.cells (bv c).toArray 5)).drew _ _ c.length c.length c hSn.drew rfl
  clear hS6 hSn HSc
  have hrb : ∀ w', Calls Try.prog 10 #[.int .i32 r] w' fun e w'' => e = .returned (.slice (some ⟨w'.heap.size, 0, none⟩) c.length c.length) ∧ w'' = w'.alloc (.cells (bv c).toArray 5) := by
    intro w'
    have := rbytes_any r w'
    rw [HC.out] at this
    exact this
  have HRB := Lib.hid hrb
  clear hrb
  go_wp2_with (fail)
  go_region_held (fun w' => Sem.run Try.prog (Go.convert 22 9 (.slice (some ⟨g2, 0, none⟩) c.length c.length)) w' = .ok (.string ⟨c.toArray⟩) w')
    (first | exact cv2 | exact cv4 _ | exact cv1 | exact cv3 _)
    (first | (go_at_call 10; refine (HRB.out _).mono ?_; rintro e w' ⟨rfl, rfl⟩))
  clear cv1 cv2 cv3 cv4 cv5 cv6
  have hfin : Below w.heap.size w (w6.alloc (.cells (bv c).toArray 5)).drew := (H6.out.alloc H6.out.size _).drew
  have HF := Lib.hid hfin
  clear hfin
  generalize (w6.alloc (.cells (bv c).toArray 5)).drew = w7 at HF ⊢
  by_cases hr : isR r
  · have hq : (rfix r == r) = true := by rw [show rfix r = r from if_pos hr]; exact beq_self_eq_true r
    clear hr
    go_wp2_with (go_at_call 12; refine (awake_any _).mono ?_; rintro e w' ⟨rfl, hb9⟩)
    go_ret
    exact ⟨rfl, HF.out.trans (hb9.mono HF.out.size)⟩
  · have hx5 : rfix r = 65533 := if_neg hr
    have hq : (rfix r == r) = false := by
      rw [hx5]
      rw [beq_eq_false_iff_ne]
      intro e
      subst e
      exact hr (by decide)
    have hq2 : (rfix r == 65533) = true := by rw [hx5]; rfl
    have HD := Lib.hid (decide_eq_false hr)
    clear hr hx5
    go_wp2_with (first | (go_at_call 11; refine (is_any _ _).mono ?_; rintro e w' ⟨rfl, rfl⟩; rw [HD.out]) | (go_at_call 12; refine (awake_any _).mono ?_; rintro e w' ⟨rfl, hb9⟩))
    go_ret
    exact ⟨rfl, HF.out.trans (hb9.mono HF.out.size)⟩
end Go.Proofs.Ytgalkmbocbpgiaa
