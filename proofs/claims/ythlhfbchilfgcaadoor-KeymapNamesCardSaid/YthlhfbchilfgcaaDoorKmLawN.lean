/-
  The law KeymapNames, walked.
-/
import Derived.Test.YthlhfbchilfgcaaDoorKmBack
import Derived.Laws.StructEq
namespace Go.Proofs.YthlhfbchilfgcaaDoor
open Go.RowKit Go.Sort
set_option linter.unusedVariables false
set_option linter.unusedSimpArgs false

theorem kv_fields : Tryd.prog.underlying 24 = some (.struct (Tryd.prog.fieldsOf 24)) := by kernel_rfl
theorem kv_stood : Tryd.prog.stoodInHeld 24 = false := by kernel_rfl
theorem kv_guard : Tryd.prog.eqGuardType Tryd.prog.depth 24 = false := by kernel_rfl
theorem run_eq_kv (c : Kv) (w : World) :
    (Op.equalIn 10000 24 (.agg #[.int .i64 c.c, .string ⟨c.s.toArray⟩, .int .i64 c.n, .bool c.a, .bool c.h, .bool c.t]) (.agg #[.int .i64 c.c, .string ⟨c.s.toArray⟩, .int .i64 c.n, .bool c.a, .bool c.h, .bool c.t])).run Tryd.prog w = .ok true w := by
  rw [show (10000 : Nat) = 9999 + 1 from rfl, run_equalIn_agg w 9999 24 _ _ kv_fields kv_stood]
  simp only [Program.fieldsOf, Tryd.underlying24]
  go_simp
  try simp
theorem run_neq_kv (c : Kv) (w : World) :
    Sem.run Tryd.prog (binOp .neq 24 (.agg #[.int .i64 c.c, .string ⟨c.s.toArray⟩, .int .i64 c.n, .bool c.a, .bool c.h, .bool c.t]) (.agg #[.int .i64 c.c, .string ⟨c.s.toArray⟩, .int .i64 c.n, .bool c.a, .bool c.h, .bool c.t])) w = .ok (.bool false) w := by
  simp only [binOp]
  simp [Op.equal, Op.maxDepth, run_eq_kv c, kv_guard]
set_option maxRecDepth 100000 in
set_option maxHeartbeats 1000000 in
theorem lcut_any (s : ByteArray) (hs : s.size ≤ 9223372036854775807) (w : World) :
    Calls Tryd.prog 8 #[.string s] w fun e w' => e = .returned (.string ⟨(s.data.toList.take 60).toArray⟩) ∧ w = w' := by
  have hl : s.data.toList.length = s.size := by simp
  by_cases h : 60 < s.size
  · have h1 : (60 : Int) < (s.size : Int) := by omega
    have h2 : 60 ≤ s.size := by omega
    have HE : Hid ((⟨(s.data.toList.take 60).toArray⟩ : ByteArray) = s.extract 0 60) := Lib.hid (by
      apply ByteArray.ext
      apply Array.toList_inj.1
      rw [Lib.extract_data]
      simp)
    clear hl h
    go_enter Tryd.func8, Tryd.ntmps8
    go_wp2_with (fail)
    go_ret
    exact ⟨by rw [HE.out]; rfl, rfl⟩
  · have h1 : ¬ (60 : Int) < (s.size : Int) := by omega
    have HE : Hid ((⟨(s.data.toList.take 60).toArray⟩ : ByteArray) = s) := Lib.hid (by
      apply ByteArray.ext
      apply Array.toList_inj.1
      simp only
      exact List.take_of_length_le (by omega))
    clear hl h
    go_enter Tryd.func8, Tryd.ntmps8
    go_wp2_with (fail)
    go_ret
    exact ⟨by rw [HE.out]; rfl, rfl⟩

theorem keyP_len (s : List UInt8) : (keyP s).1.s.length ≤ s.length := by
  unfold keyP
  split
  · exact readK_len s
  · exact Nat.zero_le _
set_option maxRecDepth 100000 in
set_option maxHeartbeats 32000000 in
theorem keymapNames_walk (a b : Kv) (s : ByteArray) (hs : s.size ≤ 9223372036854775807) (w : World) (hT : KmT w) (hN : NumT w) :
    Calls Tryd.prog 3 #[.agg #[.int .i64 a.c, .string ⟨a.s.toArray⟩, .int .i64 a.n, .bool a.a, .bool a.h, .bool a.t], .agg #[.int .i64 b.c, .string ⟨b.s.toArray⟩, .int .i64 b.n, .bool b.a, .bool b.h, .bool b.t], .string s] w fun e w' => e = .returned (.bool true) ∧ Below w.heap.size w w' := by
  have HT := Lib.hid hT
  have HN := Lib.hid hN
  have HS := Lib.hid hs
  obtain ⟨A, hA⟩ : ∃ A, A = fewK a := ⟨_, rfl⟩
  obtain ⟨B, hB⟩ : ∃ B, B = fewK b := ⟨_, rfl⟩
  have hAl : A.s.length ≤ 40 := by rw [hA]; simp [fewK]; omega
  have hBl : B.s.length ≤ 40 := by rw [hB]; simp [fewK]; omega
  have HFA := Lib.hid (few_any a)
  have HFB := Lib.hid (few_any b)
  rw [← hA] at HFA
  rw [← hB] at HFB
  obtain ⟨S, hS⟩ : ∃ S, S = s.data.toList.take 60 := ⟨_, rfl⟩
  have hSl : S.length ≤ 60 := by rw [hS]; simp; omega
  have HCT := Lib.hid (lcut_any s hs)
  rw [← hS] at HCT
  have HKEY : Hid (∀ W, Below w.heap.size w W → Calls Tryd.prog 9 #[.string ⟨S.toArray⟩] W fun e w' => e = .returned (.tuple #[.agg #[.int .i64 (keyP S).1.c, .string ⟨(keyP S).1.s.toArray⟩, .int .i64 (keyP S).1.n, .bool (keyP S).1.a, .bool (keyP S).1.h, .bool (keyP S).1.t], .int .i64 (keyP S).2]) ∧ Below W.heap.size W w') := Lib.hid (fun W hW => key_any S hSl W (hT.below hW (Nat.le_refl _)).nm (hN.bel hW))
  have HRKY : Hid (∀ W, Calls Tryd.prog 10 #[.string ⟨S.toArray⟩] W fun e w' => e = .returned (.tuple #[.agg #[.int .i64 (keyP S).1.c, .string ⟨(keyP S).1.s.toArray⟩, .int .i64 (keyP S).1.n, .bool (keyP S).1.a, .bool (keyP S).1.h, .bool (keyP S).1.t], .int .i64 (keyP S).2]) ∧ Below W.heap.size W w') := Lib.hid (fun W => rkey_any S hSl W)
  have hKP : ((keyP S).2 = 0 ∧ nameF (keyP S).1 = S ∧ (keyP S).1.s.length ≤ 60) ∨ (keyP S).2 = 80 := by
    unfold keyP
    by_cases h : chk (readK S) = true ∧ nameF (readK S) = S
    · rw [if_pos h]
      exact .inl ⟨rfl, h.2, Nat.le_trans (readK_len S) hSl⟩
    · rw [if_neg h]
      exact .inr rfl
  generalize keyP S = KP at HKEY HRKY hKP
  obtain ⟨K, ke⟩ := KP
  simp only at HKEY HRKY hKP
  have HKP := Lib.hid hKP
  have HAL := Lib.hid hAl
  have HBL := Lib.hid hBl
  have hk0 : Blk ((w.alloc (.cells #[.int .i64 a.c, .string ⟨a.s.toArray⟩, .int .i64 a.n, .bool a.a, .bool a.h, .bool a.t] 24)).alloc (.cells #[.int .i64 b.c, .string ⟨b.s.toArray⟩, .int .i64 b.n, .bool b.a, .bool b.h, .bool b.t] 24)) w.heap.size 24 a.cells := (Blk.new w 24 a.cells).alloc _
  have hz0 := Blk.new (w.alloc (.cells #[.int .i64 a.c, .string ⟨a.s.toArray⟩, .int .i64 a.n, .bool a.a, .bool a.h, .bool a.t] 24)) 24 b.cells
  simp only [World.size_alloc] at hz0
  have hb0 : Below w.heap.size w ((w.alloc (.cells #[.int .i64 a.c, .string ⟨a.s.toArray⟩, .int .i64 a.n, .bool a.a, .bool a.h, .bool a.t] 24)).alloc (.cells #[.int .i64 b.c, .string ⟨b.s.toArray⟩, .int .i64 b.n, .bool b.a, .bool b.h, .bool b.t] 24)) := (kbel w _).alloc (by simp) _
  clear hT hN hs hA hB hAl hBl hS hSl hKP
  go_enter Tryd.func3, Tryd.ntmps3
  go_upto_region 1 with (fail)
  generalize hW : (w.alloc (.cells #[.int .i64 a.c, .string ⟨a.s.toArray⟩, .int .i64 a.n, .bool a.a, .bool a.h, .bool a.t] 24)).alloc (.cells #[.int .i64 b.c, .string ⟨b.s.toArray⟩, .int .i64 b.n, .bool b.a, .bool b.h, .bool b.t] 24) = W at hb0 ⊢
  have hk1 : Blk W w.heap.size 24 a.cells := hW ▸ hk0
  have hz1 : Blk W (w.heap.size + 1) 24 b.cells := hW ▸ hz0
  have HA0 := Lib.hid hk1
  have HB0 := Lib.hid hz1
  have HW0 := Lib.hid hb0
  have x0 : W.cell? ⟨w.heap.size, 0, none⟩ = some (.int .i64 a.c) := hk1.cell 0
  have x1 : W.cell? ⟨w.heap.size, 1, none⟩ = some (.string ⟨a.s.toArray⟩) := hk1.cell 1
  have x2 : W.cell? ⟨w.heap.size, 2, none⟩ = some (.int .i64 a.n) := hk1.cell 2
  have x3 : W.cell? ⟨w.heap.size, 3, none⟩ = some (.bool a.a) := hk1.cell 3
  have x4 : W.cell? ⟨w.heap.size, 4, none⟩ = some (.bool a.h) := hk1.cell 4
  have x5 : W.cell? ⟨w.heap.size, 5, none⟩ = some (.bool a.t) := hk1.cell 5
  clear hk0 hz0 hk1 hz1 hb0 hW
  go_upto_region 2 with (first
    | (go_at_call 7; refine (HFA.out _).mono ?_; rintro e w1 ⟨rfl, hb1⟩; have HA1 := Lib.hid (HA0.out.below hb1 HA0.out.lt); have HB1 := Lib.hid (HB0.out.below hb1 HB0.out.lt); have HW1 := Lib.hid (HW0.out.trans (hb1.mono HW0.out.size)); clear hb1 x0 x1 x2 x3 x4 x5)
    | ((with_reducible refine at_store 3 ?_); refine wpList_store_blk rfl _ _ _ rfl rfl w.heap.size 0 _ a.cells A.cells rfl rfl HA1.out (by simp [Kv.len]) kv_size (Kv.one _) ?_; intro w2 hn2 hg2; have HA2 : Hid (Blk w2 w.heap.size 24 A.cells) := Lib.hid hn2; have HB2 : Hid (Blk w2 (w.heap.size + 1) 24 b.cells) := Lib.hid ((hg2.block _ HB1.out.lt (fun e => by injection e with e; omega)).trans HB1.out); have HW2 := Lib.hid (kfin (Nat.le_refl _) HW1.out hg2); clear hn2 hg2))
  have hk1 := HB2.out
  have x0 : w2.cell? ⟨w.heap.size + 1, 0, none⟩ = some (.int .i64 b.c) := hk1.cell 0
  have x1 : w2.cell? ⟨w.heap.size + 1, 1, none⟩ = some (.string ⟨b.s.toArray⟩) := hk1.cell 1
  have x2 : w2.cell? ⟨w.heap.size + 1, 2, none⟩ = some (.int .i64 b.n) := hk1.cell 2
  have x3 : w2.cell? ⟨w.heap.size + 1, 3, none⟩ = some (.bool b.a) := hk1.cell 3
  have x4 : w2.cell? ⟨w.heap.size + 1, 4, none⟩ = some (.bool b.h) := hk1.cell 4
  have x5 : w2.cell? ⟨w.heap.size + 1, 5, none⟩ = some (.bool b.t) := hk1.cell 5
  clear hk1
  go_upto_region 4 with (first
    | (go_at_call 7; refine (HFB.out _).mono ?_; rintro e w3 ⟨rfl, hb3⟩; have HA3 := Lib.hid (HA2.out.below hb3 HA2.out.lt); have HB3 := Lib.hid (HB2.out.below hb3 HB2.out.lt); have HW3 := Lib.hid (HW2.out.trans (hb3.mono HW2.out.size)); clear hb3 x0 x1 x2 x3 x4 x5)
    | ((with_reducible refine at_store 4 ?_); refine wpList_store_blk rfl _ _ _ rfl rfl (w.heap.size + 1) 0 _ b.cells B.cells rfl rfl HB3.out (by simp [Kv.len]) kv_size (Kv.one _) ?_; intro w4 hn4 hg4; have HB4 : Hid (Blk w4 (w.heap.size + 1) 24 B.cells) := Lib.hid hn4; have HA4 : Hid (Blk w4 w.heap.size 24 A.cells) := Lib.hid ((hg4.block _ HA3.out.lt (fun e => by injection e with e; omega)).trans HA3.out); have HW4 := Lib.hid (kfin (by omega) HW3.out hg4); clear hn4 hg4)
    | (go_at_call 8; refine (HCT.out _).mono ?_; rintro e w' ⟨rfl, rfl⟩))
  clear HA0 HA1 HA2 HA3 HB0 HB1 HB2 HB3 HW0 HW1 HW2 HW3
  go_upto_region 5 with (go_at_call 9; refine (HKEY.out _ HW4.out).mono ?_; rintro e w5 ⟨rfl, hb5⟩; have HA5 := Lib.hid (HA4.out.below hb5 HA4.out.lt); have HB5 := Lib.hid (HB4.out.below hb5 HB4.out.lt); have HW5 := Lib.hid (HW4.out.trans (hb5.mono HW4.out.size)); clear hb5)
  have hk6 : Blk (w5.alloc (.cells #[.int .i64 K.c, .string ⟨K.s.toArray⟩, .int .i64 K.n, .bool K.a, .bool K.h, .bool K.t] 24)) w5.heap.size 24 K.cells := Blk.new w5 _ _
  have ha6 := HA5.out.alloc (.cells #[.int .i64 K.c, .string ⟨K.s.toArray⟩, .int .i64 K.n, .bool K.a, .bool K.h, .bool K.t] 24)
  have hb6 := HB5.out.alloc (.cells #[.int .i64 K.c, .string ⟨K.s.toArray⟩, .int .i64 K.n, .bool K.a, .bool K.h, .bool K.t] 24)
  have hw6 := HW5.out.alloc HW5.out.size (.cells #[.int .i64 K.c, .string ⟨K.s.toArray⟩, .int .i64 K.n, .bool K.a, .bool K.h, .bool K.t] 24)
  generalize w5.alloc (.cells #[.int .i64 K.c, .string ⟨K.s.toArray⟩, .int .i64 K.n, .bool K.a, .bool K.h, .bool K.t] 24) = w6 at hk6 ha6 hb6 hw6 ⊢
  generalize w5.heap.size = g7 at hk6 ⊢
  have HK6 := Lib.hid hk6
  have HA6 := Lib.hid ha6
  have HB6 := Lib.hid hb6
  have HW6 := Lib.hid hw6
  clear hk6 ha6 hb6 hw6 HA4 HB4 HW4 HA5 HB5 HW5
  go_upto_region 6 with (go_at_call 10; refine (HRKY.out _).mono ?_; rintro e w7 ⟨rfl, hb7⟩; have HA7 := Lib.hid (HA6.out.below hb7 HA6.out.lt); have HB7 := Lib.hid (HB6.out.below hb7 HB6.out.lt); have HK7 := Lib.hid (HK6.out.below hb7 HK6.out.lt); have HW7 := Lib.hid (HW6.out.trans (hb7.mono HW6.out.size)); clear hb7)
  have hr8 : Blk (w7.alloc (.cells #[.int .i64 K.c, .string ⟨K.s.toArray⟩, .int .i64 K.n, .bool K.a, .bool K.h, .bool K.t] 24)) w7.heap.size 24 K.cells := Blk.new w7 _ _
  have hk8 := HK7.out.alloc (.cells #[.int .i64 K.c, .string ⟨K.s.toArray⟩, .int .i64 K.n, .bool K.a, .bool K.h, .bool K.t] 24)
  have ha8 := HA7.out.alloc (.cells #[.int .i64 K.c, .string ⟨K.s.toArray⟩, .int .i64 K.n, .bool K.a, .bool K.h, .bool K.t] 24)
  have hb8 := HB7.out.alloc (.cells #[.int .i64 K.c, .string ⟨K.s.toArray⟩, .int .i64 K.n, .bool K.a, .bool K.h, .bool K.t] 24)
  have hw8 := HW7.out.alloc HW7.out.size (.cells #[.int .i64 K.c, .string ⟨K.s.toArray⟩, .int .i64 K.n, .bool K.a, .bool K.h, .bool K.t] 24)
  generalize w7.alloc (.cells #[.int .i64 K.c, .string ⟨K.s.toArray⟩, .int .i64 K.n, .bool K.a, .bool K.h, .bool K.t] 24) = w8 at hr8 hk8 ha8 hb8 hw8 ⊢
  generalize w7.heap.size = g9 at hr8 ⊢
  have HK8 := Lib.hid hk8
  have HA8 := Lib.hid ha8
  have HB8 := Lib.hid hb8
  have HW8 := Lib.hid hw8
  clear HA6 HB6 HW6 HK6 HA7 HB7 HW7 HK7 hb8
  have hneq := run_neq_kv K
  have x0 : ∀ d os, (grow (redrawn w8 d) os).cell? ⟨w.heap.size, 0, none⟩ = some (.int .i64 A.c) := cell_regrown (ha8.cell 0)
  have x1 : ∀ d os, (grow (redrawn w8 d) os).cell? ⟨w.heap.size, 1, none⟩ = some (.string ⟨A.s.toArray⟩) := cell_regrown (ha8.cell 1)
  have x2 : ∀ d os, (grow (redrawn w8 d) os).cell? ⟨w.heap.size, 2, none⟩ = some (.int .i64 A.n) := cell_regrown (ha8.cell 2)
  have x3 : ∀ d os, (grow (redrawn w8 d) os).cell? ⟨w.heap.size, 3, none⟩ = some (.bool A.a) := cell_regrown (ha8.cell 3)
  have x4 : ∀ d os, (grow (redrawn w8 d) os).cell? ⟨w.heap.size, 4, none⟩ = some (.bool A.h) := cell_regrown (ha8.cell 4)
  have x5 : ∀ d os, (grow (redrawn w8 d) os).cell? ⟨w.heap.size, 5, none⟩ = some (.bool A.t) := cell_regrown (ha8.cell 5)
  have y0 : ∀ d os, (grow (redrawn w8 d) os).cell? ⟨g7, 0, none⟩ = some (.int .i64 K.c) := cell_regrown (hk8.cell 0)
  have y1 : ∀ d os, (grow (redrawn w8 d) os).cell? ⟨g7, 1, none⟩ = some (.string ⟨K.s.toArray⟩) := cell_regrown (hk8.cell 1)
  have y2 : ∀ d os, (grow (redrawn w8 d) os).cell? ⟨g7, 2, none⟩ = some (.int .i64 K.n) := cell_regrown (hk8.cell 2)
  have y3 : ∀ d os, (grow (redrawn w8 d) os).cell? ⟨g7, 3, none⟩ = some (.bool K.a) := cell_regrown (hk8.cell 3)
  have y4 : ∀ d os, (grow (redrawn w8 d) os).cell? ⟨g7, 4, none⟩ = some (.bool K.h) := cell_regrown (hk8.cell 4)
  have y5 : ∀ d os, (grow (redrawn w8 d) os).cell? ⟨g7, 5, none⟩ = some (.bool K.t) := cell_regrown (hk8.cell 5)
  have z0 : ∀ d os, (grow (redrawn w8 d) os).cell? ⟨g9, 0, none⟩ = some (.int .i64 K.c) := cell_regrown (hr8.cell 0)
  have z1 : ∀ d os, (grow (redrawn w8 d) os).cell? ⟨g9, 1, none⟩ = some (.string ⟨K.s.toArray⟩) := cell_regrown (hr8.cell 1)
  have z2 : ∀ d os, (grow (redrawn w8 d) os).cell? ⟨g9, 2, none⟩ = some (.int .i64 K.n) := cell_regrown (hr8.cell 2)
  have z3 : ∀ d os, (grow (redrawn w8 d) os).cell? ⟨g9, 3, none⟩ = some (.bool K.a) := cell_regrown (hr8.cell 3)
  have z4 : ∀ d os, (grow (redrawn w8 d) os).cell? ⟨g9, 4, none⟩ = some (.bool K.h) := cell_regrown (hr8.cell 4)
  have z5 : ∀ d os, (grow (redrawn w8 d) os).cell? ⟨g9, 5, none⟩ = some (.bool K.t) := cell_regrown (hr8.cell 5)
  have hT8 : ∀ d os, KmT (grow (redrawn w8 d) os) := fun d os => (HT.out.below HW8.out (Nat.le_refl _)).below (below_regrown w8 d os) (Nat.le_refl _)
  have Q1 := Lib.hid (fun d os => Calls.regrown_of (check_any A (by have := HAL.out; omega) (grow (redrawn w8 d) os)))
  have Q2 := Lib.hid (fun d os => Calls.regrown_of (rcheck_any A (by have := HAL.out; omega) (grow (redrawn w8 d) os)))
  have Q3 := Lib.hid (fun d os => Calls.regrown_of (name_any A (by have := HAL.out; omega) (grow (redrawn w8 d) os) (hT8 d os).nm))
  have Q4 := Lib.hid (fun d os => Calls.regrown_of (rname_any A (by have := HAL.out; omega) (grow (redrawn w8 d) os)))
  have Q5 := Lib.hid (fun d os => Calls.regrown_of (mawake_any (grow (redrawn w8 d) os) (hT8 d os)))
  generalize (if chk A = true then (0 : Int) else 80) = ca at Q1 Q2
  obtain ⟨NA, hNA⟩ : ∃ NA : ByteArray, NA = ⟨(nameF A).toArray⟩ := ⟨_, rfl⟩
  rw [← hNA] at Q3 Q4
  have HNA := Lib.hid hNA
  clear hr8 hk8 ha8 hw8 hT8 hNA
  go_wp2_with (fail)
  refine region_below0 (by kernel_rfl) (by kernel_rfl) ?_
  repeat (first
    | go_big_quiet_step (first | with_reducible exact Q1.out _ _ | with_reducible exact Q2.out _ _ | with_reducible exact Q3.out _ _ | with_reducible exact Q4.out _ _ | with_reducible exact Q5.out _ _)
    | quiet_step (first | with_reducible exact Q1.out _ _ | with_reducible exact Q2.out _ _ | with_reducible exact Q3.out _ _ | with_reducible exact Q4.out _ _ | with_reducible exact Q5.out _ _))
  refine wpQuiet_nil ?_
  intro _ hw'
  obtain ⟨⟨dq, osq⟩, hw''⟩ := hw'
  subst hw''
  have HW9 := Lib.hid (HW8.out.trans ((below_regrown w8 dq osq).mono HW8.out.size))
  have HA9 := Lib.hid (HA8.out.below (below_regrown w8 dq osq) HA8.out.lt)
  have HB9 := Lib.hid (HB8.out.below (below_regrown w8 dq osq) HB8.out.lt)
  have HK9 := Lib.hid (HK8.out.below (below_regrown w8 dq osq) HK8.out.lt)
  clear x0 x1 x2 x3 x4 x5 y0 y1 y2 y3 y4 y5 z0 z1 z2 z3 z4 z5 Q1 Q2 Q3 Q4 Q5 hneq
  generalize grow (redrawn w8 dq) osq = w9 at HW9 HA9 HB9 HK9 ⊢
  rcases HKP.out with ⟨h0, hnk, hkl⟩ | h80
  · subst h0
    have HNK : Hid (∀ W, Below w.heap.size w W → Calls Tryd.prog 13 #[.agg #[.int .i64 K.c, .string ⟨K.s.toArray⟩, .int .i64 K.n, .bool K.a, .bool K.h, .bool K.t]] W fun e w' => e = .returned (.string ⟨S.toArray⟩) ∧ Below W.heap.size W w') := Lib.hid (fun W hW => by rw [← hnk]; exact name_any K (by omega) W (HT.out.below hW (Nat.le_refl _)).nm)
    clear hnk hkl HKP
    have hkx := HK9.out
    have y0 : w9.cell? ⟨g7, 0, none⟩ = some (.int .i64 K.c) := hkx.cell 0
    have y1 : w9.cell? ⟨g7, 1, none⟩ = some (.string ⟨K.s.toArray⟩) := hkx.cell 1
    have y2 : w9.cell? ⟨g7, 2, none⟩ = some (.int .i64 K.n) := hkx.cell 2
    have y3 : w9.cell? ⟨g7, 3, none⟩ = some (.bool K.a) := hkx.cell 3
    have y4 : w9.cell? ⟨g7, 4, none⟩ = some (.bool K.h) := hkx.cell 4
    have y5 : w9.cell? ⟨g7, 5, none⟩ = some (.bool K.t) := hkx.cell 5
    clear hkx
    go_wp2_with (fail)
    go_upto_region 10 with (go_at_call 13; refine (HNK.out _ HW9.out).mono ?_; rintro e w10 ⟨rfl, hb⟩; have HA10 := Lib.hid (HA9.out.below hb HA9.out.lt); have HB10 := Lib.hid (HB9.out.below hb HB9.out.lt); have HW10 := Lib.hid (HW9.out.trans (hb.mono HW9.out.size)); clear hb y0 y1 y2 y3 y4 y5)
    have hkx := HA10.out
    have x0 : w10.cell? ⟨w.heap.size, 0, none⟩ = some (.int .i64 A.c) := hkx.cell 0
    have x1 : w10.cell? ⟨w.heap.size, 1, none⟩ = some (.string ⟨A.s.toArray⟩) := hkx.cell 1
    have x2 : w10.cell? ⟨w.heap.size, 2, none⟩ = some (.int .i64 A.n) := hkx.cell 2
    have x3 : w10.cell? ⟨w.heap.size, 3, none⟩ = some (.bool A.a) := hkx.cell 3
    have x4 : w10.cell? ⟨w.heap.size, 4, none⟩ = some (.bool A.h) := hkx.cell 4
    have x5 : w10.cell? ⟨w.heap.size, 5, none⟩ = some (.bool A.t) := hkx.cell 5
    clear hkx
    have hck := rcheck_any A (by have := HAL.out; omega)
    by_cases hc : chk A = true
    · rw [if_pos hc] at hck
      have HCK := Lib.hid hck
      obtain ⟨k1, k2, k3, k4, k5, k6, k7⟩ := key_back A HAL.out hc
      have hxl : (keyP (nameF A)).1.s.length ≤ 60 := Nat.le_trans (keyP_len (nameF A)) (nameF_len A HAL.out)
      have hkey := fun W (hW : Below w.heap.size w W) => key_any (nameF A) (nameF_len A HAL.out) W (HT.out.below hW (Nat.le_refl _)).nm (HN.out.bel hW)
      have hxx : (keyP (nameF A)).1 = ⟨A.c, (keyP (nameF A)).1.s, A.n, A.a, A.h, A.t⟩ := by
        generalize (keyP (nameF A)).1 = X at k2 k3 k4 k5 k6 k7
        obtain ⟨c, s, n, a, h, t⟩ := X
        simp only at k3 k4 k5 k6 k7 ⊢
        rw [k3, k4, k5, k6, k7]
      rw [hxx] at k2
      have hagg : (keyP (nameF A)).1.agg = .agg #[.int .i64 A.c, .string ⟨(keyP (nameF A)).1.s.toArray⟩, .int .i64 A.n, .bool A.a, .bool A.h, .bool A.t] := by
        conv => lhs; rw [hxx]
        rfl
      have hkey2 : ∀ W, Below w.heap.size w W → Calls Tryd.prog 9 #[.string ⟨(nameF A).toArray⟩] W fun e w' => e = .returned (.tuple #[.agg #[.int .i64 A.c, .string ⟨(keyP (nameF A)).1.s.toArray⟩, .int .i64 A.n, .bool A.a, .bool A.h, .bool A.t], .int .i64 0]) ∧ Below W.heap.size W w' := fun W hW => (hkey W hW).mono (fun e w' h => ⟨h.1.trans (by rw [k1, hagg]), h.2⟩)
      clear hagg hxx hkey k1 k3 k4 k5 k6 k7
      generalize (keyP (nameF A)).1.s = Xs at k2 hxl hkey2
      rw [← HNA.out] at hkey2
      have HKEY2 := Lib.hid hkey2
      have HX2 := Lib.hid k2
      have HXL := Lib.hid hxl
      have HNM : Hid (∀ W, Below w.heap.size w W → Calls Tryd.prog 13 #[.agg #[.int .i64 A.c, .string ⟨A.s.toArray⟩, .int .i64 A.n, .bool A.a, .bool A.h, .bool A.t]] W fun e w' => e = .returned (.string NA) ∧ Below W.heap.size W w') := Lib.hid (fun W hW => by rw [HNA.out]; exact name_any A (by have := HAL.out; omega) W (HT.out.below hW (Nat.le_refl _)).nm)
      clear hc hck k2 hxl hkey2
      go_upto_region 12 with (go_at_call 12; refine (HCK.out _).mono ?_; rintro e w11 ⟨rfl, hb⟩; have HA11 := Lib.hid (HA10.out.below hb HA10.out.lt); have HB11 := Lib.hid (HB10.out.below hb HB10.out.lt); have HW11 := Lib.hid (HW10.out.trans (hb.mono HW10.out.size)); clear hb x0 x1 x2 x3 x4 x5)
      have hkx := HA11.out
      have x0 : w11.cell? ⟨w.heap.size, 0, none⟩ = some (.int .i64 A.c) := hkx.cell 0
      have x1 : w11.cell? ⟨w.heap.size, 1, none⟩ = some (.string ⟨A.s.toArray⟩) := hkx.cell 1
      have x2 : w11.cell? ⟨w.heap.size, 2, none⟩ = some (.int .i64 A.n) := hkx.cell 2
      have x3 : w11.cell? ⟨w.heap.size, 3, none⟩ = some (.bool A.a) := hkx.cell 3
      have x4 : w11.cell? ⟨w.heap.size, 4, none⟩ = some (.bool A.h) := hkx.cell 4
      have x5 : w11.cell? ⟨w.heap.size, 5, none⟩ = some (.bool A.t) := hkx.cell 5
      clear hkx
      go_upto_region 13 with (first
        | (go_at_call 13; refine (HNM.out _ HW11.out).mono ?_; rintro e w12 ⟨rfl, hb⟩; have HA12 := Lib.hid (HA11.out.below hb HA11.out.lt); have HB12 := Lib.hid (HB11.out.below hb HB11.out.lt); have HW12 := Lib.hid (HW11.out.trans (hb.mono HW11.out.size)); clear hb x0 x1 x2 x3 x4 x5)
        | (go_at_call 9; refine (HKEY2.out _ HW12.out).mono ?_; rintro e w13 ⟨rfl, hb⟩; have HA13 := Lib.hid (HA12.out.below hb HA12.out.lt); have HB13 := Lib.hid (HB12.out.below hb HB12.out.lt); have HW13 := Lib.hid (HW12.out.trans (hb.mono HW12.out.size)); clear hb))
      have hx0 : Blk (w13.alloc (.cells #[.int .i64 A.c, .string ⟨Xs.toArray⟩, .int .i64 A.n, .bool A.a, .bool A.h, .bool A.t] 24)) w13.heap.size 24 (Kv.mk A.c Xs A.n A.a A.h A.t).cells := Blk.new w13 _ _
      have ha0 := HA13.out.alloc (.cells #[.int .i64 A.c, .string ⟨Xs.toArray⟩, .int .i64 A.n, .bool A.a, .bool A.h, .bool A.t] 24)
      have hb0 := HB13.out.alloc (.cells #[.int .i64 A.c, .string ⟨Xs.toArray⟩, .int .i64 A.n, .bool A.a, .bool A.h, .bool A.t] 24)
      have hw0 := HW13.out.alloc HW13.out.size (.cells #[.int .i64 A.c, .string ⟨Xs.toArray⟩, .int .i64 A.n, .bool A.a, .bool A.h, .bool A.t] 24)
      generalize w13.alloc (.cells #[.int .i64 A.c, .string ⟨Xs.toArray⟩, .int .i64 A.n, .bool A.a, .bool A.h, .bool A.t] 24) = w14 at hx0 ha0 hb0 hw0 ⊢
      generalize w13.heap.size = g11 at hx0 ⊢
      have HX14 := Lib.hid hx0
      have HA14 := Lib.hid ha0
      have HB14 := Lib.hid hb0
      have HW14 := Lib.hid hw0
      clear hx0 ha0 hb0 hw0
      have hkx := HA14.out
      have x0 : ∀ d os, (grow (redrawn w14 d) os).cell? ⟨w.heap.size, 0, none⟩ = some (.int .i64 A.c) := cell_regrown (hkx.cell 0)
      have x1 : ∀ d os, (grow (redrawn w14 d) os).cell? ⟨w.heap.size, 1, none⟩ = some (.string ⟨A.s.toArray⟩) := cell_regrown (hkx.cell 1)
      have x2 : ∀ d os, (grow (redrawn w14 d) os).cell? ⟨w.heap.size, 2, none⟩ = some (.int .i64 A.n) := cell_regrown (hkx.cell 2)
      have x3 : ∀ d os, (grow (redrawn w14 d) os).cell? ⟨w.heap.size, 3, none⟩ = some (.bool A.a) := cell_regrown (hkx.cell 3)
      have x4 : ∀ d os, (grow (redrawn w14 d) os).cell? ⟨w.heap.size, 4, none⟩ = some (.bool A.h) := cell_regrown (hkx.cell 4)
      have x5 : ∀ d os, (grow (redrawn w14 d) os).cell? ⟨w.heap.size, 5, none⟩ = some (.bool A.t) := cell_regrown (hkx.cell 5)
      clear hkx
      have hkx := HB14.out
      have y0 : ∀ d os, (grow (redrawn w14 d) os).cell? ⟨w.heap.size + 1, 0, none⟩ = some (.int .i64 B.c) := cell_regrown (hkx.cell 0)
      have y1 : ∀ d os, (grow (redrawn w14 d) os).cell? ⟨w.heap.size + 1, 1, none⟩ = some (.string ⟨B.s.toArray⟩) := cell_regrown (hkx.cell 1)
      have y2 : ∀ d os, (grow (redrawn w14 d) os).cell? ⟨w.heap.size + 1, 2, none⟩ = some (.int .i64 B.n) := cell_regrown (hkx.cell 2)
      have y3 : ∀ d os, (grow (redrawn w14 d) os).cell? ⟨w.heap.size + 1, 3, none⟩ = some (.bool B.a) := cell_regrown (hkx.cell 3)
      have y4 : ∀ d os, (grow (redrawn w14 d) os).cell? ⟨w.heap.size + 1, 4, none⟩ = some (.bool B.h) := cell_regrown (hkx.cell 4)
      have y5 : ∀ d os, (grow (redrawn w14 d) os).cell? ⟨w.heap.size + 1, 5, none⟩ = some (.bool B.t) := cell_regrown (hkx.cell 5)
      clear hkx
      have hkx := HX14.out
      have z0 : ∀ d os, (grow (redrawn w14 d) os).cell? ⟨g11, 0, none⟩ = some (.int .i64 A.c) := cell_regrown (hkx.cell 0)
      have z1 : ∀ d os, (grow (redrawn w14 d) os).cell? ⟨g11, 1, none⟩ = some (.string ⟨Xs.toArray⟩) := cell_regrown (hkx.cell 1)
      have z2 : ∀ d os, (grow (redrawn w14 d) os).cell? ⟨g11, 2, none⟩ = some (.int .i64 A.n) := cell_regrown (hkx.cell 2)
      have z3 : ∀ d os, (grow (redrawn w14 d) os).cell? ⟨g11, 3, none⟩ = some (.bool A.a) := cell_regrown (hkx.cell 3)
      have z4 : ∀ d os, (grow (redrawn w14 d) os).cell? ⟨g11, 4, none⟩ = some (.bool A.h) := cell_regrown (hkx.cell 4)
      have z5 : ∀ d os, (grow (redrawn w14 d) os).cell? ⟨g11, 5, none⟩ = some (.bool A.t) := cell_regrown (hkx.cell 5)
      clear hkx
      have hTz : ∀ d os, KmT (grow (redrawn w14 d) os) := fun d os => (HT.out.below HW14.out (Nat.le_refl _)).below (below_regrown w14 d os) (Nat.le_refl _)
      have Q1 := Lib.hid (fun d os => Calls.regrown_of (name_any (Kv.mk A.c Xs A.n A.a A.h A.t) (by have := HXL.out; simp only; omega) (grow (redrawn w14 d) os) (hTz d os).nm))
      rw [HX2.out] at Q1
      have Q3 := Lib.hid (fun d os => Calls.regrown_of (name_any A (by have := HAL.out; omega) (grow (redrawn w14 d) os) (hTz d os).nm))
      have Q4 := Lib.hid (fun d os => Calls.regrown_of (rname_any A (by have := HAL.out; omega) (grow (redrawn w14 d) os)))
      have Q5 := Lib.hid (fun d os => Calls.regrown_of (name_any B (by have := HBL.out; omega) (grow (redrawn w14 d) os) (hTz d os).nm))
      have Q6 := Lib.hid (fun d os => Calls.regrown_of (rname_any B (by have := HBL.out; omega) (grow (redrawn w14 d) os)))
      rw [← HNA.out] at Q1 Q3 Q4
      generalize (⟨(nameF B).toArray⟩ : ByteArray) = NB at Q5 Q6
      clear hTz
      go_wp2_with (fail)
      refine region_below0 (by kernel_rfl) (by kernel_rfl) ?_
      repeat (first
        | go_big_quiet_step (first | with_reducible exact Q1.out _ _ | with_reducible exact Q3.out _ _ | with_reducible exact Q4.out _ _ | with_reducible exact Q5.out _ _ | with_reducible exact Q6.out _ _)
        | quiet_step (first | with_reducible exact Q1.out _ _ | with_reducible exact Q3.out _ _ | with_reducible exact Q4.out _ _ | with_reducible exact Q5.out _ _ | with_reducible exact Q6.out _ _))
      refine wpQuiet_nil ?_
      intro _ hw'
      obtain ⟨⟨dq2, osq2⟩, hw''⟩ := hw'
      subst hw''
      have HWZ := Lib.hid (HW14.out.trans ((below_regrown w14 dq2 osq2).mono HW14.out.size))
      clear x0 x1 x2 x3 x4 x5 y0 y1 y2 y3 y4 y5 z0 z1 z2 z3 z4 z5 Q1 Q3 Q4 Q5 Q6
      generalize grow (redrawn w14 dq2) osq2 = wz at HWZ ⊢
      go_wp2_with (fail)
      go_ret
      exact ⟨rfl, HWZ.out⟩
    · rw [if_neg hc] at hck
      have HCK := Lib.hid hck
      have hnm := fun W (hW : Below w.heap.size w W) => name_any A (by have := HAL.out; omega) W (HT.out.below hW (Nat.le_refl _)).nm
      rw [show nameF A = [] from if_neg hc] at hnm
      have HNM : Hid (∀ W, Below w.heap.size w W → Calls Tryd.prog 13 #[.agg #[.int .i64 A.c, .string ⟨A.s.toArray⟩, .int .i64 A.n, .bool A.a, .bool A.h, .bool A.t]] W fun e w' => e = .returned (.string ⟨#[]⟩) ∧ Below W.heap.size W w') := Lib.hid hnm
      clear hc hck hnm
      go_upto_region 11 with (go_at_call 12; refine (HCK.out _).mono ?_; rintro e w11 ⟨rfl, hb⟩; have HA11 := Lib.hid (HA10.out.below hb HA10.out.lt); have HB11 := Lib.hid (HB10.out.below hb HB10.out.lt); have HW11 := Lib.hid (HW10.out.trans (hb.mono HW10.out.size)); clear hb x0 x1 x2 x3 x4 x5)
      have hkx := HA11.out
      have x0 : w11.cell? ⟨w.heap.size, 0, none⟩ = some (.int .i64 A.c) := hkx.cell 0
      have x1 : w11.cell? ⟨w.heap.size, 1, none⟩ = some (.string ⟨A.s.toArray⟩) := hkx.cell 1
      have x2 : w11.cell? ⟨w.heap.size, 2, none⟩ = some (.int .i64 A.n) := hkx.cell 2
      have x3 : w11.cell? ⟨w.heap.size, 3, none⟩ = some (.bool A.a) := hkx.cell 3
      have x4 : w11.cell? ⟨w.heap.size, 4, none⟩ = some (.bool A.h) := hkx.cell 4
      have x5 : w11.cell? ⟨w.heap.size, 5, none⟩ = some (.bool A.t) := hkx.cell 5
      clear hkx
      go_wp2_with (go_at_call 13; refine (HNM.out _ HW11.out).mono ?_; rintro e w12 ⟨rfl, hb⟩; have HWZ := Lib.hid (HW11.out.trans (hb.mono HW11.out.size)); clear hb x0 x1 x2 x3 x4 x5)
      go_ret
      exact ⟨rfl, HWZ.out⟩
  · subst h80
    clear HKP
    go_upto_region 10 with (fail)
    have hkx := HA9.out
    have x0 : w9.cell? ⟨w.heap.size, 0, none⟩ = some (.int .i64 A.c) := hkx.cell 0
    have x1 : w9.cell? ⟨w.heap.size, 1, none⟩ = some (.string ⟨A.s.toArray⟩) := hkx.cell 1
    have x2 : w9.cell? ⟨w.heap.size, 2, none⟩ = some (.int .i64 A.n) := hkx.cell 2
    have x3 : w9.cell? ⟨w.heap.size, 3, none⟩ = some (.bool A.a) := hkx.cell 3
    have x4 : w9.cell? ⟨w.heap.size, 4, none⟩ = some (.bool A.h) := hkx.cell 4
    have x5 : w9.cell? ⟨w.heap.size, 5, none⟩ = some (.bool A.t) := hkx.cell 5
    clear hkx
    have hck := rcheck_any A (by have := HAL.out; omega)
    by_cases hc : chk A = true
    · rw [if_pos hc] at hck
      have HCK := Lib.hid hck
      obtain ⟨k1, k2, k3, k4, k5, k6, k7⟩ := key_back A HAL.out hc
      have hxl : (keyP (nameF A)).1.s.length ≤ 60 := Nat.le_trans (keyP_len (nameF A)) (nameF_len A HAL.out)
      have hkey := fun W (hW : Below w.heap.size w W) => key_any (nameF A) (nameF_len A HAL.out) W (HT.out.below hW (Nat.le_refl _)).nm (HN.out.bel hW)
      have hxx : (keyP (nameF A)).1 = ⟨A.c, (keyP (nameF A)).1.s, A.n, A.a, A.h, A.t⟩ := by
        generalize (keyP (nameF A)).1 = X at k2 k3 k4 k5 k6 k7
        obtain ⟨c, s, n, a, h, t⟩ := X
        simp only at k3 k4 k5 k6 k7 ⊢
        rw [k3, k4, k5, k6, k7]
      rw [hxx] at k2
      have hagg : (keyP (nameF A)).1.agg = .agg #[.int .i64 A.c, .string ⟨(keyP (nameF A)).1.s.toArray⟩, .int .i64 A.n, .bool A.a, .bool A.h, .bool A.t] := by
        conv => lhs; rw [hxx]
        rfl
      have hkey2 : ∀ W, Below w.heap.size w W → Calls Tryd.prog 9 #[.string ⟨(nameF A).toArray⟩] W fun e w' => e = .returned (.tuple #[.agg #[.int .i64 A.c, .string ⟨(keyP (nameF A)).1.s.toArray⟩, .int .i64 A.n, .bool A.a, .bool A.h, .bool A.t], .int .i64 0]) ∧ Below W.heap.size W w' := fun W hW => (hkey W hW).mono (fun e w' h => ⟨h.1.trans (by rw [k1, hagg]), h.2⟩)
      clear hagg hxx hkey k1 k3 k4 k5 k6 k7
      generalize (keyP (nameF A)).1.s = Xs at k2 hxl hkey2
      rw [← HNA.out] at hkey2
      have HKEY2 := Lib.hid hkey2
      have HX2 := Lib.hid k2
      have HXL := Lib.hid hxl
      have HNM : Hid (∀ W, Below w.heap.size w W → Calls Tryd.prog 13 #[.agg #[.int .i64 A.c, .string ⟨A.s.toArray⟩, .int .i64 A.n, .bool A.a, .bool A.h, .bool A.t]] W fun e w' => e = .returned (.string NA) ∧ Below W.heap.size W w') := Lib.hid (fun W hW => by rw [HNA.out]; exact name_any A (by have := HAL.out; omega) W (HT.out.below hW (Nat.le_refl _)).nm)
      clear hc hck k2 hxl hkey2
      go_upto_region 12 with (go_at_call 12; refine (HCK.out _).mono ?_; rintro e w10 ⟨rfl, hb⟩; have HA10 := Lib.hid (HA9.out.below hb HA9.out.lt); have HB10 := Lib.hid (HB9.out.below hb HB9.out.lt); have HW10 := Lib.hid (HW9.out.trans (hb.mono HW9.out.size)); clear hb x0 x1 x2 x3 x4 x5)
      have hkx := HA10.out
      have x0 : w10.cell? ⟨w.heap.size, 0, none⟩ = some (.int .i64 A.c) := hkx.cell 0
      have x1 : w10.cell? ⟨w.heap.size, 1, none⟩ = some (.string ⟨A.s.toArray⟩) := hkx.cell 1
      have x2 : w10.cell? ⟨w.heap.size, 2, none⟩ = some (.int .i64 A.n) := hkx.cell 2
      have x3 : w10.cell? ⟨w.heap.size, 3, none⟩ = some (.bool A.a) := hkx.cell 3
      have x4 : w10.cell? ⟨w.heap.size, 4, none⟩ = some (.bool A.h) := hkx.cell 4
      have x5 : w10.cell? ⟨w.heap.size, 5, none⟩ = some (.bool A.t) := hkx.cell 5
      clear hkx
      go_upto_region 13 with (first
        | (go_at_call 13; refine (HNM.out _ HW10.out).mono ?_; rintro e w11 ⟨rfl, hb⟩; have HA11 := Lib.hid (HA10.out.below hb HA10.out.lt); have HB11 := Lib.hid (HB10.out.below hb HB10.out.lt); have HW11 := Lib.hid (HW10.out.trans (hb.mono HW10.out.size)); clear hb x0 x1 x2 x3 x4 x5)
        | (go_at_call 9; refine (HKEY2.out _ HW11.out).mono ?_; rintro e w12 ⟨rfl, hb⟩; have HA12 := Lib.hid (HA11.out.below hb HA11.out.lt); have HB12 := Lib.hid (HB11.out.below hb HB11.out.lt); have HW12 := Lib.hid (HW11.out.trans (hb.mono HW11.out.size)); clear hb))
      have hx0 : Blk (w12.alloc (.cells #[.int .i64 A.c, .string ⟨Xs.toArray⟩, .int .i64 A.n, .bool A.a, .bool A.h, .bool A.t] 24)) w12.heap.size 24 (Kv.mk A.c Xs A.n A.a A.h A.t).cells := Blk.new w12 _ _
      have ha0 := HA12.out.alloc (.cells #[.int .i64 A.c, .string ⟨Xs.toArray⟩, .int .i64 A.n, .bool A.a, .bool A.h, .bool A.t] 24)
      have hb0 := HB12.out.alloc (.cells #[.int .i64 A.c, .string ⟨Xs.toArray⟩, .int .i64 A.n, .bool A.a, .bool A.h, .bool A.t] 24)
      have hw0 := HW12.out.alloc HW12.out.size (.cells #[.int .i64 A.c, .string ⟨Xs.toArray⟩, .int .i64 A.n, .bool A.a, .bool A.h, .bool A.t] 24)
      generalize w12.alloc (.cells #[.int .i64 A.c, .string ⟨Xs.toArray⟩, .int .i64 A.n, .bool A.a, .bool A.h, .bool A.t] 24) = w13 at hx0 ha0 hb0 hw0 ⊢
      generalize w12.heap.size = g11 at hx0 ⊢
      have HX13 := Lib.hid hx0
      have HA13 := Lib.hid ha0
      have HB13 := Lib.hid hb0
      have HW13 := Lib.hid hw0
      clear hx0 ha0 hb0 hw0
      have hkx := HA13.out
      have x0 : ∀ d os, (grow (redrawn w13 d) os).cell? ⟨w.heap.size, 0, none⟩ = some (.int .i64 A.c) := cell_regrown (hkx.cell 0)
      have x1 : ∀ d os, (grow (redrawn w13 d) os).cell? ⟨w.heap.size, 1, none⟩ = some (.string ⟨A.s.toArray⟩) := cell_regrown (hkx.cell 1)
      have x2 : ∀ d os, (grow (redrawn w13 d) os).cell? ⟨w.heap.size, 2, none⟩ = some (.int .i64 A.n) := cell_regrown (hkx.cell 2)
      have x3 : ∀ d os, (grow (redrawn w13 d) os).cell? ⟨w.heap.size, 3, none⟩ = some (.bool A.a) := cell_regrown (hkx.cell 3)
      have x4 : ∀ d os, (grow (redrawn w13 d) os).cell? ⟨w.heap.size, 4, none⟩ = some (.bool A.h) := cell_regrown (hkx.cell 4)
      have x5 : ∀ d os, (grow (redrawn w13 d) os).cell? ⟨w.heap.size, 5, none⟩ = some (.bool A.t) := cell_regrown (hkx.cell 5)
      clear hkx
      have hkx := HB13.out
      have y0 : ∀ d os, (grow (redrawn w13 d) os).cell? ⟨w.heap.size + 1, 0, none⟩ = some (.int .i64 B.c) := cell_regrown (hkx.cell 0)
      have y1 : ∀ d os, (grow (redrawn w13 d) os).cell? ⟨w.heap.size + 1, 1, none⟩ = some (.string ⟨B.s.toArray⟩) := cell_regrown (hkx.cell 1)
      have y2 : ∀ d os, (grow (redrawn w13 d) os).cell? ⟨w.heap.size + 1, 2, none⟩ = some (.int .i64 B.n) := cell_regrown (hkx.cell 2)
      have y3 : ∀ d os, (grow (redrawn w13 d) os).cell? ⟨w.heap.size + 1, 3, none⟩ = some (.bool B.a) := cell_regrown (hkx.cell 3)
      have y4 : ∀ d os, (grow (redrawn w13 d) os).cell? ⟨w.heap.size + 1, 4, none⟩ = some (.bool B.h) := cell_regrown (hkx.cell 4)
      have y5 : ∀ d os, (grow (redrawn w13 d) os).cell? ⟨w.heap.size + 1, 5, none⟩ = some (.bool B.t) := cell_regrown (hkx.cell 5)
      clear hkx
      have hkx := HX13.out
      have z0 : ∀ d os, (grow (redrawn w13 d) os).cell? ⟨g11, 0, none⟩ = some (.int .i64 A.c) := cell_regrown (hkx.cell 0)
      have z1 : ∀ d os, (grow (redrawn w13 d) os).cell? ⟨g11, 1, none⟩ = some (.string ⟨Xs.toArray⟩) := cell_regrown (hkx.cell 1)
      have z2 : ∀ d os, (grow (redrawn w13 d) os).cell? ⟨g11, 2, none⟩ = some (.int .i64 A.n) := cell_regrown (hkx.cell 2)
      have z3 : ∀ d os, (grow (redrawn w13 d) os).cell? ⟨g11, 3, none⟩ = some (.bool A.a) := cell_regrown (hkx.cell 3)
      have z4 : ∀ d os, (grow (redrawn w13 d) os).cell? ⟨g11, 4, none⟩ = some (.bool A.h) := cell_regrown (hkx.cell 4)
      have z5 : ∀ d os, (grow (redrawn w13 d) os).cell? ⟨g11, 5, none⟩ = some (.bool A.t) := cell_regrown (hkx.cell 5)
      clear hkx
      have hTz : ∀ d os, KmT (grow (redrawn w13 d) os) := fun d os => (HT.out.below HW13.out (Nat.le_refl _)).below (below_regrown w13 d os) (Nat.le_refl _)
      have Q1 := Lib.hid (fun d os => Calls.regrown_of (name_any (Kv.mk A.c Xs A.n A.a A.h A.t) (by have := HXL.out; simp only; omega) (grow (redrawn w13 d) os) (hTz d os).nm))
      rw [HX2.out] at Q1
      have Q3 := Lib.hid (fun d os => Calls.regrown_of (name_any A (by have := HAL.out; omega) (grow (redrawn w13 d) os) (hTz d os).nm))
      have Q4 := Lib.hid (fun d os => Calls.regrown_of (rname_any A (by have := HAL.out; omega) (grow (redrawn w13 d) os)))
      have Q5 := Lib.hid (fun d os => Calls.regrown_of (name_any B (by have := HBL.out; omega) (grow (redrawn w13 d) os) (hTz d os).nm))
      have Q6 := Lib.hid (fun d os => Calls.regrown_of (rname_any B (by have := HBL.out; omega) (grow (redrawn w13 d) os)))
      rw [← HNA.out] at Q1 Q3 Q4
      generalize (⟨(nameF B).toArray⟩ : ByteArray) = NB at Q5 Q6
      clear hTz
      go_wp2_with (fail)
      refine region_below0 (by kernel_rfl) (by kernel_rfl) ?_
      repeat (first
        | go_big_quiet_step (first | with_reducible exact Q1.out _ _ | with_reducible exact Q3.out _ _ | with_reducible exact Q4.out _ _ | with_reducible exact Q5.out _ _ | with_reducible exact Q6.out _ _)
        | quiet_step (first | with_reducible exact Q1.out _ _ | with_reducible exact Q3.out _ _ | with_reducible exact Q4.out _ _ | with_reducible exact Q5.out _ _ | with_reducible exact Q6.out _ _))
      refine wpQuiet_nil ?_
      intro _ hw'
      obtain ⟨⟨dq2, osq2⟩, hw''⟩ := hw'
      subst hw''
      have HWZ := Lib.hid (HW13.out.trans ((below_regrown w13 dq2 osq2).mono HW13.out.size))
      clear x0 x1 x2 x3 x4 x5 y0 y1 y2 y3 y4 y5 z0 z1 z2 z3 z4 z5 Q1 Q3 Q4 Q5 Q6
      generalize grow (redrawn w13 dq2) osq2 = wz at HWZ ⊢
      go_wp2_with (fail)
      go_ret
      exact ⟨rfl, HWZ.out⟩
    · rw [if_neg hc] at hck
      have HCK := Lib.hid hck
      have hnm := fun W (hW : Below w.heap.size w W) => name_any A (by have := HAL.out; omega) W (HT.out.below hW (Nat.le_refl _)).nm
      rw [show nameF A = [] from if_neg hc] at hnm
      have HNM : Hid (∀ W, Below w.heap.size w W → Calls Tryd.prog 13 #[.agg #[.int .i64 A.c, .string ⟨A.s.toArray⟩, .int .i64 A.n, .bool A.a, .bool A.h, .bool A.t]] W fun e w' => e = .returned (.string ⟨#[]⟩) ∧ Below W.heap.size W w') := Lib.hid hnm
      clear hc hck hnm
      go_upto_region 11 with (go_at_call 12; refine (HCK.out _).mono ?_; rintro e w10 ⟨rfl, hb⟩; have HA10 := Lib.hid (HA9.out.below hb HA9.out.lt); have HB10 := Lib.hid (HB9.out.below hb HB9.out.lt); have HW10 := Lib.hid (HW9.out.trans (hb.mono HW9.out.size)); clear hb x0 x1 x2 x3 x4 x5)
      have hkx := HA10.out
      have x0 : w10.cell? ⟨w.heap.size, 0, none⟩ = some (.int .i64 A.c) := hkx.cell 0
      have x1 : w10.cell? ⟨w.heap.size, 1, none⟩ = some (.string ⟨A.s.toArray⟩) := hkx.cell 1
      have x2 : w10.cell? ⟨w.heap.size, 2, none⟩ = some (.int .i64 A.n) := hkx.cell 2
      have x3 : w10.cell? ⟨w.heap.size, 3, none⟩ = some (.bool A.a) := hkx.cell 3
      have x4 : w10.cell? ⟨w.heap.size, 4, none⟩ = some (.bool A.h) := hkx.cell 4
      have x5 : w10.cell? ⟨w.heap.size, 5, none⟩ = some (.bool A.t) := hkx.cell 5
      clear hkx
      go_wp2_with (go_at_call 13; refine (HNM.out _ HW10.out).mono ?_; rintro e w11 ⟨rfl, hb⟩; have HWZ := Lib.hid (HW10.out.trans (hb.mono HW10.out.size)); clear hb x0 x1 x2 x3 x4 x5)
      go_ret
      exact ⟨rfl, HWZ.out⟩
end Go.Proofs.YthlhfbchilfgcaaDoor
