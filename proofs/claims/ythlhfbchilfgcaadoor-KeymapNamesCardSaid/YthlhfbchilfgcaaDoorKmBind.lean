/-
  Walks: Bind of a valid key in a map that was made; Len.
-/
import Derived.Test.YthlhfbchilfgcaaDoorKmAwake
namespace Go.Proofs.YthlhfbchilfgcaaDoor
open Go.RowKit Go.Maps
set_option linter.unusedVariables false
set_option linter.unusedSimpArgs false

theorem keyof_str (l : List UInt8) (hl : l.length ≤ 100000) : keyOf Tryd.prog 9 (.string ⟨l.toArray⟩) = some (.string l) :=
  WideMaps.keyOf_string_mk Tryd.underlying9 (by show l.toArray.size ≤ _; rw [List.size_toArray]; simp only [maxLen]; omega)
/-- a lookup, whether the key is there or not -/
theorem look_any {w : World} {b n : Nat} {D : DataW Unit} (ho : MOwns w b n D) (l : List UInt8) (hl : l.length ≤ 100000) :
    ∃ c : Int, (Instr.lookup 66 (.map (some b)) (.string ⟨l.toArray⟩) true).run Tryd.prog w = .ok (.tuple #[.int .i64 c, .bool (Maps.has D (.string l))]) w := by
  obtain ⟨v, ps, hrun, hR⟩ := ho.look_ok key_law Tryd.underlying66 (zero_act w) (plainElem_int Tryd.underlying35 (by decide)) (keyof_str l hl)
  obtain ⟨c', rfl, hc, _⟩ := plainElem_int_inv Tryd.underlying35 hR
  exact ⟨c', hrun⟩
theorem MOwns.bel {w w' : World} {b n : Nat} {D : DataW Unit} (h : MOwns w b n D) (hb : Below w.heap.size w w') : MOwns w' b n D := mowns_same h (hb.block b h.lt)

set_option maxRecDepth 100000 in
set_option maxHeartbeats 1000000 in
theorem mlen_yes (M b n : Nat) (D : DataW Unit) (w : World) (hM : MBlk w M b) (ho : MOwns w b n D) :
    Calls Tryd.prog 30 #[.pointer (some ⟨M, 0, none⟩)] w fun e w' => e = .returned (.int .i64 (Maps.size D)) ∧ w = w' := by
  have hl := ho.len Tryd.underlying66
  have y1 : w.cell? ⟨M, 1, none⟩ = some (.map (some b)) := hM.cell 1
  have HM := Lib.hid hM
  generalize Maps.size D = z at hl ⊢
  clear hM ho
  go_enter Tryd.func30, Tryd.ntmps30
  go_wp2_with (go_at_call 51; refine (made_yes M b _ HM.out).mono ?_; rintro e w' ⟨rfl, rfl⟩)
  go_ret
  exact ⟨rfl, rfl⟩

set_option maxRecDepth 100000 in
set_option maxHeartbeats 4000000 in
theorem bind_yes (M b n : Nat) (D : DataW Unit) (k : Kv) (hk : okN k) (a : Nat) (h1 : 1 ≤ a) (h2 : a ≤ 19) (w : World) (hM : MBlk w M b) (ho : MOwns w b n D) (hT : StrT w 2 nameT)
    (hn : n < 1000000) (hr : Maps.has D (.string (nameK k)) = true ∨ Maps.size D < 512) :
    Calls Tryd.prog 26 #[.pointer (some ⟨M, 0, none⟩), .agg #[.int .i64 k.c, .string ⟨k.s.toArray⟩, .int .i64 k.n, .bool k.a, .bool k.h, .bool k.t], .int .i64 a] w fun e w' => e = .returned (.int .i64 0) ∧ ∃ w1, Below w.heap.size w w1 ∧ MOwns w' b (n + 1) (D.put (.string (nameK k)) (.lit (.int .i64 a))) ∧ w1.grownBy w' (some b) := by
  have hNL := nameK_len k hk
  have HC := Lib.hid (check_yes k hk)
  have HNM := Lib.hid (name_yes k hk)
  have hb1 := kbel w (.cells #[.int .i64 k.c, .string ⟨k.s.toArray⟩, .int .i64 k.n, .bool k.a, .bool k.h, .bool k.t] 24)
  have hk1 : Blk (w.alloc (.cells #[.int .i64 k.c, .string ⟨k.s.toArray⟩, .int .i64 k.n, .bool k.a, .bool k.h, .bool k.t] 24)) w.heap.size 24 k.cells := Blk.new w _ _
  have hM1 := hM.below hb1 hM.lt
  have ho1 : MOwns (w.alloc (.cells #[.int .i64 k.c, .string ⟨k.s.toArray⟩, .int .i64 k.n, .bool k.a, .bool k.h, .bool k.t] 24)) b n D := ho.alloc _
  have hT1 := hT.below (by decide) hb1 (Nat.le_refl _)
  obtain ⟨N, hN⟩ : ∃ N, N = nameK k := ⟨_, rfl⟩
  rw [← hN] at hNL hr ⊢
  have HN := Lib.hid hN
  have HR := Lib.hid hr
  have ha1 : (1 : Int) ≤ (a : Int) := by omega
  have ha2 : (a : Int) ≤ 19 := by omega
  clear hM ho hT hk hN hr
  go_enter Tryd.func26, Tryd.ntmps26
  go_upto_region 3 with (go_at_call 51; refine (made_yes M b _ hM1).mono ?_; rintro e w' ⟨rfl, rfl⟩)
  generalize w.alloc (.cells #[.int .i64 k.c, .string ⟨k.s.toArray⟩, .int .i64 k.n, .bool k.a, .bool k.h, .bool k.t] 24) = w1 at hb1 hk1 hM1 ho1 hT1 ⊢
  have x0 : w1.cell? ⟨w.heap.size, 0, none⟩ = some (.int .i64 k.c) := hk1.cell 0
  have x1 : w1.cell? ⟨w.heap.size, 1, none⟩ = some (.string ⟨k.s.toArray⟩) := hk1.cell 1
  have x2 : w1.cell? ⟨w.heap.size, 2, none⟩ = some (.int .i64 k.n) := hk1.cell 2
  have x3 : w1.cell? ⟨w.heap.size, 3, none⟩ = some (.bool k.a) := hk1.cell 3
  have x4 : w1.cell? ⟨w.heap.size, 4, none⟩ = some (.bool k.h) := hk1.cell 4
  have x5 : w1.cell? ⟨w.heap.size, 5, none⟩ = some (.bool k.t) := hk1.cell 5
  have HB1 := Lib.hid hb1
  have HK1 := Lib.hid hk1
  have HM1 := Lib.hid hM1
  have HO1 := Lib.hid ho1
  have HT1 := Lib.hid hT1
  clear hb1 hk1 hM1 ho1 hT1
  go_upto_region 8 with (first
    | (go_at_call 11; refine (HC.out _).mono ?_; rintro e w2 ⟨rfl, hb2⟩; have HB2 := Lib.hid hb2; clear hb2)
    | (go_at_call 50; refine (isAction_yes a ha1 ha2 _).mono ?_; rintro e w' ⟨rfl, rfl⟩))
  have hk2 := HK1.out.below HB2.out HK1.out.lt
  have y0 : w2.cell? ⟨w.heap.size, 0, none⟩ = some (.int .i64 k.c) := hk2.cell 0
  have y1 : w2.cell? ⟨w.heap.size, 1, none⟩ = some (.string ⟨k.s.toArray⟩) := hk2.cell 1
  have y2 : w2.cell? ⟨w.heap.size, 2, none⟩ = some (.int .i64 k.n) := hk2.cell 2
  have y3 : w2.cell? ⟨w.heap.size, 3, none⟩ = some (.bool k.a) := hk2.cell 3
  have y4 : w2.cell? ⟨w.heap.size, 4, none⟩ = some (.bool k.h) := hk2.cell 4
  have y5 : w2.cell? ⟨w.heap.size, 5, none⟩ = some (.bool k.t) := hk2.cell 5
  clear hk2 x0 x1 x2 x3 x4 x5
  go_upto_region 9 with (go_at_call 13; refine (HNM.out _ (HT1.out.below (by decide) HB2.out (Nat.le_refl _))).mono ?_; rintro e w3 ⟨rfl, hb3⟩; rw [← HN.out]; have HB3 := Lib.hid (HB2.out.trans (hb3.mono HB2.out.size)); clear hb3)
  clear y0 y1 y2 y3 y4 y5
  have hM3 := HM1.out.below HB3.out HM1.out.lt
  have ho3 := MOwns.bel HO1.out HB3.out
  have z1 : w3.cell? ⟨M, 1, none⟩ = some (.map (some b)) := hM3.cell 1
  obtain ⟨c, hlk⟩ := look_any ho3 N (by omega)
  have hl := ho3.len Tryd.underlying66
  have HO3 := Lib.hid ho3
  have HKY := Lib.hid (keyof_str N (by omega))
  have hfull : Maps.has D (.string N) = false → (Maps.size D : Int) < 512 := fun h => by
    rcases HR.out with h' | h'
    · rw [h] at h'; cases h'
    · omega
  generalize Maps.size D = z at hl hfull
  generalize Maps.has D (.string N) = hh at hlk hfull
  clear hM3 ho3
  cases hh with
  | true =>
    clear hfull
    go_wp2_with ((at_mapUpdate; refine wpList_mapUpdate_own _ rfl _ _ _ 66 rfl 9 35 key_law Tryd.underlying66 _ b n _ rfl HO3.out (by unfold maxLen; omega) _ _ _ rfl rfl HKY.out _ [] (plainElem_int Tryd.underlying35 (WalkArith.wf_i64 (by omega))) ?_; intro w5 ho5 hg5; have HO5 := Lib.hid ho5; have HG5 := Lib.hid hg5; clear ho5 hg5))
    go_ret
    exact ⟨rfl, w3, HB1.out.trans (HB3.out.mono HB1.out.size), HO5.out, HG5.out⟩
  | false =>
    have hz : (z : Int) < 512 := hfull rfl
    clear hfull
    go_wp2_with ((at_mapUpdate; refine wpList_mapUpdate_own _ rfl _ _ _ 66 rfl 9 35 key_law Tryd.underlying66 _ b n _ rfl HO3.out (by unfold maxLen; omega) _ _ _ rfl rfl HKY.out _ [] (plainElem_int Tryd.underlying35 (WalkArith.wf_i64 (by omega))) ?_; intro w5 ho5 hg5; have HO5 := Lib.hid ho5; have HG5 := Lib.hid hg5; clear ho5 hg5))
    go_ret
    exact ⟨rfl, w3, HB1.out.trans (HB3.out.mono HB1.out.size), HO5.out, HG5.out⟩
set_option maxRecDepth 100000 in
set_option maxHeartbeats 4000000 in
theorem bind_many (M b n : Nat) (D : DataW Unit) (k : Kv) (hk : okN k) (a : Nat) (h1 : 1 ≤ a) (h2 : a ≤ 19) (w : World) (hM : MBlk w M b) (ho : MOwns w b n D) (hT : StrT w 2 nameT)
    (hr : Maps.has D (.string (nameK k)) = false ∧ 512 ≤ Maps.size D) :
    Calls Tryd.prog 26 #[.pointer (some ⟨M, 0, none⟩), .agg #[.int .i64 k.c, .string ⟨k.s.toArray⟩, .int .i64 k.n, .bool k.a, .bool k.h, .bool k.t], .int .i64 a] w fun e w' => e = .returned (.int .i64 3) ∧ Below w.heap.size w w' := by
  have hNL := nameK_len k hk
  have HC := Lib.hid (check_yes k hk)
  have HNM := Lib.hid (name_yes k hk)
  have hb1 := kbel w (.cells #[.int .i64 k.c, .string ⟨k.s.toArray⟩, .int .i64 k.n, .bool k.a, .bool k.h, .bool k.t] 24)
  have hk1 : Blk (w.alloc (.cells #[.int .i64 k.c, .string ⟨k.s.toArray⟩, .int .i64 k.n, .bool k.a, .bool k.h, .bool k.t] 24)) w.heap.size 24 k.cells := Blk.new w _ _
  have hM1 := hM.below hb1 hM.lt
  have ho1 : MOwns (w.alloc (.cells #[.int .i64 k.c, .string ⟨k.s.toArray⟩, .int .i64 k.n, .bool k.a, .bool k.h, .bool k.t] 24)) b n D := ho.alloc _
  have hT1 := hT.below (by decide) hb1 (Nat.le_refl _)
  obtain ⟨N, hN⟩ : ∃ N, N = nameK k := ⟨_, rfl⟩
  rw [← hN] at hNL hr
  have HN := Lib.hid hN
  have ha1 : (1 : Int) ≤ (a : Int) := by omega
  have ha2 : (a : Int) ≤ 19 := by omega
  clear hM ho hT hk hN
  go_enter Tryd.func26, Tryd.ntmps26
  go_upto_region 3 with (go_at_call 51; refine (made_yes M b _ hM1).mono ?_; rintro e w' ⟨rfl, rfl⟩)
  generalize w.alloc (.cells #[.int .i64 k.c, .string ⟨k.s.toArray⟩, .int .i64 k.n, .bool k.a, .bool k.h, .bool k.t] 24) = w1 at hb1 hk1 hM1 ho1 hT1 ⊢
  have x0 : w1.cell? ⟨w.heap.size, 0, none⟩ = some (.int .i64 k.c) := hk1.cell 0
  have x1 : w1.cell? ⟨w.heap.size, 1, none⟩ = some (.string ⟨k.s.toArray⟩) := hk1.cell 1
  have x2 : w1.cell? ⟨w.heap.size, 2, none⟩ = some (.int .i64 k.n) := hk1.cell 2
  have x3 : w1.cell? ⟨w.heap.size, 3, none⟩ = some (.bool k.a) := hk1.cell 3
  have x4 : w1.cell? ⟨w.heap.size, 4, none⟩ = some (.bool k.h) := hk1.cell 4
  have x5 : w1.cell? ⟨w.heap.size, 5, none⟩ = some (.bool k.t) := hk1.cell 5
  have HB1 := Lib.hid hb1
  have HK1 := Lib.hid hk1
  have HM1 := Lib.hid hM1
  have HO1 := Lib.hid ho1
  have HT1 := Lib.hid hT1
  clear hb1 hk1 hM1 ho1 hT1
  have HR := Lib.hid hr
  clear hr
  go_upto_region 8 with (first
    | (go_at_call 11; refine (HC.out _).mono ?_; rintro e w2 ⟨rfl, hb2⟩; have HB2 := Lib.hid hb2; clear hb2)
    | (go_at_call 50; refine (isAction_yes a ha1 ha2 _).mono ?_; rintro e w' ⟨rfl, rfl⟩))
  have hk2 := HK1.out.below HB2.out HK1.out.lt
  have y0 : w2.cell? ⟨w.heap.size, 0, none⟩ = some (.int .i64 k.c) := hk2.cell 0
  have y1 : w2.cell? ⟨w.heap.size, 1, none⟩ = some (.string ⟨k.s.toArray⟩) := hk2.cell 1
  have y2 : w2.cell? ⟨w.heap.size, 2, none⟩ = some (.int .i64 k.n) := hk2.cell 2
  have y3 : w2.cell? ⟨w.heap.size, 3, none⟩ = some (.bool k.a) := hk2.cell 3
  have y4 : w2.cell? ⟨w.heap.size, 4, none⟩ = some (.bool k.h) := hk2.cell 4
  have y5 : w2.cell? ⟨w.heap.size, 5, none⟩ = some (.bool k.t) := hk2.cell 5
  clear hk2 x0 x1 x2 x3 x4 x5
  go_upto_region 9 with (go_at_call 13; refine (HNM.out _ (HT1.out.below (by decide) HB2.out (Nat.le_refl _))).mono ?_; rintro e w3 ⟨rfl, hb3⟩; rw [← HN.out]; have HB3 := Lib.hid (HB2.out.trans (hb3.mono HB2.out.size)); clear hb3)
  clear y0 y1 y2 y3 y4 y5
  have hM3 := HM1.out.below HB3.out HM1.out.lt
  have ho3 := MOwns.bel HO1.out HB3.out
  have z1 : w3.cell? ⟨M, 1, none⟩ = some (.map (some b)) := hM3.cell 1
  obtain ⟨c, hlk⟩ := look_any ho3 N (by omega)
  have hl := ho3.len Tryd.underlying66
  rw [HR.out.1] at hlk
  have hz : ¬ (Maps.size D : Int) < 512 := by have := HR.out.2; omega
  have hz2 : (512 : Int) ≤ (Maps.size D : Int) := by omega
  generalize Maps.size D = z at hl hz hz2
  clear hM3 ho3
  go_wp2_with (fail)
  go_ret
  exact ⟨rfl, HB1.out.trans (HB3.out.mono HB1.out.size)⟩
end Go.Proofs.YthlhfbchilfgcaaDoor
