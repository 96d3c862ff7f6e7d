/-
  Walks: Key.
-/
import Derived.Test.YthlhfbchilfgcaaDoorKmRead
namespace Go.Proofs.YthlhfbchilfgcaaDoor
open Go.RowKit Go.Sort
set_option linter.unusedVariables false
set_option linter.unusedSimpArgs false

theorem readK_len (s : List UInt8) : (readK s).s.length ≤ s.length := by
  have l1 := begV_len s [97, 108, 116, 45]
  have l2 := begV_len (begV s [97, 108, 116, 45]).1 [99, 116, 108, 45]
  have l3 := begV_len (begV (begV s [97, 108, 116, 45]).1 [99, 116, 108, 45]).1 [115, 104, 105, 102, 116, 45]
  have l4 := begV_len (begV (begV (begV s [97, 108, 116, 45]).1 [99, 116, 108, 45]).1 [115, 104, 105, 102, 116, 45]).1 [116, 101, 120, 116, 46]
  have l5 := begV_len (begV (begV (begV s [97, 108, 116, 45]).1 [99, 116, 108, 45]).1 [115, 104, 105, 102, 116, 45]).1 [99, 116, 114, 108, 45]
  unfold readK
  simp only
  split
  · simp only; omega
  · split
    · simp only; omega
    · split
      · simp
      · split <;> simp
def keyP (s : List UInt8) : Kv × Int := if chk (readK s) = true ∧ nameF (readK s) = s then (readK s, 0) else (Kv.no, 80)
set_option maxRecDepth 100000 in
set_option maxHeartbeats 8000000 in
theorem key_any (s : List UInt8) (hs : s.length ≤ 60) (w : World) (hT : StrT w 2 nameT) (hN : NumT w) :
    Calls Tryd.prog 9 #[.string ⟨s.toArray⟩] w fun e w' => e = .returned (.tuple #[(keyP s).1.agg, .int .i64 (keyP s).2]) ∧ Below w.heap.size w w' := by
  have hlen := readK_len s
  have HRD : Hid (∀ W, Below w.heap.size w W → Calls Tryd.prog 36 #[.string ⟨s.toArray⟩] W fun e w' => e = .returned (.agg #[.int .i64 (readK s).c, .string ⟨(readK s).s.toArray⟩, .int .i64 (readK s).n, .bool (readK s).a, .bool (readK s).h, .bool (readK s).t]) ∧ Below W.heap.size W w') := Lib.hid (fun W hW => read_any s hs W (hT.below (by decide) hW (Nat.le_refl _)) (hN.bel hW))
  obtain ⟨R, hR⟩ : ∃ R, R = keyP s := ⟨_, rfl⟩
  rw [← hR]
  unfold keyP at hR
  generalize readK s = k at HRD hR hlen
  have HCK := Lib.hid (check_any k (by omega))
  have HNM := Lib.hid (fun W (hW : Below w.heap.size w W) => name_any k (by omega) W (hT.below (by decide) hW (Nat.le_refl _)))
  obtain ⟨q, hq⟩ : ∃ q : ByteArray, q = ⟨s.toArray⟩ := ⟨_, rfl⟩
  obtain ⟨N, hNN⟩ : ∃ N : ByteArray, N = ⟨(nameF k).toArray⟩ := ⟨_, rfl⟩
  have hqs : q.toList = s := by rw [hq, Lib.toList_data]
  have hns : N.toList = nameF k := by rw [hNN, Lib.toList_data]
  rw [← hNN] at HNM
  rw [← hq] at HRD ⊢
  have HQS := Lib.hid hqs
  have HNS := Lib.hid hns
  have HRR := Lib.hid hR
  have HZ0 := Lib.hid (Blk.new w 24 Kv.no.cells)
  clear hT hN hs hlen hq hNN hqs hns hR
  go_enter Tryd.func9, Tryd.ntmps9
  go_upto_region 2 with (go_at_call 36; refine (HRD.out _ (kbel w _)).mono ?_; rintro e w1 ⟨rfl, hb1⟩; have HB1 := Lib.hid (kstep (kbel w _) hb1); have HZ1 := Lib.hid (HZ0.out.below hb1 HZ0.out.lt); clear hb1)
  have hz1 : Blk (w1.alloc (.cells #[.int .i64 k.c, .string ⟨k.s.toArray⟩, .int .i64 k.n, .bool k.a, .bool k.h, .bool k.t] 24)) w.heap.size 24 Kv.no.cells := HZ1.out.alloc _
  have hk1 : Blk (w1.alloc (.cells #[.int .i64 k.c, .string ⟨k.s.toArray⟩, .int .i64 k.n, .bool k.a, .bool k.h, .bool k.t] 24)) w1.heap.size 24 k.cells := Blk.new w1 _ _
  have hb2 : Below w.heap.size w (w1.alloc (.cells #[.int .i64 k.c, .string ⟨k.s.toArray⟩, .int .i64 k.n, .bool k.a, .bool k.h, .bool k.t] 24)) := HB1.out.alloc HB1.out.size _
  have hg : w.heap.size < w1.heap.size := HZ1.out.lt
  generalize w1.alloc (.cells #[.int .i64 k.c, .string ⟨k.s.toArray⟩, .int .i64 k.n, .bool k.a, .bool k.h, .bool k.t] 24) = w2 at hz1 hk1 hb2 ⊢
  generalize w1.heap.size = g at hk1 hg ⊢
  have HZ2 := Lib.hid hz1
  have HK2 := Lib.hid hk1
  have HB2 := Lib.hid hb2
  have y0 : w2.cell? ⟨g, 0, none⟩ = some (.int .i64 k.c) := hk1.cell 0
  have y1 : w2.cell? ⟨g, 1, none⟩ = some (.string ⟨k.s.toArray⟩) := hk1.cell 1
  have y2 : w2.cell? ⟨g, 2, none⟩ = some (.int .i64 k.n) := hk1.cell 2
  have y3 : w2.cell? ⟨g, 3, none⟩ = some (.bool k.a) := hk1.cell 3
  have y4 : w2.cell? ⟨g, 4, none⟩ = some (.bool k.h) := hk1.cell 4
  have y5 : w2.cell? ⟨g, 5, none⟩ = some (.bool k.t) := hk1.cell 5
  have HG := Lib.hid hg
  clear hz1 hk1 hb2 hg
  by_cases hc : chk k = true
  · rw [if_pos hc] at HCK
    by_cases he : nameF k = s
    · have HRE : Hid (R = (k, 0)) := Lib.hid (HRR.out.trans (if_pos ⟨hc, he⟩))
      have hb : (N.toList == q.toList) = true := by rw [HQS.out, HNS.out, he]; simp
      clear he hc
      go_wp2_with (first
        | (go_at_call 11; refine (HCK.out _).mono ?_; rintro e w3 ⟨rfl, hb3⟩; have HB3 := Lib.hid (HB2.out.trans (hb3.mono HB2.out.size)); have HZ3 := Lib.hid (HZ2.out.below hb3 HZ2.out.lt); have hk3 := HK2.out.below hb3 HK2.out.lt; have HK3 := Lib.hid hk3; clear y0 y1 y2 y3 y4 y5; have y0 : w3.cell? ⟨g, 0, none⟩ = some (.int .i64 k.c) := hk3.cell 0; have y1 : w3.cell? ⟨g, 1, none⟩ = some (.string ⟨k.s.toArray⟩) := hk3.cell 1; have y2 : w3.cell? ⟨g, 2, none⟩ = some (.int .i64 k.n) := hk3.cell 2; have y3 : w3.cell? ⟨g, 3, none⟩ = some (.bool k.a) := hk3.cell 3; have y4 : w3.cell? ⟨g, 4, none⟩ = some (.bool k.h) := hk3.cell 4; have y5 : w3.cell? ⟨g, 5, none⟩ = some (.bool k.t) := hk3.cell 5; clear hb3 hk3)
        | (go_at_call 13; refine (HNM.out _ HB3.out).mono ?_; rintro e w4 ⟨rfl, hb4⟩; have HB4 := Lib.hid (HB3.out.trans (hb4.mono HB3.out.size)); have HZ4 := Lib.hid (HZ3.out.below hb4 HZ3.out.lt); have hk4 := HK3.out.below hb4 HK3.out.lt; clear y0 y1 y2 y3 y4 y5; have y0 : w4.cell? ⟨g, 0, none⟩ = some (.int .i64 k.c) := hk4.cell 0; have y1 : w4.cell? ⟨g, 1, none⟩ = some (.string ⟨k.s.toArray⟩) := hk4.cell 1; have y2 : w4.cell? ⟨g, 2, none⟩ = some (.int .i64 k.n) := hk4.cell 2; have y3 : w4.cell? ⟨g, 3, none⟩ = some (.bool k.a) := hk4.cell 3; have y4 : w4.cell? ⟨g, 4, none⟩ = some (.bool k.h) := hk4.cell 4; have y5 : w4.cell? ⟨g, 5, none⟩ = some (.bool k.t) := hk4.cell 5; clear hb4 hk4)
        | ((with_reducible refine at_store 2 ?_); refine wpList_store_blk rfl _ _ _ rfl rfl w.heap.size 0 _ Kv.no.cells k.cells rfl rfl HZ4.out (by simp [Kv.len]) kv_size (Kv.one _) ?_; intro w9 hn9 hg9))
      exact bodyPost_ret (kresults_ct rfl rfl rfl (kwhole hn9) Tryd.underlying24 rfl kv_size) rfl ⟨by rw [HRE.out]; rfl, kfin (Nat.le_refl _) HB4.out hg9⟩
    · have HRE : Hid (R = (Kv.no, 80)) := Lib.hid (HRR.out.trans (if_neg (fun h => he h.2)))
      have hb : (N.toList == q.toList) = false := by rw [HQS.out, HNS.out, beq_eq_false_iff_ne]; exact he
      clear he hc
      go_wp2_with (first
        | (go_at_call 11; refine (HCK.out _).mono ?_; rintro e w3 ⟨rfl, hb3⟩; have HB3 := Lib.hid (HB2.out.trans (hb3.mono HB2.out.size)); have HZ3 := Lib.hid (HZ2.out.below hb3 HZ2.out.lt); have hk3 := HK2.out.below hb3 HK2.out.lt; clear y0 y1 y2 y3 y4 y5; have y0 : w3.cell? ⟨g, 0, none⟩ = some (.int .i64 k.c) := hk3.cell 0; have y1 : w3.cell? ⟨g, 1, none⟩ = some (.string ⟨k.s.toArray⟩) := hk3.cell 1; have y2 : w3.cell? ⟨g, 2, none⟩ = some (.int .i64 k.n) := hk3.cell 2; have y3 : w3.cell? ⟨g, 3, none⟩ = some (.bool k.a) := hk3.cell 3; have y4 : w3.cell? ⟨g, 4, none⟩ = some (.bool k.h) := hk3.cell 4; have y5 : w3.cell? ⟨g, 5, none⟩ = some (.bool k.t) := hk3.cell 5; clear hb3 hk3)
        | (go_at_call 13; refine (HNM.out _ HB3.out).mono ?_; rintro e w4 ⟨rfl, hb4⟩; have HB4 := Lib.hid (HB3.out.trans (hb4.mono HB3.out.size)); have HZ4 := Lib.hid (HZ3.out.below hb4 HZ3.out.lt); clear hb4 y0 y1 y2 y3 y4 y5)
        | ((with_reducible refine at_store 2 ?_); refine wpList_store_blk rfl _ _ _ rfl rfl w.heap.size 0 _ Kv.no.cells Kv.no.cells rfl rfl HZ4.out (by simp [Kv.len]) kv_size (Kv.one _) ?_; intro w9 hn9 hg9))
      exact bodyPost_ret (kresults_ct rfl rfl rfl (kwhole hn9) Tryd.underlying24 rfl kv_size) rfl ⟨by rw [HRE.out]; rfl, kfin (Nat.le_refl _) HB4.out hg9⟩
  · rw [if_neg hc] at HCK
    have HRE : Hid (R = (Kv.no, 80)) := Lib.hid (HRR.out.trans (if_neg (fun h => hc h.1)))
    clear hc
    go_wp2_with (first
      | (go_at_call 11; refine (HCK.out _).mono ?_; rintro e w3 ⟨rfl, hb3⟩; have HB3 := Lib.hid (HB2.out.trans (hb3.mono HB2.out.size)); have HZ3 := Lib.hid (HZ2.out.below hb3 HZ2.out.lt); clear hb3 y0 y1 y2 y3 y4 y5)
      | ((with_reducible refine at_store 2 ?_); refine wpList_store_blk rfl _ _ _ rfl rfl w.heap.size 0 _ Kv.no.cells Kv.no.cells rfl rfl HZ3.out (by simp [Kv.len]) kv_size (Kv.one _) ?_; intro w9 hn9 hg9))
    exact bodyPost_ret (kresults_ct rfl rfl rfl (kwhole hn9) Tryd.underlying24 rfl kv_size) rfl ⟨by rw [HRE.out]; rfl, kfin (Nat.le_refl _) HB3.out hg9⟩
end Go.Proofs.YthlhfbchilfgcaaDoor
