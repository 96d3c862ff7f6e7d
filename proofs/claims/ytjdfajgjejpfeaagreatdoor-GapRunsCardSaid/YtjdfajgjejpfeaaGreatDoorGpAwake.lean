/-
  Walk: the law's own check (awake).
-/
import Derived.Test.YtjdfajgjejpfeaaGreatDoorGpText
namespace Go.Proofs.YtjdfajgjejpfeaaGreatDoor
open Go.RowKit
set_option linter.unusedVariables false
set_option linter.unusedSimpArgs false

theorem isC_a : isC [97] = true := by decide +kernel
theorem isC_b : isC [98] = true := by decide +kernel
theorem isC_c : isC [99] = true := by decide +kernel
theorem isC_d : isC [100] = true := by decide +kernel

/-- A row of texts that was just made. -/
theorem sv_new (w : World) (l : List (List UInt8)) : Sl (w.alloc (.cells (sv l).toArray 9)) (w.alloc (.cells (sv l).toArray 9)).heap.size (some ⟨w.heap.size, 0, none⟩) (sv l) := by
  have := Sl.new w (sv l).toArray 9
  simpa using this

set_option maxRecDepth 100000 in
set_option maxHeartbeats 4000000 in
theorem gawake_any (w : World) (hT : Tabs w) :
    Calls Tryz.prog 6 #[] w fun e w' => e = .returned (.bool true) ∧ Below w.heap.size w w' := by
  have HT := Lib.hid hT
  clear hT
  go_enter Tryz.func6, Tryz.ntmps6
  go_wp2_with (fail)
  refine (gnew_ok 3 (by omega) (by omega) w).mono ?_
  rintro e w1 ⟨g, rfl, hg1, hb1⟩
  have HG1 := Lib.hid hg1
  have HB1 := Lib.hid hb1
  clear hg1 hb1
  go_wp2_with (fail)
  have hx2 : Below w1.heap.size w1 (w1.alloc (.cells (sv [[97], [98]]).toArray 9)) := (Below.refl _ w1).alloc (Nat.le_refl _) _
  refine (ginsert_ok (HG1.out.below hx2) ((HT.out.below HB1.out).below hx2) [[97], [98]] (some ⟨w1.heap.size, 0, none⟩) 2 2 rfl (by omega) (sv_new w1 _) (fun b off e => by have := HG1.out.head.lt; injection e with e; injection e with e; omega) (by decide) (fun c hc => by
    simp only [List.mem_cons, List.not_mem_nil, or_false] at hc
    rcases hc with rfl | rfl
    · exact isC_a
    · exact isC_b) (by decide)).mono ?_
  rintro e w2 ⟨rfl, A2, n2, C2, t2, hg2, hc2, hA2⟩
  have HG2 : Hid (GpAt w2 w.heap.size g A2 n2 C2 3 2 t2 [[97], [98]] []) := Lib.hid hg2
  have HB2 := Lib.hid (HB1.out.trans ((hx2.mono HB1.out.size).trans (hc2.below (Nat.le_trans HB1.out.size hx2.size) (fun k hk => (HG1.out.own_lt k hk).1))))
  clear hg2 hc2 hA2 hx2
  go_wp2_with (fail)
  refine (gmove_any HG2.out 1).mono ?_
  rintro e w3 ⟨rfl, ⟨f3, t3, hg3⟩, hc3⟩
  have e3 : clampN 1 (ln [[97], [98]] []) = 1 := by decide
  rw [e3] at hg3 ⊢
  have hf3 : f3 = 1 := hg3.fp.symm
  subst hf3
  have HG3 : Hid (GpAt w3 w.heap.size g A2 n2 C2 3 1 t3 [[97]] [[98]]) := Lib.hid hg3
  have HB3 := Lib.hid (HB2.out.trans (hc3.below HB2.out.size (fun k hk => (HG2.out.own_lt k hk).1)))
  clear hg3 hc3 e3
  go_wp2_with (fail)
  have hx4 : Below w3.heap.size w3 (w3.alloc (.cells (sv [[99]]).toArray 9)) := (Below.refl _ w3).alloc (Nat.le_refl _) _
  refine (ginsert_ok (HG3.out.below hx4) ((HT.out.below HB3.out).below hx4) [[99]] (some ⟨w3.heap.size, 0, none⟩) 1 1 rfl (by omega) (sv_new w3 _) (fun b off e => by have := HG3.out.head.lt; injection e with e; injection e with e; omega) (by decide) (fun c hc => by
    simp only [List.mem_cons, List.not_mem_nil, or_false] at hc
    subst hc
    exact isC_c) (by decide)).mono ?_
  rintro e w4 ⟨rfl, A4, n4, C4, t4, hg4, hc4, hA4⟩
  have HG4 : Hid (GpAt w4 w.heap.size g A4 n4 C4 3 2 t4 [[97], [99]] [[98]]) := Lib.hid hg4
  have HB4 := Lib.hid (HB3.out.trans ((hx4.mono HB3.out.size).trans (hc4.below (Nat.le_trans HB3.out.size hx4.size) (fun k hk => (HG3.out.own_lt k hk).1))))
  clear hg4 hc4 hA4 hx4
  go_wp2_with (fail)
  have hx5 : Below w4.heap.size w4 (w4.alloc (.cells (sv [[100]]).toArray 9)) := (Below.refl _ w4).alloc (Nat.le_refl _) _
  refine (ginsert_many (HG4.out.below hx5) ((HT.out.below HB4.out).below hx5) [[100]] (some ⟨w4.heap.size, 0, none⟩) 1 1 rfl (by omega) (sv_new w4 _) (by decide) (fun c hc => by
    simp only [List.mem_cons, List.not_mem_nil, or_false] at hc
    subst hc
    exact isC_d) (by decide)).mono ?_
  rintro e w5 ⟨rfl, hb5⟩
  have HG5 := Lib.hid ((HG4.out.below hx5).below hb5)
  have HB5 := Lib.hid (HB4.out.trans ((hx5.mono HB4.out.size).trans (hb5.mono (Nat.le_trans HB4.out.size hx5.size))))
  clear hb5 hx5
  go_wp2_with (fail)
  refine (gtext_any HG5.out).mono ?_
  rintro e w6 ⟨rfl, hb6⟩
  have HG6 := Lib.hid (HG5.out.below hb6)
  have HB6 := Lib.hid (HB5.out.trans (hb6.mono HB5.out.size))
  clear hb6
  go_wp2_with (fail)
  have e7a : clampN 0 (ln [[97], [99]] [[98]]) = 0 := by decide
  have e7b : clampN 2 (ln [[97], [99]] [[98]]) = 2 := by decide
  have h7 := gdelete_yes HG6.out 0 2 (by rw [e7a, e7b]; omega)
  rw [e7a, e7b] at h7
  refine h7.mono ?_
  rintro e w7 ⟨g2, tl, f7, t7, rfl, hg2, hbk7, hg7, hc7⟩
  have hf7 : f7 = 0 := hg7.fp.symm
  subst hf7
  have HG7 : Hid (GpAt w7 w.heap.size g A4 n4 C4 3 0 t7 [] [[98]]) := Lib.hid hg7
  have HB7 := Lib.hid (HB6.out.trans (hc7.below HB6.out.size (fun k hk => (HG6.out.own_lt k hk).1)))
  have q1 : w7.cell? ⟨g2, 1, none⟩ = some (.string ⟨#[99]⟩) := hbk7.cell 1
  clear h7 hbk7 hg7 hc7 e7a e7b
  go_wp2_with (first
    | (go_at_call 15; refine (gcursor_any HG7.out).mono ?_; rintro e w8 ⟨rfl, hb8⟩; have HG8 := Lib.hid (HG7.out.below hb8))
    | (go_at_call 13; refine (gtext_any HG8.out).mono ?_; rintro e w9 ⟨rfl, hb9⟩))
  go_ret
  exact ⟨rfl, HB7.out.trans ((hb8.mono HB7.out.size).trans (hb9.mono (Nat.le_trans HB7.out.size hb8.size)))⟩
end Go.Proofs.YtjdfajgjejpfeaaGreatDoor
