/-
  Walks: the law's example.
-/
import Derived.Test.YtfmkeeaenjeneaaGreatDoorTmAwake
namespace Go.Proofs.YtfmkeeaenjeneaaGreatDoor
open Go.RowKit Go.Sort
set_option linter.unusedVariables false
set_option linter.unusedSimpArgs false

set_option maxRecDepth 100000 in
set_option maxHeartbeats 8000000 in
theorem tawake_any (w : World) (hT : BlankT w) (hTb : Tabs w) :
    Calls Tryz.prog 7 #[] w fun e w' => e = .returned (.bool true) ∧ Below w.heap.size w w' := by
  have HB0 := Lib.hid (base_of hT hTb)
  have HNEW := Lib.hid (tnew_ok 3 2 (by omega) (by omega) (by omega) (by omega) w hT)
  have HNO : Hid (∀ W, Calls Tryz.prog 5 #[.int .i64 0, .int .i64 1] W fun e w' => e = .returned (.tuple #[.pointer none, .int .i64 50]) ∧ W = w') := Lib.hid (fun W => tnew_no 0 1 W (.inl (by decide)))
  have kc := fun (w : World) (C : Array Value) (n c : Nat) => Lib.run_convert_bytes_const (P := Tryz.prog) w 32 5 C n c Tryz.underlying32 Tryz.underlying5
  clear hT hTb
  go_enter Tryz.func7, Tryz.ntmps7
  go_wp2_with (fail)
  refine HNEW.out.mono ?_
  rintro e w1 ⟨t, g, rb, bs, rfl, ht, hb1⟩
  have HT := Lib.hid ht
  have HB1 := Lib.hid hb1
  have HBS := Lib.hid (HB0.out.below hb1)
  have HWR : Hid (∀ W, W = (((w1.alloc (.cells #[.int .u8 97, .int .u8 98, .int .u8 99] 5 (3, 4))).alloc (.cells #[.int .u8 100, .int .u8 7] 5 (2, 3))).alloc (.cells #[.slice (some ⟨w1.heap.size, 0, none⟩) 3 3, .slice (some ⟨w1.heap.size + 1, 0, none⟩) 2 2] 32)) → Calls Tryz.prog 8 #[.pointer (some ⟨t, 0, none⟩), .slice (some ⟨w1.heap.size + 1 + 1, 0, none⟩) 2 2] W fun e w' => e = .returned (.tuple #[]) ∧ TmStep w1 w.heap.size t g rb bs exT.1 exT.2 w') := Lib.hid (fun W hW => by
    have hbW : Below w1.heap.size w1 W := by rw [hW]; exact (((Below.refl _ w1).alloc (Nat.le_refl _) _).alloc (by simp) _).alloc (by simp; omega) _
    have hp := parts_two (S := TmOwn t g rb bs) w1 [97, 98, 99] [100, 7] (by decide) (by decide) (fun k hk => HT.out.own_lt k hk) (3, 4) (2, 3)
    have h3 := write_any (HT.out.below hbW) (HBS.out.below hbW) (by simp) (w1.heap.size + 1 + 1) [(some ⟨w1.heap.size, 0, none⟩, [97, 98, 99], 3), (some ⟨w1.heap.size + 1, 0, none⟩, [100, 7], 2)] (by simp) (by rw [hW]; exact hp)
    rw [ex_w, List.length_cons, List.length_cons, List.length_nil] at h3
    exact h3.mono fun e w' ⟨he, hs⟩ => ⟨he, TmStep.bel_then hbW hs⟩)
  clear ht hb1
  have kc2 := kc (w1.alloc (.cells #[.int .u8 97, .int .u8 98, .int .u8 99] 5 (3, 4))) #[.int .u8 100, .int .u8 7] 2 2
  rw [World.size_alloc] at kc2
  go_wp2_with (fail)
  refine (HWR.out _ (by rfl)).mono ?_
  rintro e w2 ⟨rfl, hs2⟩
  have HB2 := Lib.hid (TmStep.toBelow HT.out HB1.out hs2)
  obtain ⟨bs2, ht2, _, _⟩ := hs2
  obtain ⟨L, hL⟩ : ∃ L, L = exT.1.L := ⟨_, rfl⟩
  have hex := ex_eq
  have h0 := ex_t0
  have h1 := ex_t1
  rw [← hL] at hex h0 h1
  rw [hex] at ht2
  obtain ⟨l0, hl0, hm0⟩ := Option.map_eq_some_iff.1 h0
  obtain ⟨l1, hl1, hm1⟩ := Option.map_eq_some_iff.1 h1
  have HT2 := Lib.hid ht2
  have HM0 := Lib.hid hm0
  have HM1 := Lib.hid hm1
  have HTX0 : Hid (∀ W, Below w2.heap.size w2 W → Calls Tryz.prog 21 #[.pointer (some ⟨t, 0, none⟩), .int .i64 0] W fun e w' => e = .returned (.string ⟨#[97, 98, 99]⟩) ∧ Below w2.heap.size w2 w') := Lib.hid (fun W hW => by
    have := ttext_yes (HT2.out.below hW) 0 l0 hl0
    rw [HM0.out] at this
    exact this.mono fun e w' ⟨a, b⟩ => ⟨a, hW.trans (b.mono hW.size)⟩)
  have HTX1 : Hid (∀ W, Below w2.heap.size w2 W → Calls Tryz.prog 21 #[.pointer (some ⟨t, 0, none⟩), .int .i64 1] W fun e w' => e = .returned (.string ⟨#[100]⟩) ∧ Below w2.heap.size w2 w') := Lib.hid (fun W hW => by
    have := ttext_yes (HT2.out.below hW) 1 l1 hl1
    rw [HM1.out] at this
    exact this.mono fun e w' ⟨a, b⟩ => ⟨a, hW.trans (b.mono hW.size)⟩)
  have HBE : Hid (∀ W, Below w2.heap.size w2 W → Calls Tryz.prog 22 #[.pointer (some ⟨t, 0, none⟩)] W fun e w' => e = .returned (.int .i64 1) ∧ Below w2.heap.size w2 w') := Lib.hid (fun W hW => (tbells_yes (HT2.out.below hW)).mono fun e w' ⟨a, b⟩ => ⟨a, hW.trans (b.mono hW.size)⟩)
  have HSE : Hid (∀ W, Below w2.heap.size w2 W → Calls Tryz.prog 23 #[.pointer (some ⟨t, 0, none⟩)] W fun e w' => e = .returned (.bool true) ∧ Below w2.heap.size w2 w') := Lib.hid (fun W hW => (tseen_yes (HT2.out.below hW)).mono fun e w' ⟨a, b⟩ => ⟨a, hW.trans (b.mono hW.size)⟩)
  have HCU : Hid (∀ W, Below w2.heap.size w2 W → Calls Tryz.prog 14 #[.pointer (some ⟨t, 0, none⟩)] W fun e w' => e = .returned (.tuple #[.int .i64 1, .int .i64 1]) ∧ Below w2.heap.size w2 w') := Lib.hid (fun W hW => (cursor_yes (HT2.out.below hW)).mono fun e w' ⟨a, b⟩ => ⟨a, hW.trans (b.mono hW.size)⟩)
  clear hL hex h0 h1 ht2 hl0 hl1 hm0 hm1 HM0 HM1 HWR HNEW
  go_wp2_with (fail)
  refine (HCU.out _ (Below.refl _ _)).mono ?_
  rintro e w3 ⟨rfl, hb3⟩
  have HB3 := Lib.hid hb3
  clear hb3
  go_wp2_with (fail)
  refine (HNO.out _).mono ?_
  rintro e w' ⟨rfl, rfl⟩
  go_wp2_with (fail)
  refine (HTX0.out _ HB3.out).mono ?_
  rintro e w4 ⟨rfl, hb4⟩
  have HB4 := Lib.hid hb4
  clear hb4
  go_wp2_with (fail)
  refine (HTX1.out _ HB4.out).mono ?_
  rintro e w5 ⟨rfl, hb5⟩
  have HB5 := Lib.hid hb5
  clear hb5
  go_wp2_with (fail)
  refine (HBE.out _ HB5.out).mono ?_
  rintro e w6 ⟨rfl, hb6⟩
  have HB6 := Lib.hid hb6
  clear hb6
  go_wp2_with (fail)
  refine (HSE.out _ HB6.out).mono ?_
  rintro e w7 ⟨rfl, hb7⟩
  have HB7 := Lib.hid hb7
  clear hb7
  go_wp2_with (fail)
  go_ret
  exact ⟨rfl, HB2.out.trans (HB7.out.mono HB2.out.size)⟩
end Go.Proofs.YtfmkeeaenjeneaaGreatDoor
