/-
  Walk: GapNobody.
-/
import Derived.Test.YtcpihlmemjkloaaDoorGpNob5
import Derived.Test.YtcpihlmemjkloaaDoorGpFew
namespace Go.Proofs.YtcpihlmemjkloaaDoor
open Go.RowKit
set_option linter.unusedVariables false
set_option linter.unusedSimpArgs false

set_option maxRecDepth 100000 in
set_option maxHeartbeats 8000000 in
theorem gapNobody_walk (M : Option Addr) (m d : Nat) (l : List (List UInt8)) (a : Int) (w : World) (hT : Tabs w) (hm : m = l.length) (hmx : m ≤ maxLen) (hM : Sl w w.heap.size M (sv l)) (hlen : ∀ s ∈ l, s.length ≤ maxLen) :
    Calls Tryd.prog 6 #[.slice M m d, .int .i64 a] w fun e w' => e = .returned (.bool true) ∧ Below w.heap.size w w' := by
  have HT := Lib.hid hT
  have HFEW := Lib.hid (fun w1 (hb : Below w.heap.size w w1) => few_any l M m d hm hmx w1 ((hM.below hb).more hb.size) hlen)
  have hfl := fewL_length l
  generalize fewL l = t at *
  obtain ⟨tn, htn⟩ : ∃ tn, tn = t.length := ⟨_, rfl⟩
  rw [← htn] at HFEW hfl
  have ht12 : tn ≤ 12 := by omega
  have HB0 := Lib.hid (show Below w.heap.size w ((w.alloc (.cells #[.pointer none, .int .i64 0, .slice none 0 0, .int .i64 0, .int .i64 0] 45)).alloc (.cells #[.pointer none, .pointer (some ⟨w.heap.size, 0, none⟩)] 22)) from ((Below.refl _ w).alloc (Nat.le_refl _) _).alloc (by simp) _)
  have x0 : Blk ((w.alloc (.cells #[.pointer none, .int .i64 0, .slice none 0 0, .int .i64 0, .int .i64 0] 45)).alloc (.cells #[.pointer none, .pointer (some ⟨w.heap.size, 0, none⟩)] 22)) w.heap.size 45 [.pointer none, .int .i64 0, .slice none 0 0, .int .i64 0, .int .i64 0] := (Blk.new w 45 [.pointer none, .int .i64 0, .slice none 0 0, .int .i64 0, .int .i64 0]).alloc _
  have x1 : Blk ((w.alloc (.cells #[.pointer none, .int .i64 0, .slice none 0 0, .int .i64 0, .int .i64 0] 45)).alloc (.cells #[.pointer none, .pointer (some ⟨w.heap.size, 0, none⟩)] 22)) (w.heap.size + 1) 22 [.pointer none, .pointer (some ⟨w.heap.size, 0, none⟩)] := by
    have := Blk.new (w.alloc (.cells #[.pointer none, .int .i64 0, .slice none 0 0, .int .i64 0, .int .i64 0] 45)) 22 [.pointer none, .pointer (some ⟨w.heap.size, 0, none⟩)]
    simpa using this
  have each : ∀ k, k < 2 → ∃ p, ∀ W, Below ((w.alloc (.cells #[.pointer none, .int .i64 0, .slice none 0 0, .int .i64 0, .int .i64 0] 45)).alloc (.cells #[.pointer none, .pointer (some ⟨w.heap.size, 0, none⟩)] 22)).heap.size ((w.alloc (.cells #[.pointer none, .int .i64 0, .slice none 0 0, .int .i64 0, .int .i64 0] 45)).alloc (.cells #[.pointer none, .pointer (some ⟨w.heap.size, 0, none⟩)] 22)) W →
      (W.cell? ⟨w.heap.size + 1, k, none⟩ = some (.pointer p) ∧ GpNo W p) := fun k hk => by
    have hcase : k = 0 ∨ k = 1 := by omega
    rcases hcase with rfl | rfl
    · exact ⟨none, fun W hW => ⟨(x1.below hW x1.lt).cell 0, .inl rfl⟩⟩
    · exact ⟨some ⟨w.heap.size, 0, none⟩, fun W hW => ⟨(x1.below hW x1.lt).cell 1, .inr ⟨_, rfl, (x0.below hW x0.lt).cell 0⟩⟩⟩
  have HEACH := Lib.hid each
  clear hT hm hmx hM hlen htn hfl x0 x1 each
  go_enter Tryd.func6, Tryd.ntmps6
  go_wp2_with (fail)
  obtain ⟨h1, hh1⟩ : ∃ h1, h1 = w.heap.size + 1 := ⟨_, rfl⟩
  rw [← hh1] at HEACH ⊢
  generalize hW0 : (w.alloc (.cells #[.pointer none, .int .i64 0, .slice none 0 0, .int .i64 0, .int .i64 0] 45)).alloc (.cells #[.pointer none, .pointer (some ⟨w.heap.size, 0, none⟩)] 22) = W0 at *
  clear hW0 hh1
  go_loopw [7] (fun v wr => ∃ k : Nat, v = .int .i64 k ∧ k ≤ 2 ∧ Below W0.heap.size W0 wr) (fun v _ => 2 - (intOf v).toNat)
  case atStart => exact ⟨0, rfl, by omega, Below.refl _ _⟩
  case round =>
    obtain ⟨k, rfl, hk, hbr⟩ := hrel
    have HBr := Lib.hid hbr
    clear hbr
    by_cases hlt : k < 2
    · have hki : (k : Int) < 2 := by omega
      obtain ⟨p, hp⟩ := HEACH.out k hlt
      have hcell := (hp wr HBr.out).1
      have HNO := Lib.hid (fun W hW => (hp W hW).2)
      clear hp
      go_wp2_with (go_at_call 21; refine (gat_not (HNO.out _ HBr.out) a).mono ?_; rintro e w' ⟨rfl, rfl⟩)
      refine (HFEW.out _ (HB0.out.trans (HBr.out.mono HB0.out.size))).mono ?_
      rintro e w1 ⟨A1, c1, rfl, ho1, hb1⟩
      have HB1 := Lib.hid (HBr.out.trans (hb1.mono HBr.out.size))
      clear ho1 hb1 hcell
      go_wp2_with (first
        | (go_at_call 20; refine (gfind_not (HNO.out _ HB1.out) A1 tn c1 (by omega)).mono ?_; rintro e w2 ⟨rfl, hb2⟩; have HB2 := Lib.hid (HB1.out.trans (hb2.mono HB1.out.size)); clear hb2)
        | (go_at_call 23; refine (gall_any _ _).mono ?_; rintro e w' ⟨rfl, rfl⟩))
      refine (gtold_all (HNO.out _ HB2.out) 3).mono ?_
      rintro e w3 ⟨rfl, hb3⟩
      have HB3 := Lib.hid (HB2.out.trans (hb3.mono HB2.out.size))
      clear hb3
      go_wp2_with (go_at_call 24; refine (gback_any _ _).mono ?_; rintro e w' ⟨rfl, rfl⟩)
      refine (gtold_back (HNO.out _ HB3.out) 3).mono ?_
      rintro e w4 ⟨rfl, hb4⟩
      have HB4 := Lib.hid (HB3.out.trans (hb4.mono HB3.out.size))
      clear hb4
      go_wp2_with (fail)
      refine (HFEW.out _ (HB0.out.trans (HB4.out.mono HB0.out.size))).mono ?_
      rintro e w5 ⟨A5, c5, rfl, ho5, hb5⟩
      have HB5 := Lib.hid (HB4.out.trans (hb5.mono HB4.out.size))
      clear ho5 hb5
      go_wp2_with (first
        | (go_at_call 13; refine (ginsert_not (HNO.out _ HB5.out) _).mono ?_; rintro e w' ⟨rfl, rfl⟩)
        | (go_at_call 25; refine (greplace_not (HNO.out _ HB5.out) _ _).mono ?_; rintro e w' ⟨rfl, rfl⟩)
        | (go_at_call 10; refine (gdelete_not (HNO.out _ HB5.out) _ _).mono ?_; rintro e w' ⟨rfl, rfl⟩)
        | (go_at_call 12; refine (gmove_not (HNO.out _ HB5.out) _).mono ?_; rintro e w' ⟨rfl, rfl⟩)
        | (go_at_call 8; refine (gline_not (HNO.out _ HB5.out)).mono ?_; rintro e w' ⟨rfl, rfl⟩)
        | (go_at_call 26; refine (gwidths_not (HNO.out _ HB5.out)).mono ?_; rintro e w6 ⟨rfl, hb6⟩; have HB6 := Lib.hid (HB5.out.trans (hb6.mono HB5.out.size)); clear hb6)
        | (go_at_call 16; refine (gcursor_not (HNO.out _ HB6.out)).mono ?_; rintro e w' ⟨rfl, rfl⟩)
        | (go_at_call 11; refine (glen_not (HNO.out _ HB6.out)).mono ?_; rintro e w' ⟨rfl, rfl⟩)
        | (go_at_call 9; refine (groom_not (HNO.out _ HB6.out)).mono ?_; rintro e w' ⟨rfl, rfl⟩)
        | (go_at_call 18; refine (gtext_not (HNO.out _ HB6.out)).mono ?_; rintro e w7 ⟨rfl, hb7⟩; have HB7 := Lib.hid (HB6.out.trans (hb7.mono HB6.out.size)); clear hb7)
        | (go_at_call 27; refine (gfork_not (HNO.out _ HB7.out)).mono ?_; rintro e w' ⟨rfl, rfl⟩))
      go_roundw
      case rel => exact ⟨k + 1, by go_num, by omega, HB7.out⟩
      case measure => simp [intOf]; omega
    · have hki : ¬ (k : Int) < 2 := by omega
      have hbw := HB0.out.trans (HBr.out.mono HB0.out.size)
      have HBW := Lib.hid hbw
      clear hbw
      go_wp2_with (go_at_call 15; refine (gawake_any _ (HT.out.below HBW.out)).mono ?_; rintro e w8 ⟨rfl, hb8⟩)
      go_ret
      exact ⟨rfl, HBW.out.trans (hb8.mono HBW.out.size)⟩
end Go.Proofs.YtcpihlmemjkloaaDoor
