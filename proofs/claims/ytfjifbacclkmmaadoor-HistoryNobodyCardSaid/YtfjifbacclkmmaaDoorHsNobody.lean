/-
  Walk: HistoryNobody.
-/
import Derived.Test.YtfjifbacclkmmaaDoorHsAwake
namespace Go.Proofs.YtfjifbacclkmmaaDoor
open Go.RowKit
set_option linter.unusedVariables false
set_option linter.unusedSimpArgs false

set_option maxRecDepth 100000 in
set_option maxHeartbeats 8000000 in
theorem historyNobody_walk (s : ByteArray) (n : Int) (w : World) (hT : Tabs w) :
    Calls Tryd.prog 7 #[.string s, .int .i64 n] w fun e w' => e = .returned (.bool true) ∧ Below w.heap.size w w' := by
  have HT := Lib.hid hT
  have hbx : ∀ W, W = (w.alloc (.cells #[.pointer none, .int .i64 0, .slice none 0 0, .string ⟨#[]⟩, .nilFunc, .int .i64 0] 64)).alloc (.cells #[.pointer none, .pointer (some ⟨w.heap.size, 0, none⟩)] 23) →
      Below w.heap.size w W ∧ Blk W w.heap.size 64 [.pointer none, .int .i64 0, .slice none 0 0, .string ⟨#[]⟩, .nilFunc, .int .i64 0] ∧ Blk W (w.heap.size + 1) 23 [.pointer none, .pointer (some ⟨w.heap.size, 0, none⟩)] := by
    rintro W rfl
    refine ⟨((Below.refl _ w).alloc (Nat.le_refl _) _).alloc (by simp) _, (Blk.new w 64 [.pointer none, .int .i64 0, .slice none 0 0, .string ⟨#[]⟩, .nilFunc, .int .i64 0]).alloc _, ?_⟩
    have := Blk.new (w.alloc (.cells #[.pointer none, .int .i64 0, .slice none 0 0, .string ⟨#[]⟩, .nilFunc, .int .i64 0] 64)) 23 [.pointer none, .pointer (some ⟨w.heap.size, 0, none⟩)]
    simpa using this
  obtain ⟨hb0, x0, x1⟩ := hbx _ rfl
  have each : ∀ k, k < 2 → ∃ p, ∀ W, Below ((w.alloc (.cells #[.pointer none, .int .i64 0, .slice none 0 0, .string ⟨#[]⟩, .nilFunc, .int .i64 0] 64)).alloc (.cells #[.pointer none, .pointer (some ⟨w.heap.size, 0, none⟩)] 23)).heap.size ((w.alloc (.cells #[.pointer none, .int .i64 0, .slice none 0 0, .string ⟨#[]⟩, .nilFunc, .int .i64 0] 64)).alloc (.cells #[.pointer none, .pointer (some ⟨w.heap.size, 0, none⟩)] 23)) W →
      (W.cell? ⟨w.heap.size + 1, k, none⟩ = some (.pointer p) ∧ HsNo W p) := fun k hk => by
    have hcase : k = 0 ∨ k = 1 := by omega
    rcases hcase with rfl | rfl
    · exact ⟨none, fun W hW => ⟨(x1.below hW x1.lt).cell 0, .inl rfl⟩⟩
    · exact ⟨some ⟨w.heap.size, 0, none⟩, fun W hW => ⟨(x1.below hW x1.lt).cell 1, .inr ⟨_, rfl, (x0.below hW x0.lt).cell 0⟩⟩⟩
  have HEACH := Lib.hid each
  have HB0 := Lib.hid hb0
  clear hT hb0 x0 x1 each hbx
  go_enter Tryd.func7, Tryd.ntmps7
  go_wp2_with (fail)
  obtain ⟨h1, hh1⟩ : ∃ h1, h1 = w.heap.size + 1 := ⟨_, rfl⟩
  rw [← hh1] at HEACH ⊢
  generalize hW0 : (w.alloc (.cells #[.pointer none, .int .i64 0, .slice none 0 0, .string ⟨#[]⟩, .nilFunc, .int .i64 0] 64)).alloc (.cells #[.pointer none, .pointer (some ⟨w.heap.size, 0, none⟩)] 23) = W0 at *
  clear hW0 hh1
  go_loopw [7] (fun v wr => ∃ k : Nat, v = .int .i64 k ∧ k ≤ 2 ∧ Below W0.heap.size W0 wr) (fun v _ => 2 - (intOf v).toNat)
  case atStart => exact ⟨0, rfl, by omega, Below.refl _ _⟩
  case round =>
    obtain ⟨k, rfl, hk, hbr⟩ := hrel
    have HBr := Lib.hid hbr
    clear hbr
    by_cases hlt : k < 2
    · have hki : (k : Int) < 2 := by omega
      obtain ⟨p, hp⟩ := HEACH.out k hlt
      have hcell := (hp wr HBr.out).1
      have HNO := Lib.hid (fun W hW => (hp W hW).2)
      clear hp
      go_wp2_with (go_at_call 28; refine (holder_not (HNO.out _ HBr.out) _ _).mono ?_; rintro e w1 ⟨rfl, hb1⟩; have HB1 := Lib.hid (HBr.out.trans (hb1.mono HBr.out.size)); clear hb1)
      refine (hnewer_not (HNO.out _ HB1.out)).mono ?_
      rintro e w2 ⟨rfl, hb2⟩
      have HB2 := Lib.hid (HB1.out.trans (hb2.mono HB1.out.size))
      clear hb2
      go_wp2_with (fail)
      refine (hfind_not (HNO.out _ HB2.out) _ n).mono ?_
      rintro e w3 ⟨rfl, hb3⟩
      have HB3 := Lib.hid (HB2.out.trans (hb3.mono HB2.out.size))
      clear hb3
      go_wp2_with (go_at_call 29; refine (hline_not (HNO.out _ HB3.out) n).mono ?_; rintro e w' ⟨rfl, rfl⟩)
      refine (told_not (HNO.out _ HB3.out) 5).mono ?_
      rintro e w4 ⟨A4, c4, rfl, ho4, hb4⟩
      have HB4 := Lib.hid (HB3.out.trans (hb4.mono HB3.out.size))
      clear ho4 hb4
      go_wp2_with (first
        | (go_at_call 30; refine (hadd_not (HNO.out _ HB4.out) _).mono ?_; rintro e w5 ⟨rfl, hb5⟩; have HB5 := Lib.hid (HB4.out.trans (hb5.mono HB4.out.size)); clear hb5)
        | (go_at_call 31; refine (hleave_not (HNO.out _ HB5.out)).mono ?_; rintro e w' ⟨rfl, rfl⟩)
        | (go_at_call 14; refine (hlen_not (HNO.out _ HB5.out)).mono ?_; rintro e w' ⟨rfl, rfl⟩)
        | (go_at_call 19; refine (hsave_not (HNO.out _ HB5.out)).mono ?_; rintro e w' ⟨rfl, rfl⟩)
        | (go_at_call 32; refine (hfork_not (HNO.out _ HB5.out)).mono ?_; rintro e w' ⟨rfl, rfl⟩))
      go_roundw
      case rel => exact ⟨k + 1, by go_num, by omega, HB5.out⟩
      case measure => simp [intOf]; omega
    · have hki : ¬ (k : Int) < 2 := by omega
      have hbw := HB0.out.trans (HBr.out.mono HB0.out.size)
      have HBW := Lib.hid hbw
      clear hbw
      go_wp2_with (go_at_call 10; refine (hawake_any _ (HT.out.below HBW.out)).mono ?_; rintro e w8 ⟨rfl, hb8⟩)
      go_ret
      exact ⟨rfl, HBW.out.trans (hb8.mono HBW.out.size)⟩
end Go.Proofs.YtfjifbacclkmmaaDoor
