/-
  Walks: the reference's New.
-/
import Derived.Test.YtfmkeeaenjeneaaGreatDoorRtWrite
namespace Go.Proofs.YtfmkeeaenjeneaaGreatDoor
open Go.RowKit Go.Sort
set_option linter.unusedVariables false
set_option linter.unusedSimpArgs false

set_option maxRecDepth 100000 in
set_option maxHeartbeats 8000000 in
theorem rtnew_ok (W H : Nat) (w1 : 1 ≤ W) (w5 : W ≤ 500) (h1 : 1 ≤ H) (h5 : H ≤ 500) (w : World) :
    Calls Tryz.prog 6 #[.int .i64 W, .int .i64 H] w fun e w' => ∃ A c, e = .returned (.tuple #[.agg (rtC (tmNew W H) A c (.slice none 0 0)).toArray, .int .i64 0]) ∧ RfAt w' (fun b => w.heap.size ≤ b) A c (tmNew W H).L ∧ Below w.heap.size w w' := by
  have HZ := Lib.hid (Blk.new w 34 rtZ)
  have HC : Hid (∀ wa : World, w.heap.size + 1 ≤ wa.heap.size → Calls Tryz.prog 20 #[.int .i64 W, .int .i64 H] wa fun e w' => ∃ A c, e = .returned (.tuple #[.agg #[.int .i64 W, .int .i64 H, .slice A H c], .int .i64 0]) ∧ RfAt w' (fun b => w.heap.size + 1 ≤ b) A c (blankG W H) ∧ Below wa.heap.size wa w') := Lib.hid (fun wa hb => by
    refine (rnew_ok W H w1 w5 h1 h5 wa).mono ?_
    rintro e w' ⟨V, rfl, ⟨A, c, rfl, hr⟩, hb2⟩
    have hl : (blankG W H).length = H := by simp [blankG]
    exact ⟨A, c, by simp only [rgC, hl], hr.mono (fun b _ h => Nat.le_trans hb h), hb2⟩)
  have HL : Hid ((tmNew W H).L.length = H) := Lib.hid (by simp [tmNew])
  clear w1 w5 h1 h5
  go_enter Tryz.func6, Tryz.ntmps6
  go_wp2_with (first
    | (go_at_call 20; refine (HC.out _ (by simp)).mono ?_; rintro e w2 ⟨A, c, rfl, hr2, hb2⟩; have HR2 := Lib.hid hr2; have HB2 := Lib.hid hb2; have HZ2 := Lib.hid (HZ.out.below hb2 (by simp)); have HG2 := Lib.hid (Blk.new w2 29 (rgC 0 0 none 0)); have hs2 : w.heap.size + 1 ≤ w2.heap.size := (by have := hb2.size; simpa using this); clear hr2 hb2)
    | ((with_reducible refine at_store 6 ?_); refine wpList_store_blk rfl _ _ _ rfl rfl w2.heap.size 0 _ (rgC 0 0 none 0) [.int .i64 W, .int .i64 H, .slice A H c] rfl rfl HG2.out (by simp [rgC]) rg_size (by intro v hv; simp at hv; rcases hv with rfl | rfl | rfl <;> rfl) ?_; intro w3 hn3 hg3; have hb3 : Below w2.heap.size w2 w3 := ((Below.refl _ _).alloc (Nat.le_refl _) _).grown hg3 (by simp) (fun j hj => by injection hj with hj; omega); have HG3 := Lib.hid (show Blk w3 w2.heap.size 29 [.int .i64 W, .int .i64 H, .slice A H c] from hn3); have HR3 := Lib.hid (HR2.out.below hb3); have HZ3 := Lib.hid (HZ2.out.below hb3 (by omega)); have HB3 := Lib.hid (HB2.out.trans (hb3.mono HB2.out.size)); clear hn3 hg3 hb3)
    | ((with_reducible refine at_dst 17 ?_); refine wpList_load_mid rfl _ _ rfl w2.heap.size 0 rfl [.int .i64 W, .int .i64 H, .slice A H c] _ HG3.out.whole Tryz.underlying29 rfl rg_size ?_)
    | ((with_reducible refine at_store 4 ?_); refine wpList_store_blk rfl _ _ _ rfl rfl w.heap.size 0 _ rtZ (rtC (tmNew W H) A c (.slice none 0 0)) rfl (by simp [rtC, HL.out]; rfl) HZ3.out (by simp [rtC, rtZ]) rt_size (rtC_one _ _ _ rfl) ?_; intro w9 hn9 hg9))
  refine bodyPost_ret (results_ct rfl rfl rfl hn9.whole Tryz.underlying34 rfl rt_size) rfl ⟨A, c, rfl, (HR3.out.chg (chg_of_grown hg9) (fun b _ hd e => (by have e' : b = w.heap.size := e; omega))).mono (fun b _ hd => (by omega)), ?_⟩
  exact (((Below.refl _ _).alloc (Nat.le_refl _) _).trans (HB3.out.mono (by simp))).grown hg9 (by have := HB3.out.size; simp at this; omega) (fun j hj => by injection hj with hj; omega)
end Go.Proofs.YtfmkeeaenjeneaaGreatDoor
