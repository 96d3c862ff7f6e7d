/-
  The law TermNobody, walked.
-/
import Derived.Test.YtnehafiodfinbaaGreatDoorTmAwak2
namespace Go.Proofs.YtnehafiodfinbaaGreatDoor
open Go.RowKit Go.Sort
set_option linter.unusedVariables false
set_option linter.unusedSimpArgs false

theorem tbt {W0 W W' : World} (h1 : Below W0.heap.size W0 W) (h2 : Below W.heap.size W W') : Below W0.heap.size W0 W' := h1.trans (h2.mono h1.size)
def tzeroC : List Value := .pointer none :: .pointer none :: (szero ++ (List.replicate 32 (.int .u8 0) ++ [.int .i64 0]))
set_option maxRecDepth 100000 in
set_option maxHeartbeats 8000000 in
theorem termNobody_walk (A : Option Addr) (n cap : Nat) (x : Int) (w : World) (hT : BlankT w) (hTb : Tabs w) :
    Calls Tryz.prog 6 #[.slice A n cap, .int .i64 x] w fun e w' => e = .returned (.bool true) ∧ Below w.heap.size w w' := by
  have HTB := Lib.hid hTb
  have HT := Lib.hid hT
  obtain ⟨W0, hW0⟩ : ∃ W0, W0 = (w.alloc (.cells tzeroC.toArray 71)).alloc (.cells #[.pointer none, .pointer (some ⟨w.heap.size, 0, none⟩)] 23) := ⟨_, rfl⟩
  have hb0 : Below w.heap.size w W0 := by rw [hW0]; exact ((Below.refl _ w).alloc (Nat.le_refl _) _).alloc (by simp) _
  have hsz : W0.heap.size = w.heap.size + 2 := by rw [hW0]; simp
  have hz : Blk W0 w.heap.size 71 tzeroC := by rw [hW0]; exact (Blk.new w _ tzeroC).alloc _
  have hl : Blk W0 (w.heap.size + 1) 23 [.pointer none, .pointer (some ⟨w.heap.size, 0, none⟩)] := by
    have := Blk.new (w.alloc (.cells tzeroC.toArray 71)) 23 [.pointer none, .pointer (some ⟨w.heap.size, 0, none⟩)]
    rw [hW0]; simpa using this
  have hno : ∀ k : Nat, k < 2 → ∃ q, W0.cell? ⟨w.heap.size + 1, k, none⟩ = some (.pointer q) ∧ TmNo W0 q := fun k hk => by
    match k, hk with
    | 0, _ => exact ⟨none, hl.cell 0, .inl rfl⟩
    | 1, _ => exact ⟨_, hl.cell 1, .inr ⟨w.heap.size, rfl, hz.cell 0⟩⟩
  have HNO := Lib.hid hno
  have HB0 := Lib.hid hb0
  have HSZ := Lib.hid hsz
  have HW0 : Hid (W0 = (w.alloc (.cells #[.pointer none, .pointer none, .int .i64 0, .int .i64 0, .bool false, .bool false, .bool false, .int .i64 0, .int .i64 0, .bool false, .bool false, .bool false, .int .i64 0, .int .i64 0, .int .i64 0, .int .i64 0, .bool false, .int .u8 0, .int .u8 0, .int .u8 0, .int .u8 0, .int .u8 0, .int .u8 0, .int .u8 0, .int .u8 0, .int .u8 0, .int .u8 0, .int .u8 0, .int .u8 0, .int .u8 0, .int .u8 0, .int .u8 0, .int .u8 0, .int .u8 0, .int .u8 0, .int .u8 0, .int .u8 0, .int .u8 0, .int .u8 0, .int .u8 0, .int .u8 0, .int .u8 0, .int .u8 0, .int .u8 0, .int .u8 0, .int .u8 0, .int .u8 0, .int .u8 0, .int .u8 0, .int .i64 0] 71)).alloc (.cells #[.pointer none, .pointer (some ⟨w.heap.size, 0, none⟩)] 23)) := Lib.hid hW0
  clear hT hTb hW0 hb0 hsz hz hl hno
  go_enter Tryz.func6, Tryz.ntmps6
  go_wp2_with (fail)
  rw [← HW0.out]
  clear HW0
  generalize hz1 : w.heap.size + 1 = z at *
  have hzl : z < W0.heap.size := by have := HSZ.out; omega
  clear hz1
  go_loopw [19] (fun v19 wr => ∃ k : Nat, v19 = .int .i64 k ∧ k ≤ 2 ∧ Below W0.heap.size W0 wr) (fun v19 _ => 2 - (intOf v19).toNat)
  case atStart => exact ⟨0, rfl, by omega, Below.refl _ _⟩
  case round =>
    obtain ⟨k, rfl, hk, hbr⟩ := hrel
    have HBR := Lib.hid hbr
    clear hbr
    by_cases hk2 : k < 2
    · have hki : (k : Int) < 2 := by omega
      obtain ⟨q, hc, hq⟩ := HNO.out k hk2
      have hcr : wr.cell? ⟨z, k, none⟩ = some (.pointer q) := (HBR.out.cell (p := ⟨z, k, none⟩) hzl).trans hc
      have HQ : Hid (∀ W, Below W0.heap.size W0 W → TmNo W q) := Lib.hid (fun W hW => hq.below hW)
      clear hc hq
      obtain ⟨w5, hw5⟩ : ∃ w5, w5 = wr.alloc (.cells #[.slice A n cap] 32) := ⟨_, rfl⟩
      have HB5 : Hid (Below W0.heap.size W0 w5) := Lib.hid (tbt HBR.out (by rw [hw5]; exact (Below.refl _ wr).alloc (Nat.le_refl _) _))
      have HW5 := Lib.hid hw5
      clear hw5
      go_wp2_with (fail)
      rw [← HW5.out]
      clear HW5
      refine (twrite_not (HQ.out _ HB5.out) _ _ _).mono ?_
      rintro e w' ⟨rfl, rfl⟩
      go_wp2_with (fail)
      refine (tsize_not (HQ.out _ HB5.out)).mono ?_
      rintro e w' ⟨rfl, rfl⟩
      go_wp2_with (fail)
      refine (tcursor_not (HQ.out _ HB5.out)).mono ?_
      rintro e w6 ⟨rfl, hb6⟩
      have HB6 := Lib.hid (tbt HB5.out hb6)
      clear hb6
      go_wp2_with (fail)
      refine (tcell_not (HQ.out _ HB6.out) 0 0).mono ?_
      rintro e w7 ⟨rfl, hb7⟩
      have HB7 := Lib.hid (tbt HB6.out hb7)
      have HN7 := Lib.hid (Blk.new w7 57 czero.cells)
      clear hb7
      go_wp2_with ((with_reducible refine at_store 12 ?_); refine wpList_store_blk rfl _ _ _ rfl rfl w7.heap.size 0 _ czero.cells czero.cells rfl rfl HN7.out (by simp [Cl.len]) cl_size czero.one ?_; intro w8 hn8 hg8; have HB8 := Lib.hid (tbt HB7.out (((Below.refl _ _).alloc (Nat.le_refl _) _).grown hg8 (by simp) (fun j hj => by injection hj with hj; omega))); clear hn8 hg8)
      refine (tresize_not (HQ.out _ HB8.out) _ _).mono ?_
      rintro e w' ⟨rfl, rfl⟩
      go_wp2_with (fail)
      refine (trow_not (HQ.out _ HB8.out) 0).mono ?_
      rintro e w9 ⟨rfl, hb⟩
      have HB9 := Lib.hid (tbt HB8.out hb)
      clear hb
      go_wp2_with (fail)
      refine (ttext_not (HQ.out _ HB9.out) 0).mono ?_
      rintro e w10 ⟨rfl, hb⟩
      have HB10 := Lib.hid (tbt HB9.out hb)
      clear hb
      go_wp2_with (fail)
      refine (tbells_not (HQ.out _ HB10.out)).mono ?_
      rintro e w11 ⟨rfl, hb⟩
      have HB11 := Lib.hid (tbt HB10.out hb)
      clear hb
      go_wp2_with (fail)
      refine (tscrolled_not (HQ.out _ HB11.out)).mono ?_
      rintro e w12 ⟨rfl, hb⟩
      have HB12 := Lib.hid (tbt HB11.out hb)
      clear hb
      go_wp2_with (fail)
      refine (twaits_not (HQ.out _ HB12.out)).mono ?_
      rintro e w' ⟨rfl, rfl⟩
      go_wp2_with (fail)
      refine (tpending_not (HQ.out _ HB12.out)).mono ?_
      rintro e w13 ⟨rfl, hb⟩
      have HB13 := Lib.hid (tbt HB12.out hb)
      clear hb
      go_wp2_with (fail)
      refine (tseen_not (HQ.out _ HB13.out)).mono ?_
      rintro e w14 ⟨rfl, hb⟩
      have HB14 := Lib.hid (tbt HB13.out hb)
      clear hb
      go_wp2_with (fail)
      refine (tmarked_not (HQ.out _ HB14.out)).mono ?_
      rintro e w15 ⟨rfl, hb⟩
      have HB15 := Lib.hid (tbt HB14.out hb)
      clear hb
      go_wp2_with (fail)
      refine (tstyle_not (HQ.out _ HB15.out)).mono ?_
      rintro e w16 ⟨rfl, hb⟩
      have HB16 := Lib.hid (tbt HB15.out hb)
      clear hb
      simp only [Sty.cells, Sty.zero]
      go_wp2_with (fail)
      refine (tfork_not (HQ.out _ HB16.out)).mono ?_
      rintro e w' ⟨rfl, rfl⟩
      go_wp2_with (fail)
      go_roundw
      case rel => exact ⟨k + 1, by go_num, by omega, HB16.out⟩
      case measure => simp [intOf]; omega
    · have hki : ¬ (k : Int) < 2 := by omega
      have HBW := Lib.hid (HB0.out.trans (HBR.out.mono HB0.out.size))
      have HTW := Lib.hid (HT.out.bel HBW.out)
      have HTBW := Lib.hid (HTB.out.below HBW.out)
      go_wp2_with (go_at_call 10; refine (tawake_any _ HTW.out HTBW.out).mono ?_; rintro e w9 ⟨rfl, hb9⟩)
      go_ret
      exact ⟨rfl, HBW.out.trans (hb9.mono HBW.out.size)⟩
end Go.Proofs.YtnehafiodfinbaaGreatDoor
