/-
  Walks: the reference's rune1, where a mark joins the rune ahead of it, and where nothing is printed.
-/
import Derived.Test.YtfmkeeaenjeneaaGreatDoorRtErased
import Derived.Test.YtfmkeeaenjeneaaGreatDoorTdMark3
import Derived.Test.YtfmkeeaenjeneaaGreatDoorGfR
import Derived.Test.YtfmkeeaenjeneaaGreatDoorGfA
import Derived.Deep.RegionLaw
import Derived.Deep.DeepCutAuto
namespace Go.Proofs.YtfmkeeaenjeneaaGreatDoor
open Go.RowKit Go.Sort
set_option linter.unusedVariables false
set_option linter.unusedSimpArgs false

theorem grown_set (W : World) (b i : Nat) (v : Value) : W.grownBy (W.setCell ⟨b, i, none⟩ v) (some b) :=
  ⟨rfl, rfl, rfl, by simp [World.setCell], fun k hk hne => Below.heap_setCell _ _ _ _ (fun e => hne (by rw [show k = b from e]))⟩
/-- three cells of the grid are written one by one -/
theorem set3_blk {W : World} {z : Nat} {T : TS} {A A2 : Option Addr} {c c2 : Nat} {vB : Value} {L' : List (List Cl)} (h : Blk W z 34 (rtC T A c vB)) :
    Blk (((W.setCell ⟨z, 0, none⟩ (.int .i64 T.W)).setCell ⟨z, 1, none⟩ (.int .i64 L'.length)).setCell ⟨z, 2, none⟩ (.slice A2 L'.length c2)) z 34 (splice (rtC T A c vB) 0 (rgC T.W L'.length A2 c2)) := ((h.set_ 0 _).set_ 1 _).set_ 2 _
theorem set3_grown (W : World) (z : Nat) (u v x : Value) : W.grownBy (((W.setCell ⟨z, 0, none⟩ u).setCell ⟨z, 1, none⟩ v).setCell ⟨z, 2, none⟩ x) (some z) :=
  grown_trans (grown_trans (grown_set W z 0 u) (grown_set _ z 1 v)) (grown_set _ z 2 x)
/-- what the region leaves -/
def GridP (w w3 : World) (D : Nat → Prop) (T : TS) (A : Option Addr) (c : Nat) (vB : Value) (L' : List (List Cl)) (W : World) : Prop := ∃ A2 c2, RfAt W (DD w D) A2 c2 L' ∧ Below w3.heap.size w3 W
theorem gridP_fin {w w3 w5 : World} {D : Nat → Prop} {T : TS} {A A2 : Option Addr} {c c2 : Nat} {vB : Value} {L' : List (List Cl)} (h : RtS w w3 D T A c vB) (hr : RfAt w5 (DD w D) A2 c2 L') (hb : Below w3.heap.size w3 w5) :
    RtS w (((w5.setCell ⟨w.heap.size, 0, none⟩ (.int .i64 T.W)).setCell ⟨w.heap.size, 1, none⟩ (.int .i64 L'.length)).setCell ⟨w.heap.size, 2, none⟩ (.slice A2 L'.length c2)) D { T with L := L' } A2 c2 vB :=
  (h.below hb).putG hr (set3_grown _ _ _ _ _) (set3_blk (h.below hb).x)
def RunB (r : Int) (w3 : World) : Prop := ∀ W, Below w3.heap.size w3 W → Calls Tryz.prog 87 #[.int .i32 r] W fun e w' => ∃ A, e = .returned (.slice A (enc (rfix r)).length (enc (rfix r)).length) ∧ Sem.run Tryz.prog (Go.convert 32 9 (.slice A (enc (rfix r)).length (enc (rfix r)).length)) w' = .ok (.string ⟨(enc (rfix r)).toArray⟩) w' ∧ Sem.run Tryz.prog (Go.convert 32 9 (.slice A (enc (rfix r)).length (enc (rfix r)).length)) w'.drew = .ok (.string ⟨(enc (rfix r)).toArray⟩) w'.drew ∧ Below w3.heap.size w3 w'
theorem runB (r : Int) (w3 : World) : RunB r w3 := fun W hW => (rbytes_any r W).mono fun e w' ⟨he, hw⟩ => by
  have hs : Sl w' w'.heap.size (some ⟨W.heap.size, 0, none⟩) (bv (enc (rfix r))) := by
    have := Sl.new W (bv (enc (rfix r))).toArray 5
    rw [hw]; simpa using this
  exact ⟨_, he, run_str_sl w' w'.heap.size _ _ _ _ hs rfl, run_str_sl w'.drew w'.heap.size _ _ _ _ hs.drew rfl, hW.trans (by rw [hw]; exact ((Below.refl W.heap.size W).alloc (Nat.le_refl _) _).mono hW.size)⟩

theorem enters_rbytes : ∀ args w, (callFunc 87 args).run Tryz.prog w = .ok (.enter 87 args) w := enters_of Tryz.func87 (by kernel_rfl) rfl
def GridQ (w W : World) (D : Nat → Prop) (T : TS) (vB : Value) : Prop := ∃ A c, RtS w W D T A c vB
theorem enters_rjoinT : ∀ args w, (callFunc 86 args).run Tryz.prog w = .ok (.enter 86 args) w := enters_of Tryz.func86 (by kernel_rfl) rfl
set_option maxRecDepth 100000 in
set_option maxHeartbeats 8000000 in
theorem rrune_join {w : World} {D : Nat → Prop} {A : Option Addr} {c : Nat} {T : TS} {vB : Value} (h : RfAt w D A c T.L) (hk : TOk T) (hv : vB.oneCell' = true) (r : Int) (hof : ofI r ≤ 0) (hm : mkB r = true) (hj : T.joins = true) :
    Calls Tryz.prog 57 #[.agg #[.int .i64 T.W, .int .i64 T.L.length, .slice A T.L.length c, .int .i64 T.row, .int .i64 T.col, .bool T.y.b, .bool T.y.u, .bool T.y.i, .int .i64 T.y.f, .int .i64 T.y.g, .bool T.pend, .bool T.seen, .bool T.mark, .int .i64 T.bells, .int .i64 T.scr, vB, .bool T.joins, .int .i64 T.lr, .int .i64 T.lc], .int .i32 r] w fun e w' => ∃ V, e = .returned V ∧ RtV w' (fun b => D b ∨ w.heap.size ≤ b) V ({ T with L := (joinM T.W T.L T.lr T.lc (enc (rfix r))).1 }) vB ∧ Below w.heap.size w w' := by
  have HK := Lib.hid hk
  obtain ⟨eb, heb⟩ : ∃ e, enc (rfix r) = e := ⟨_, rfl⟩
  have hel : eb.length ≤ 4 := by rw [← heb]; exact (enc_le (rfix r)).1
  have HEB := Lib.hid heb
  rw [heb]
  have HOF : Hid (∀ W, Calls Tryz.prog 83 #[.int .i32 r] W fun e w' => e = .returned (.int .i64 (ofI r)) ∧ Below W.heap.size W w') := Lib.hid (fun W => rof_any r W)
  have HMK : Hid (∀ W, Calls Tryz.prog 85 #[.int .i32 r] W fun e w' => e = .returned (.bool true) ∧ Below W.heap.size W w') := Lib.hid (fun W => by have := rmark3_any r W; rw [hm] at this; exact this)
  generalize ofI r = v at HOF hof
  have h0 : ¬ (0 < v) := by omega
  have HJ := Lib.hid hj
  clear hk hm heb hof hj
  obtain ⟨W0, HW0, HS0⟩ := rt_start (vB := vB) h
  have HV := Lib.hid hv
  go_enter Tryz.func57, Tryz.ntmps57
  go_upto_region 1 with fail
  rw [← HW0.out]
  clear HW0
  clear h hv
  go_wp2_with (fail)
  refine (HOF.out _).mono ?_
  rintro e w1 ⟨rfl, hb1⟩
  have HS1 := Lib.hid (HS0.out.below hb1)
  clear hb1
  go_wp2_with (fail)
  refine (HMK.out _).mono ?_
  rintro e w2 ⟨rfl, hb2⟩
  have HS2 := Lib.hid (HS1.out.below hb2)
  clear hb2
  have e2_joins : w2.cell? ⟨w.heap.size, 16, none⟩ = some (.bool true) := by rw [← HJ.out]; exact HS2.out.x.cell 16
  go_wp2_with (fail)
  clear e2_joins
  have HBY3 : Hid (RunB r w2) := Lib.hid (runB r w2)
  unfold RunB at HBY3
  rw [HEB.out] at HBY3
  have HKC : Hid (∀ W, Below w2.heap.size w2 W → W.cell? ⟨w.heap.size, 0, none⟩ = some (.int .i64 T.W) ∧ W.cell? ⟨w.heap.size, 1, none⟩ = some (.int .i64 T.L.length) ∧ W.cell? ⟨w.heap.size, 2, none⟩ = some (.slice A T.L.length c) ∧ W.cell? ⟨w.heap.size, 17, none⟩ = some (.int .i64 T.lr) ∧ W.cell? ⟨w.heap.size, 18, none⟩ = some (.int .i64 T.lc)) := Lib.hid (fun W hW => by
    have hx := (HS2.out.below hW).x
    exact ⟨hx.cell 0, hx.cell 1, hx.cell 2, hx.cell 17, hx.cell 18⟩)
  have HPUT : Hid (∀ W, Below w2.heap.size w2 W → Calls Tryz.prog 86 #[.agg #[.int .i64 T.W, .int .i64 T.L.length, .slice A T.L.length c], .int .i64 T.lr, .int .i64 T.lc, .string ⟨eb.toArray⟩] W fun e w' => ∃ A5 c5, e = .returned (.tuple #[.agg #[.int .i64 T.W, .int .i64 ((joinM T.W T.L T.lr T.lc eb).1).length, .slice A5 ((joinM T.W T.L T.lr T.lc eb).1).length c5], .bool (joinM T.W T.L T.lr T.lc eb).2.1, .int .i64 (joinM T.W T.L T.lr T.lc eb).2.2]) ∧ RfAt w' (DD w D) A5 c5 ((joinM T.W T.L T.lr T.lc eb).1) ∧ Below w2.heap.size w2 w' ∧ w'.frozen? ⟨w.heap.size, 0, none⟩ = false ∧ w'.frozen? ⟨w.heap.size, 1, none⟩ = false ∧ w'.frozen? ⟨w.heap.size, 2, none⟩ = false) := Lib.hid (fun W hW => by
    have hs := HS2.out.below hW
    refine (rjoin_any hs.g HK.out.q T.lr T.lc eb (by omega)).mono ?_
    rintro e w' ⟨V, rfl, hr, hb⟩
    obtain ⟨A5, c5, rfl, hr5⟩ := RtS.backG hr hs
    have hx := (hs.below hb).x
    exact ⟨A5, c5, rfl, hr5, hW.trans (hb.mono hW.size), hx.frozen 0, hx.frozen 1, hx.frozen 2⟩)
  have HDR : Hid (Below w2.heap.size w2 w2.drew) := Lib.hid (Below.refl _ _).drew
  obtain ⟨k_W, k_H, k_L, k_lr, k_lc⟩ := HKC.out w2 (Below.refl _ _)
  obtain ⟨P, hP⟩ : ∃ P, P = (joinM T.W T.L T.lr T.lc eb).1 := ⟨_, rfl⟩
  rw [← hP] at HPUT
  have HP := Lib.hid hP
  clear hP
  go_cut [15] (fun _ wx => GridQ w wx D { T with L := P } vB)
  case first =>
   go_region_law (first
    | (refine step_call rfl 87 _ _ rfl enters_rbytes #[.int .i32 r] (by simp [Act.eval, Act.put]) (HBY3.out _ HDR.out) ?_
       rintro e wx ⟨A4, rfl, hcv4, hcv4d, hbx⟩
       refine ⟨_, rfl, ?_⟩
       have HBX := Lib.hid hbx
       obtain ⟨x_W, x_H, x_L, x_lr, x_lc⟩ := HKC.out wx HBX.out
       clear hbx)
    | (refine step_call rfl 86 _ _ rfl enters_rjoinT #[.agg #[.int .i64 T.W, .int .i64 T.L.length, .slice A T.L.length c], .int .i64 T.lr, .int .i64 T.lc, .string ⟨eb.toArray⟩] (by simp [Act.eval, Act.put]) (HPUT.out _ (by first | exact HBX.out | exact HBX.out.drew)) ?_
       rintro e w5 ⟨A5, c5, rfl, hr5, hp5, fz0, fz1, fz2⟩
       refine ⟨_, rfl, ?_⟩
       have HR5 := Lib.hid hr5
       have HP5 := Lib.hid hp5
       obtain ⟨j0, j1, j2, _⟩ := HKC.out _ HP5.out
       clear hr5 hp5 hcv4 hcv4d))
   all_goals (go_wp2_with fail; go_meet; exact ⟨A5, c5, gridP_fin HS2.out HR5.out HP5.out⟩)
  case rest =>
    obtain ⟨A7, c7, hS7⟩ := hcut
    have HS7 := Lib.hid hS7
    clear hS7
    go_wp2_with (first
        | ((with_reducible refine at_dst 30 ?_); refine wpList_load_mid rfl _ _ rfl w.heap.size 0 rfl (rtC { T with L := P } A7 c7 vB) _ HS7.out.x.whole Tryz.underlying34 rfl rt_size ?_)
        | ((with_reducible refine at_store 4 ?_); refine wpList_store_blk rfl _ _ _ rfl rfl (w.heap.size + 1) 0 _ rtZ (rtC { T with L := P } A7 c7 vB) rfl rfl HS7.out.z (by simp [rtC, rtZ]) rt_size (rtC_one _ _ _ HV.out) ?_; intro w9 hn9 hg9))
    rw [← HP.out]
    exact bodyPost_ret (results_c rfl rfl hn9.whole Tryz.underlying34 rfl rt_size) rfl ⟨_, rfl, HS7.out.fin hg9⟩
end Go.Proofs.YtfmkeeaenjeneaaGreatDoor
