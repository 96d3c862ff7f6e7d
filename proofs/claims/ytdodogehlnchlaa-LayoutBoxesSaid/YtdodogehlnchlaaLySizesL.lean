/-
  Walk: the law LayoutSizes.
-/
import Derived.Test.YtdodogehlnchlaaLyUni
namespace Go.Proofs.Ytdodogehlnchlaa
open Go.RowKit Go.Shelf Go.Sort
attribute [local go_sem] Oper.semAt_some
set_option linter.unusedVariables false
set_option linter.unusedSimpArgs false

theorem alike_self (n : Nat) (f : Nat → Bool) : alikeV n n f f = true := decide_eq_true ⟨rfl, fun _ _ => rfl⟩
theorem same_self (n : Nat) (f : Nat → Int) : sameV n n f f = true := decide_eq_true ⟨rfl, fun _ _ => rfl⟩
theorem alikeS {A B : Option Addr} {n c d : Nat} {f : Nat → Bool} {w : World} (hn : n ≤ 65) (hA : Sl w w.heap.size A (rw1 (fun i => .bool (f i)) n)) (hB : Sl w w.heap.size B (rw1 (fun i => .bool (f i)) n)) :
    Calls Try.prog 16 #[.slice A n c, .slice B n d] w fun e w' => e = .returned (.bool true) ∧ Below w.heap.size w w' := by
  have := alike_any A B n n c d f f w (by omega) (by omega) hA hB
  rwa [alike_self] at this
theorem sameS {A B : Option Addr} {n c d : Nat} {f : Nat → Int} {w : World} (hn : n ≤ 65) (hA : Sl w w.heap.size A (rw1 (fun i => .int .i64 (f i)) n)) (hB : Sl w w.heap.size B (rw1 (fun i => .int .i64 (f i)) n)) :
    Calls Try.prog 17 #[.slice A n c, .slice B n d] w fun e w' => e = .returned (.bool true) ∧ Below w.heap.size w w' := by
  have := same_any A B n n c d f f w (by omega) (by omega) hA hB
  rwa [same_self] at this
theorem sl_on {w w' : World} {A : Option Addr} {xs : List Value} (h : Sl w w.heap.size A xs) (hb : Below w.heap.size w w') : Sl w' w'.heap.size A xs := (h.below hb).more hb.size

set_option maxRecDepth 100000 in
set_option maxHeartbeats 8000000 in
theorem layoutSizes_walk (room gap : Int) (A : Option Addr) (n0 c : Nat) (P : Nat → Pt) (w : World) (hnc : n0 ≤ c) (hS0 : Sl w w.heap.size A (ptB P n0)) :
    Calls Try.prog 3 #[.int .i64 room, .int .i64 gap, .slice A n0 c] w fun e w' => e = .returned (.bool true) ∧ Below w.heap.size w w' := by
  obtain ⟨n, hn⟩ : ∃ n, min n0 65 = n := ⟨_, rfl⟩
  have HF := Lib.hid (hn ▸ lfew_any A n0 c hnc w)
  have hn65 : n ≤ 65 := by omega
  have hS : Sl w w.heap.size A (ptB P n) := by
    have := hS0.take (n * 4)
    rwa [show (ptB P n0).take (n * 4) = ptB P n from flB_take (fun i => ptC_len _) (by omega)] at this
  have HS := Lib.hid hS
  have HNL := Lib.hid (nR_le (room := room) (gap := gap) (P := P) hn65)
  clear hS hS0 hn
  have U1 := Lib.hid (fun w h => pleastU gap A n c P w hn65 h)
  have U2 := Lib.hid (fun w h => rleastU gap A n c P w hn65 h)
  have U3 := Lib.hid (fun w h => pstayU room gap A n c P w hn65 h)
  have U4 := Lib.hid (fun w h => rstayU room gap A n c P w hn65 h)
  have U5 := Lib.hid (fun w h => psizesU room gap A n c P w hn65 h)
  have U6 := Lib.hid (fun w h => rsizesU room gap A n c P w hn65 h)
  have U7 := Lib.hid (fun w h => check_any room gap A n c P w hn65 h)
  have U8 := Lib.hid (fun w h => lrcheck_any room gap A n c P w hn65 h)
  generalize nR room gap n P = N at *
  generalize lR gap n P = L at *
  generalize chkV 0 gap n P = v0 at *
  generalize chkV room gap n P = v at *
  generalize kpR gap room P n = b at *
  generalize szR gap room P n = f at *
  go_enter Try.func3, Try.ntmps3
  go_upto_region 2 with (go_at_call 9; refine HF.out.mono ?_; rintro e w1 ⟨rfl, rfl⟩)
  go_upto_region 3 with (go_at_call 10; refine (U1.out _ HS.out).mono ?_; rintro e w2 ⟨rfl, hb⟩; have HS2 := Lib.hid (sl_on HS.out hb); have B2 := Lib.hid hb; clear hb)
  go_upto_region 4 with (go_at_call 11; refine (U2.out _ HS2.out).mono ?_; rintro e w3 ⟨rfl, hb⟩; have HS3 := Lib.hid (sl_on HS2.out hb); have B3 := Lib.hid (B2.out.trans (hb.mono B2.out.size)); clear hb)
  go_upto_region 5 with (go_at_call 12; refine (U3.out _ HS3.out).mono ?_; rintro e w4 ⟨⟨S1, q1, rfl, hr⟩, hb⟩; have HS4 := Lib.hid (sl_on HS3.out hb); have B4 := Lib.hid (B3.out.trans (hb.mono B3.out.size)); have R14 := Lib.hid hr; clear hb hr)
  go_upto_region 6 with (go_at_call 13; refine (U4.out _ HS4.out).mono ?_; rintro e w5 ⟨⟨S2, q2, rfl, hr⟩, hb⟩; have HS5 := Lib.hid (sl_on HS4.out hb); have B5 := Lib.hid (B4.out.trans (hb.mono B4.out.size)); have R15 := Lib.hid (sl_on R14.out hb); have R25 := Lib.hid hr; clear hb hr)
  go_upto_region 7 with (go_at_call 14; refine (U5.out _ HS5.out).mono ?_; rintro e w6 ⟨⟨S3, q3, rfl, hr⟩, hb⟩; have HS6 := Lib.hid (sl_on HS5.out hb); have B6 := Lib.hid (B5.out.trans (hb.mono B5.out.size)); have R16 := Lib.hid (sl_on R15.out hb); have R26 := Lib.hid (sl_on R25.out hb); have R36 := Lib.hid hr; clear hb hr)
  go_upto_region 8 with (go_at_call 15; refine (U6.out _ HS6.out).mono ?_; rintro e w7 ⟨⟨S4, q4, rfl, hr⟩, hb⟩; have HS7 := Lib.hid (sl_on HS6.out hb); have B7 := Lib.hid (B6.out.trans (hb.mono B6.out.size)); have R17 := Lib.hid (sl_on R16.out hb); have R27 := Lib.hid (sl_on R26.out hb); have R37 := Lib.hid (sl_on R36.out hb); have R47 := Lib.hid hr; clear hb hr)
  clear R14 R15 R16 R25 R26 R36 B2 B3 B4 B5 B6 HS2 HS3 HS4 HS5 HS6 U1 U2 U3 U4 U5 U6 HF
  go_wp2_with (first
    | (go_at_call 16; refine (alikeS HNL.out R17.out R27.out).mono ?_; rintro e w8 ⟨rfl, hb⟩; have HS8 := Lib.hid (sl_on HS7.out hb); have B8 := Lib.hid (B7.out.trans (hb.mono B7.out.size)); have R38 := Lib.hid (sl_on R37.out hb); have R48 := Lib.hid (sl_on R47.out hb); clear hb)
    | (go_at_call 17; refine (sameS HNL.out R38.out R48.out).mono ?_; rintro e w9 ⟨rfl, hb⟩; have HS9 := Lib.hid (sl_on HS8.out hb); have B9 := Lib.hid (B8.out.trans (hb.mono B8.out.size)); clear hb)
    | (go_at_call 18; refine (U7.out _ HS9.out).mono ?_; rintro e w10 ⟨rfl, hb⟩; have HS10 := Lib.hid (sl_on HS9.out hb); have B10 := Lib.hid (B9.out.trans (hb.mono B9.out.size)); clear hb)
    | (go_at_call 19; refine (U8.out _ HS10.out).mono ?_; rintro e w11 ⟨rfl, hb⟩; have B11 := Lib.hid (B10.out.trans (hb.mono B10.out.size)); clear hb)
    | (go_at_call 20; refine (lawake_any _).mono ?_; rintro e w12 ⟨rfl, hb⟩; have B12 := Lib.hid (B11.out.trans (hb.mono B11.out.size)); clear hb))
  go_ret
  exact ⟨ret_bool (by simp), B12.out⟩
end Go.Proofs.Ytdodogehlnchlaa
