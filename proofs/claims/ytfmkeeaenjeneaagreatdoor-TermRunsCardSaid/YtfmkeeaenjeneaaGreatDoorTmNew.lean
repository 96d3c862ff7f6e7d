/-
  Walks: New, Fork, Cell, Row, Text, and what the methods of no terminal come to.
-/
import Derived.Test.YtfmkeeaenjeneaaGreatDoorTmAcc
import Derived.Test.YtfmkeeaenjeneaaGreatDoorGbT2
import Derived.Test.YtfmkeeaenjeneaaGreatDoorRegT
namespace Go.Proofs.YtfmkeeaenjeneaaGreatDoor
open Go.RowKit Go.Sort
set_option linter.unusedVariables false
set_option linter.unusedSimpArgs false

theorem tm_new (w : World) (t g : Nat) (rb : Nat) (bs : List Nat) (W H lo : Nat) (hg : GrAt w lo g rb bs W (blankG W H)) (hH : (blankG W H).length = H) (h1 : 1 ≤ H) (w1 : 1 ≤ W) (hlo : lo ≤ t) (hb : Blk w t 63 (tmc t g (tmNew W H) (List.replicate 32 (.int .u8 0)) 0)) : TmAt w lo t g rb bs (tmNew W H) [] :=
  ⟨⟨List.replicate 32 (.int .u8 0), by simp, rfl, hb⟩, hg, hlo, by show 0 < (tmNew W H).L.length; simp [tmNew]; omega, by show 0 < W; omega, by simp⟩

set_option maxRecDepth 100000 in
set_option maxHeartbeats 4000000 in
theorem tnew_ok (W H : Nat) (w1 : 1 ≤ W) (w5 : W ≤ 500) (h1 : 1 ≤ H) (h5 : H ≤ 500) (w : World) (hT : BlankT w) :
    Calls Tryz.prog 5 #[.int .i64 W, .int .i64 H] w fun e w' => ∃ t g rb bs, e = .returned (.tuple #[.pointer (some ⟨t, 0, none⟩), .int .i64 0]) ∧ TmAt w' w.heap.size t g rb bs (tmNew W H) [] ∧ Below w.heap.size w w' := by
  have HG := Lib.hid (new_ok W H w1 w5 h1 h5 w hT)
  have hw5 : (W : Int) ≤ 500 := by omega
  have hh5 : (H : Int) ≤ 500 := by omega
  clear hT
  go_enter Tryz.func5, Tryz.ntmps5
  go_wp2_with (fail)
  refine HG.out.mono ?_
  rintro e w2 ⟨g, rb, bs, rfl, hg, hb⟩
  have HGR := Lib.hid hg
  have HB := Lib.hid hb
  clear hg hb
  go_wp2_with (fail)
  go_ret2
  exact ⟨w2.heap.size, g, rb, bs, rfl, tm_new _ _ _ _ _ _ _ _ (HGR.out.below ((Below.refl _ w2).alloc (Nat.le_refl _) _)) (by simp [blankG]) h1 w1 HB.out.size (Blk.new w2 63 (tmc w2.heap.size g (tmNew W H) (List.replicate 32 (.int .u8 0)) 0)), HB.out.alloc HB.out.size _⟩

set_option maxHeartbeats 1000000 in
theorem tnew_no (W H : Int) (w : World) (hbad : sideB W = false ∨ sideB H = false) :
    Calls Tryz.prog 5 #[.int .i64 W, .int .i64 H] w fun e w' => e = .returned (.tuple #[.pointer none, .int .i64 50]) ∧ w = w' := by
  have HG := Lib.hid (new_no W H w hbad)
  clear hbad
  go_enter Tryz.func5, Tryz.ntmps5
  go_wp2_with (fail)
  refine HG.out.mono ?_
  rintro e w' ⟨rfl, rfl⟩
  go_wp2_with (fail)
  go_ret2
  exact ⟨rfl, rfl⟩

section
variable {w : World} {lo t g rb : Nat} {bs : List Nat} {T : TS} {B : List UInt8} {p : Option Addr}
set_option maxHeartbeats 1000000 in
theorem twrite_not (h : TmNo w p) (P : Option Addr) (n cap : Nat) :
    Calls Tryz.prog 8 #[.pointer p, .slice P n cap] w fun e w' => e = .returned (.tuple #[]) ∧ w = w' := by
  have H := Lib.hid h
  clear h
  go_enter Tryz.func8, Tryz.ntmps8
  go_wp2_with (go_at_call 24; refine (tmade_not H.out).mono ?_; rintro e w' ⟨rfl, rfl⟩)
  refine bodyPost_ret (results_none rfl _ _ _) rfl ?_
  exact ⟨rfl, rfl⟩
set_option maxHeartbeats 1000000 in
theorem tresize_not (h : TmNo w p) (a b : Int) :
    Calls Tryz.prog 12 #[.pointer p, .int .i64 a, .int .i64 b] w fun e w' => e = .returned (.int .i64 4) ∧ w = w' := by
  have H := Lib.hid h
  clear h
  go_enter Tryz.func12, Tryz.ntmps12
  go_wp2_with (go_at_call 24; refine (tmade_not H.out).mono ?_; rintro e w' ⟨rfl, rfl⟩)
  go_ret
  exact ⟨rfl, rfl⟩
set_option maxHeartbeats 1000000 in
theorem tfork_not (h : TmNo w p) :
    Calls Tryz.prog 13 #[.pointer p] w fun e w' => e = .returned (.pointer none) ∧ w = w' := by
  have H := Lib.hid h
  clear h
  go_enter Tryz.func13, Tryz.ntmps13
  go_wp2_with (go_at_call 24; refine (tmade_not H.out).mono ?_; rintro e w' ⟨rfl, rfl⟩)
  go_ret
  exact ⟨rfl, rfl⟩
set_option maxHeartbeats 1000000 in
theorem trow_not (h : TmNo w p) (row : Int) :
    Calls Tryz.prog 38 #[.pointer p, .int .i64 row] w fun e w' => e = .returned (.slice none 0 0) ∧ Below w.heap.size w w' := by
  have HS := Lib.hid (shown_not h)
  have HR := Lib.hid (row_no (w := w) (p := none) row ((has_not (.inl rfl) row 0).mono fun e w' ⟨a, b⟩ => ⟨a, b ▸ Below.refl _ _⟩))
  clear h
  go_enter Tryz.func38, Tryz.ntmps38
  go_wp2_with (first
    | (go_at_call 32; refine HS.out.mono ?_; rintro e w' ⟨rfl, rfl⟩)
    | (go_at_call 62; refine HR.out.mono ?_; rintro e w' ⟨rfl, hb⟩))
  go_ret
  exact ⟨rfl, hb⟩
set_option maxHeartbeats 1000000 in
theorem ttext_not (h : TmNo w p) (row : Int) :
    Calls Tryz.prog 21 #[.pointer p, .int .i64 row] w fun e w' => e = .returned (.string ⟨#[]⟩) ∧ Below w.heap.size w w' := by
  have HS := Lib.hid (shown_not h)
  have HR := Lib.hid (text_no (w := w) (p := none) row ((has_not (.inl rfl) row 0).mono fun e w' ⟨a, b⟩ => ⟨a, b ▸ Below.refl _ _⟩))
  clear h
  go_enter Tryz.func21, Tryz.ntmps21
  go_wp2_with (first
    | (go_at_call 32; refine HS.out.mono ?_; rintro e w' ⟨rfl, rfl⟩)
    | (go_at_call 48; refine HR.out.mono ?_; rintro e w' ⟨rfl, hb⟩))
  go_ret
  exact ⟨rfl, hb⟩
set_option maxHeartbeats 1000000 in
theorem ttext_yes (h : TmAt w lo t g rb bs T B) (row : Nat) (l : List Cl) (hl : T.L[row]? = some l) :
    Calls Tryz.prog 21 #[.pointer (some ⟨t, 0, none⟩), .int .i64 row] w fun e w' => e = .returned (.string ⟨(textM l).toArray⟩) ∧ Below w.heap.size w w' := by
  have HS := Lib.hid (shown_yes h)
  have HR := Lib.hid (text_yes h.grid row l hl)
  clear h hl
  go_enter Tryz.func21, Tryz.ntmps21
  go_wp2_with (first
    | (go_at_call 32; refine HS.out.mono ?_; rintro e w' ⟨rfl, rfl⟩)
    | (go_at_call 48; refine HR.out.mono ?_; rintro e w' ⟨rfl, hb⟩))
  go_ret
  exact ⟨rfl, hb⟩
set_option maxHeartbeats 1000000 in
theorem trow_yes (h : TmAt w lo t g rb bs T B) (row : Nat) (l : List Cl) (hl : T.L[row]? = some l) :
    Calls Tryz.prog 38 #[.pointer (some ⟨t, 0, none⟩), .int .i64 row] w fun e w' => ∃ A c, e = .returned (.slice A T.W c) ∧ Sl w' w'.heap.size A (rc l) ∧ Below w.heap.size w w' := by
  have HS := Lib.hid (shown_yes h)
  have HR := Lib.hid (row_yes h.grid row l hl)
  clear h hl
  go_enter Tryz.func38, Tryz.ntmps38
  go_wp2_with (first
    | (go_at_call 32; refine HS.out.mono ?_; rintro e w' ⟨rfl, rfl⟩)
    | (go_at_call 62; refine HR.out.mono ?_; rintro e w' ⟨A, c, rfl, hs, hb⟩))
  go_ret
  exact ⟨A, c, rfl, hs, hb⟩

/-- a cell that a method hands on -/
theorem tczero (w : World) : ∃ W0, Hid (W0 = w.alloc (.cells #[.string ⟨#[]⟩, .int .i64 0, .bool false, .bool false, .bool false, .int .i64 0, .int .i64 0] 83)) ∧ Hid (Below w.heap.size w W0) ∧ Hid (Blk W0 w.heap.size 83 czero.cells) :=
  ⟨_, Lib.hid rfl, Lib.hid ((Below.refl _ _).alloc (Nat.le_refl _) _), Lib.hid (Blk.new w 83 czero.cells)⟩
set_option maxHeartbeats 1000000 in
theorem tcell_of (row col : Int) (q : Option Addr) (c : Cl) (b : Bool) (hs : ∀ W, Below w.heap.size w W → Calls Tryz.prog 32 #[.pointer p] W fun e w' => e = .returned (.pointer q) ∧ W = w')
    (hc : ∀ W, Below w.heap.size w W → Calls Tryz.prog 63 #[.pointer q, .int .i64 row, .int .i64 col] W fun e w' => e = .returned (.tuple #[.agg c.cells.toArray, .bool b]) ∧ Below W.heap.size W w') :
    Calls Tryz.prog 41 #[.pointer p, .int .i64 row, .int .i64 col] w fun e w' => e = .returned (.tuple #[.agg c.cells.toArray, .bool b]) ∧ Below w.heap.size w w' := by
  obtain ⟨W0, HW0, HB0, HZ⟩ := tczero w
  have HS := Lib.hid (hs W0 HB0.out)
  have HC := Lib.hid (hc W0 HB0.out)
  clear hs hc
  go_enter Tryz.func41, Tryz.ntmps41
  go_upto_region 1 with fail
  rw [← HW0.out]
  clear HW0
  go_wp2_with (first
    | (go_at_call 32; refine HS.out.mono ?_; rintro e w' ⟨rfl, rfl⟩)
    | (go_at_call 63; refine HC.out.mono ?_; rintro e w1 ⟨rfl, hb1⟩; have HB1 := Lib.hid (HB0.out.trans (hb1.mono HB0.out.size)); have HZ1 := Lib.hid (HZ.out.below hb1 HZ.out.lt); clear hb1)
    | ((with_reducible refine at_store 6 ?_); refine wpList_store_blk rfl _ _ _ rfl rfl w.heap.size 0 _ czero.cells c.cells rfl rfl HZ1.out (by simp [Cl.len]) cl_size c.one ?_; intro w9 hn9 hg9))
  exact bodyPost_ret (results_ct rfl rfl rfl (tswhole hn9) Tryz.underlying83 rfl cl_size) rfl ⟨rfl, HB1.out.grown hg9 HB1.out.size (fun j hj => by injection hj with hj; omega)⟩
theorem TmNo.below {w w' : World} {p : Option Addr} (h : TmNo w p) (hb : Below w.heap.size w w') : TmNo w' p := by
  rcases h with e | ⟨t, e, hc⟩
  · exact .inl e
  · exact .inr ⟨t, e, (hb.cell (p := ⟨t, 0, none⟩) (World.block_lt_of_cell? _ _ hc)).trans hc⟩
theorem tcell_not (h : TmNo w p) (row col : Int) : Calls Tryz.prog 41 #[.pointer p, .int .i64 row, .int .i64 col] w fun e w' => e = .returned (.tuple #[.agg czero.cells.toArray, .bool false]) ∧ Below w.heap.size w w' :=
  tcell_of row col none czero false (fun W hW => shown_not (h.below hW)) (fun W hW => cell_not (.inl rfl) row col)
theorem tcell_yes (h : TmAt w lo t g rb bs T B) (row col : Int) : Calls Tryz.prog 41 #[.pointer (some ⟨t, 0, none⟩), .int .i64 row, .int .i64 col] w fun e w' => e = .returned (.tuple #[.agg (cellB T.L row col).1.cells.toArray, .bool (cellB T.L row col).2]) ∧ Below w.heap.size w w' :=
  tcell_of row col (some ⟨g, 0, none⟩) _ _ (fun W hW => shown_yes (h.below hW)) (fun W hW => cell_any (h.below hW).grid row col)
end
end Go.Proofs.YtfmkeeaenjeneaaGreatDoor
