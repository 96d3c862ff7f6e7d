/-
  Walk: the chapter's example.
-/
import Derived.Test.YtijbimofigkdkaaDoorGrPut
import Derived.Test.YtijbimofigkdkaaDoorGrNew
import Derived.Test.YtijbimofigkdkaaDoorGrText
import Derived.Test.YtijbimofigkdkaaDoorGrEq
namespace Go.Proofs.YtijbimofigkdkaaDoor
open Go.RowKit
set_option linter.unusedVariables false
set_option linter.unusedSimpArgs false

def ybold : Sty := ⟨true, false, false, 0, 0⟩
def cx : Cl := ⟨[120], 1, ybold⟩
def aw1 : List (List Cl) := (putM 4 (blankG 4 1) 0 1 [87] 2 Sty.zero).1
def aw2 : List (List Cl) := (putM 4 aw1 0 2 [120] 1 ybold).1
theorem aw_p1 : (putM 4 (blankG 4 1) 0 1 [87] 2 Sty.zero).2 = 0 := by decide
theorem aw_p2 : (putM 4 aw1 0 2 [120] 1 ybold).2 = 0 := by decide
theorem aw_c1 : cellB aw2 0 1 = (bl, true) := by decide
theorem aw_c2 : cellB aw2 0 2 = (cx, true) := by decide
theorem aw_row : aw2[0]? = some [bl, bl, cx, bl] := by decide
theorem aw_text : textM [bl, bl, cx, bl] = [32, 32, 120] := by decide

theorem blk7 {w : World} {b : Nat} {t : TypeId} {c : Cl} (h : Blk w b t c.cells) : w.cell? ⟨b, 0, none⟩ = some (.string ⟨c.s.toArray⟩) ∧ w.cell? ⟨b, 1, none⟩ = some (.int .i64 c.w) ∧ w.cell? ⟨b, 2, none⟩ = some (.bool c.y.b) ∧ w.cell? ⟨b, 3, none⟩ = some (.bool c.y.u) ∧ w.cell? ⟨b, 4, none⟩ = some (.bool c.y.i) ∧ w.cell? ⟨b, 5, none⟩ = some (.int .i64 c.y.f) ∧ w.cell? ⟨b, 6, none⟩ = some (.int .i64 c.y.g) :=
  ⟨h.cell 0, h.cell 1, h.cell 2, h.cell 3, h.cell 4, h.cell 5, h.cell 6⟩

theorem aput1 {w : World} {lo g rb : Nat} {bs : List Nat} (h : GrAt w lo g rb bs 4 (blankG 4 1)) (hT : BlankT w) (hlo : 0 < lo) :
    Calls Tryd.prog 13 #[.pointer (some ⟨g, 0, none⟩), .int .i64 0, .int .i64 1, .string ⟨#[87]⟩, .int .i64 2, .agg #[.bool false, .bool false, .bool false, .int .i64 0, .int .i64 0]] w fun e w' => e = .returned (.int .i64 0) ∧ GrAt w' lo g rb bs 4 aw1 ∧ Chg (GrOwn g rb bs) w w' := by
  have := put_any h hT hlo 0 1 [87] 2 Sty.zero (by simp)
  rw [aw_p1] at this
  exact this
theorem aput2 {w : World} {lo g rb : Nat} {bs : List Nat} (h : GrAt w lo g rb bs 4 aw1) (hT : BlankT w) (hlo : 0 < lo) :
    Calls Tryd.prog 13 #[.pointer (some ⟨g, 0, none⟩), .int .i64 0, .int .i64 2, .string ⟨#[120]⟩, .int .i64 1, .agg #[.bool true, .bool false, .bool false, .int .i64 0, .int .i64 0]] w fun e w' => e = .returned (.int .i64 0) ∧ GrAt w' lo g rb bs 4 aw2 ∧ Chg (GrOwn g rb bs) w w' := by
  have := put_any h hT hlo 0 2 [120] 1 ybold (by simp)
  rw [aw_p2] at this
  exact this
theorem acell1 {w : World} {lo g rb : Nat} {bs : List Nat} (h : GrAt w lo g rb bs 4 aw2) :
    Calls Tryd.prog 20 #[.pointer (some ⟨g, 0, none⟩), .int .i64 0, .int .i64 1] w fun e w' => e = .returned (.tuple #[.agg bl.cells.toArray, .bool true]) ∧ Below w.heap.size w w' := by
  have := cell_any h 0 1
  rw [aw_c1] at this
  exact this
theorem acell2 {w : World} {lo g rb : Nat} {bs : List Nat} (h : GrAt w lo g rb bs 4 aw2) :
    Calls Tryd.prog 20 #[.pointer (some ⟨g, 0, none⟩), .int .i64 0, .int .i64 2] w fun e w' => e = .returned (.tuple #[.agg cx.cells.toArray, .bool true]) ∧ Below w.heap.size w w' := by
  have := cell_any h 0 2
  rw [aw_c2] at this
  exact this
theorem atext {w : World} {lo g rb : Nat} {bs : List Nat} (h : GrAt w lo g rb bs 4 aw2) :
    Calls Tryd.prog 26 #[.pointer (some ⟨g, 0, none⟩), .int .i64 0] w fun e w' => e = .returned (.string ⟨#[32, 32, 120]⟩) ∧ Below w.heap.size w w' := by
  have := text_yes h 0 _ aw_row
  rw [aw_text] at this
  exact this
theorem ptr_eqn (g : Nat) (w : World) : Sem.run Tryd.prog (binOp .eql 23 (.pointer (some ⟨g, 0, none⟩)) (.pointer none)) w = .ok (.bool false) w := by
  have h : ∀ d : Nat, (Op.equalIn (d + 1) 23 (.pointer (some ⟨g, 0, none⟩)) (.pointer none)).run Tryd.prog w = .ok false w := fun d => by
    simp [Op.equalIn, run_underlying Tryd.underlying23]
  simp only [binOp]
  simp [Op.equal, Op.maxDepth, h 9999]
theorem own_below {w w' : World} {lo g rb W : Nat} {bs : List Nat} {L : List (List Cl)} (h : GrAt w lo g rb bs W L) (hc : Chg (GrOwn g rb bs) w w') (hlo : lo ≤ w.heap.size) : Below lo w w' := hc.below hlo h.lo

set_option maxRecDepth 100000 in
set_option maxHeartbeats 4000000 in
theorem awake_any (w : World) (hT : BlankT w) : Calls Tryd.prog 9 #[] w fun e w' => e = .returned (.bool true) ∧ Below w.heap.size w w' := by
  have HT := Lib.hid hT
  clear hT
  have hq1 : ∀ w, (Op.equalIn 10000 51 (.agg #[.string ⟨#[32]⟩, .int .i64 1, .bool false, .bool false, .bool false, .int .i64 0, .int .i64 0]) (.agg #[.string ⟨#[32]⟩, .int .i64 1, .bool false, .bool false, .bool false, .int .i64 0, .int .i64 0])).run Tryd.prog w = .ok true w := fun w => (run_eq_cl bl bl w).trans (by simp)
  have hq2 : ∀ w, (Op.equalIn 10000 51 (.agg #[.string ⟨#[120]⟩, .int .i64 1, .bool true, .bool false, .bool false, .int .i64 0, .int .i64 0]) (.agg #[.string ⟨#[120]⟩, .int .i64 1, .bool true, .bool false, .bool false, .int .i64 0, .int .i64 0])).run Tryd.prog w = .ok true w := fun w => (run_eq_cl cx cx w).trans (by simp)
  have hg := cl_guard
  have hlo := HT.out.2
  go_enter Tryd.func9, Tryd.ntmps9
  go_wp2_with (first
    | (go_at_call 7; refine (new_ok 4 1 (by omega) (by omega) (by omega) (by omega) w HT.out).mono ?_; rintro e w1 ⟨g, rb, bs, rfl, hg1, hb1⟩; have HG1 := Lib.hid hg1; have HB1 := Lib.hid hb1; have hpn := ptr_eqn g; clear hg1 hb1))
  refine (aput1 HG1.out (HT.out.below HB1.out hlo) hlo).mono ?_
  rintro e w2 ⟨rfl, hg2, hc2⟩
  have HG2 := Lib.hid hg2
  have HB2 := Lib.hid (HB1.out.trans (own_below HG1.out hc2 HB1.out.size))
  clear hg2 hc2
  go_wp2_with (fail)
  refine (aput2 HG2.out (HT.out.below HB2.out hlo) hlo).mono ?_
  rintro e w3 ⟨rfl, hg3, hc3⟩
  have HG3 := Lib.hid hg3
  have HB3 := Lib.hid (HB2.out.trans (own_below HG2.out hc3 HB2.out.size))
  clear hg3 hc3
  go_wp2_with (fail)
  refine (acell1 HG3.out).mono ?_
  rintro e w4 ⟨rfl, hb4⟩
  have HG4 := Lib.hid (HG3.out.below hb4)
  have HB4 := Lib.hid (HB3.out.trans (hb4.mono HB3.out.size))
  have HN4 := Lib.hid (Blk.new w4 51 czero.cells)
  clear hb4
  go_wp2_with ((with_reducible refine at_store 5 ?_); refine wpList_store_blk rfl _ _ _ rfl rfl w4.heap.size 0 _ czero.cells bl.cells rfl rfl HN4.out (by simp [Cl.len]) cl_size bl.one ?_; intro w5 hn5 hg5; have hn5' : Blk w5 w4.heap.size 51 bl.cells := hn5; have hb5 : Below w4.heap.size w4 w5 := ((Below.refl _ _).alloc (Nat.le_refl _) _).grown hg5 (by simp) (fun j hj => by injection hj with hj; omega); have HG5 := Lib.hid (HG4.out.below hb5); have HB5 := Lib.hid (HB4.out.trans (hb5.mono HB4.out.size)); have HN5 := Lib.hid hn5'; clear hn5 hn5' hg5 hb5)
  refine (acell2 HG5.out).mono ?_
  rintro e w6 ⟨rfl, hb6⟩
  have HG6 := Lib.hid (HG5.out.below hb6)
  have HB6 := Lib.hid (HB5.out.trans (hb6.mono HB5.out.size))
  have HN6 := Lib.hid (HN5.out.below hb6 HN5.out.lt)
  have HM6 := Lib.hid (Blk.new w6 51 czero.cells)
  clear hb6
  go_wp2_with ((with_reducible refine at_store 7 ?_); refine wpList_store_blk rfl _ _ _ rfl rfl w6.heap.size 0 _ czero.cells cx.cells rfl rfl HM6.out (by simp [Cl.len]) cl_size cx.one ?_; intro w7 hn7 hg7; have hn7' : Blk w7 w6.heap.size 51 cx.cells := hn7; have hb7 : Below w6.heap.size w6 w7 := ((Below.refl _ _).alloc (Nat.le_refl _) _).grown hg7 (by simp) (fun j hj => by injection hj with hj; omega); have HG7 := Lib.hid (HG6.out.below hb7); have HB7 := Lib.hid (HB6.out.trans (hb7.mono HB6.out.size)); obtain ⟨x0, x1, x2, x3, x4, x5, x6⟩ := blk7 hn7'; obtain ⟨y0, y1, y2, y3, y4, y5, y6⟩ := blk7 (HN6.out.below hb7 HN6.out.lt); simp only [cx, ybold, bl, Sty.zero] at x0 x1 x2 x3 x4 x5 x6 y0 y1 y2 y3 y4 y5 y6; clear hn7 hn7' hg7 hb7)
  refine (atext HG7.out).mono ?_
  rintro e w8 ⟨rfl, hb8⟩
  have HB8 := Lib.hid (HB7.out.trans (hb8.mono HB7.out.size))
  clear hb8
  go_wp2
  go_ret
  exact ⟨rfl, HB8.out⟩
end Go.Proofs.YtijbimofigkdkaaDoor
