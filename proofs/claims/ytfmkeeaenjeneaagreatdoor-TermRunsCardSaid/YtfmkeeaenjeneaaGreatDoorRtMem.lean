/-
  The reference's terminal as it lies in memory: a struct by value over a reference's grid; its own box and the result's cell.
-/
import Derived.Test.YtfmkeeaenjeneaaGreatDoorGbT1
import Derived.Test.YtfmkeeaenjeneaaGreatDoorGbT2
import Derived.Test.YtfmkeeaenjeneaaGreatDoorGfP
import Derived.Test.YtfmkeeaenjeneaaGreatDoorRegT
namespace Go.Proofs.YtfmkeeaenjeneaaGreatDoor
open Go.RowKit Go.Sort
set_option linter.unusedVariables false
set_option linter.unusedSimpArgs false

/-- a terminal's cells: the grid's rows lie at A; vB: the bytes' slice -/
def rtC (T : TS) (A : Option Addr) (c : Nat) (vB : Value) : List Value :=
  [.int .i64 T.W, .int .i64 T.L.length, .slice A T.L.length c, .int .i64 T.row, .int .i64 T.col, .bool T.y.b, .bool T.y.u, .bool T.y.i, .int .i64 T.y.f, .int .i64 T.y.g, .bool T.pend, .bool T.seen, .bool T.mark, .int .i64 T.bells, .int .i64 T.scr, vB, .bool T.joins, .int .i64 T.lr, .int .i64 T.lc]
def rtZ : List Value := [.int .i64 0, .int .i64 0, .slice none 0 0, .int .i64 0, .int .i64 0, .bool false, .bool false, .bool false, .int .i64 0, .int .i64 0, .bool false, .bool false, .bool false, .int .i64 0, .int .i64 0, .slice none 0 0, .bool false, .int .i64 0, .int .i64 0]
theorem rt_size : (Tryz.prog.info? 34).map (·.size) = some 19 := by kernel_rfl
theorem rtC_len (T : TS) (A : Option Addr) (c : Nat) (vB : Value) : (rtC T A c vB).length = 19 := rfl
theorem rtC_one (T : TS) (A : Option Addr) (c : Nat) {vB : Value} (hB : vB.oneCell' = true) : ∀ v ∈ rtC T A c vB, v.oneCell' = true := by
  intro v hv
  simp [rtC] at hv
  rcases hv with rfl | rfl | rfl | rfl | rfl | rfl | rfl | rfl | rfl | rfl | rfl | rfl | rfl | rfl | rfl | rfl | rfl | rfl | rfl <;> first | rfl | exact hB
/-- what holds of a terminal's state -/
structure TOk (T : TS) : Prop where
  q : Rws T.W T.L
  row : T.row < T.L.length
  col : T.col < T.W
/-- what a value shows -/
def RtV (w : World) (D : Nat → Prop) (V : Value) (T : TS) (vB : Value) : Prop := ∃ A c, V = .agg (rtC T A c vB).toArray ∧ RfAt w D A c T.L
theorem RtV.below {w w' : World} {D : Nat → Prop} {V vB : Value} {T : TS} (h : RtV w D V T vB) (hb : Below w.heap.size w w') : RtV w' D V T vB := by
  obtain ⟨A, c, h1, h2⟩ := h
  exact ⟨A, c, h1, h2.below hb⟩
theorem RtV.mono {w : World} {D D' : Nat → Prop} {V vB : Value} {T : TS} (h : RtV w D V T vB) (hd : ∀ b, b < w.heap.size → D b → D' b) : RtV w D' V T vB := by
  obtain ⟨A, c, h1, h2⟩ := h
  exact ⟨A, c, h1, h2.mono hd⟩

/-- where a function's grid may lie: the old blocks of D, and what was made behind the two boxes -/
def DD (w : World) (D : Nat → Prop) (b : Nat) : Prop := (D b ∧ b < w.heap.size) ∨ w.heap.size + 2 ≤ b
/-- within a function that takes a terminal and hands one back: the parameter's box, the result's cell -/
structure RtS (w W : World) (D : Nat → Prop) (T : TS) (A : Option Addr) (c : Nat) (vB : Value) : Prop where
  bel : Below w.heap.size w W
  x : Blk W w.heap.size 34 (rtC T A c vB)
  z : Blk W (w.heap.size + 1) 34 rtZ
  g : RfAt W (DD w D) A c T.L
namespace RtS
variable {w W W' : World} {D : Nat → Prop} {T T' : TS} {A A' : Option Addr} {c c' : Nat} {vB : Value}
theorem size (h : RtS w W D T A c vB) : w.heap.size + 2 ≤ W.heap.size := by have := h.z.lt; omega
theorem below (h : RtS w W D T A c vB) (hb : Below W.heap.size W W') : RtS w W' D T A c vB :=
  ⟨h.bel.trans (hb.mono h.bel.size), h.x.below hb h.x.lt, h.z.below hb h.z.lt, h.g.below hb⟩
theorem one_no {b : Nat} (hd : DD w D b) : ¬ one w.heap.size b := by
  intro e
  have e' : b = w.heap.size := e
  rcases hd with ⟨_, h⟩ | h <;> omega
/-- some cells of the box are written -/
theorem set (h : RtS w W D T A c vB) (hg : W.grownBy W' (some w.heap.size)) (hn : Blk W' w.heap.size 34 (rtC T' A c vB)) (hL : T'.L = T.L) : RtS w W' D T' A c vB :=
  ⟨h.bel.grown hg h.bel.size (fun j hj => by injection hj with hj; omega), hn, (hg.block (w.heap.size + 1) (by have := h.size; omega) (fun e => by injection e with e; omega)).trans h.z, by
    rw [hL]; exact h.g.chg (chg_of_grown hg) (fun b _ hd => one_no hd)⟩
/-- the box is written anew, over another grid -/
theorem put (h : RtS w W D T A c vB) (hgr : RfAt W (DD w D) A' c' T'.L) (hg : W.grownBy W' (some w.heap.size)) (hn : Blk W' w.heap.size 34 (rtC T' A' c' vB)) : RtS w W' D T' A' c' vB :=
  ⟨h.bel.grown hg h.bel.size (fun j hj => by injection hj with hj; omega), hn, (hg.block (w.heap.size + 1) (by have := h.size; omega) (fun e => by injection e with e; omega)).trans h.z, hgr.chg (chg_of_grown hg) (fun b _ hd => one_no hd)⟩
/-- the grid is written anew -/
theorem putG {L' : List (List Cl)} (h : RtS w W D T A c vB) (hgr : RfAt W (DD w D) A' c' L') (hg : W.grownBy W' (some w.heap.size)) (hn : Blk W' w.heap.size 34 (splice (rtC T A c vB) 0 (rgC T.W L'.length A' c'))) : RtS w W' D { T with L := L' } A' c' vB :=
  h.put (T' := { T with L := L' }) hgr hg hn
theorem back {V : Value} (hf : RfV W' (fun b => DD w D b ∨ W.heap.size ≤ b) V T'.W T'.L) (h : RtS w W D T A c vB) : RfV W' (DD w D) V T'.W T'.L := by
  obtain ⟨A, c, h1, h2⟩ := hf
  exact ⟨A, c, h1, h2.mono (fun b _ hd => hd.elim id (fun hd => .inr (by have := h.size; omega)))⟩
theorem fin {w9 : World} (h : RtS w W D T A c vB) (hg : W.grownBy w9 (some (w.heap.size + 1))) : (RtV w9 (fun b => D b ∨ w.heap.size ≤ b) (.agg (rtC T A c vB).toArray) T vB) ∧ Below w.heap.size w w9 :=
  ⟨⟨A, c, rfl, (h.g.chg (chg_of_grown hg) (fun b _ hd e => by have e' : b = w.heap.size + 1 := e; rcases hd with ⟨_, h⟩ | h <;> omega)).mono (fun b _ hd => hd.elim (fun h => .inl h.1) (fun h => .inr (by omega)))⟩, h.bel.grown hg h.bel.size (fun j hj => by injection hj with hj; omega)⟩
end RtS
/-- the function's two boxes are made -/
theorem rt_start {w : World} {D : Nat → Prop} {T : TS} {A : Option Addr} {c : Nat} {vB : Value} (h : RfAt w D A c T.L) : ∃ W0, Hid (W0 = (w.alloc (.cells #[.int .i64 T.W, .int .i64 T.L.length, .slice A T.L.length c, .int .i64 T.row, .int .i64 T.col, .bool T.y.b, .bool T.y.u, .bool T.y.i, .int .i64 T.y.f, .int .i64 T.y.g, .bool T.pend, .bool T.seen, .bool T.mark, .int .i64 T.bells, .int .i64 T.scr, vB, .bool T.joins, .int .i64 T.lr, .int .i64 T.lc] 34)).alloc (.cells #[.int .i64 0, .int .i64 0, .slice none 0 0, .int .i64 0, .int .i64 0, .bool false, .bool false, .bool false, .int .i64 0, .int .i64 0, .bool false, .bool false, .bool false, .int .i64 0, .int .i64 0, .slice none 0 0, .bool false, .int .i64 0, .int .i64 0] 34)) ∧ Hid (RtS w W0 D T A c vB) := by
  have hb : Below w.heap.size w ((w.alloc (.cells (rtC T A c vB).toArray 34)).alloc (.cells rtZ.toArray 34)) := ((Below.refl _ w).alloc (Nat.le_refl _) _).alloc (by simp) _
  refine ⟨_, Lib.hid rfl, Lib.hid ⟨hb, (Blk.new w 34 (rtC T A c vB)).alloc _, ?_, ?_⟩⟩
  · have := Blk.new (w.alloc (.cells (rtC T A c vB).toArray 34)) 34 rtZ
    rw [World.size_alloc] at this
    exact this
  · exact (h.mono (D' := DD w D) (fun b hb hd => .inl ⟨hd, hb⟩)).below hb
end Go.Proofs.YtfmkeeaenjeneaaGreatDoor
