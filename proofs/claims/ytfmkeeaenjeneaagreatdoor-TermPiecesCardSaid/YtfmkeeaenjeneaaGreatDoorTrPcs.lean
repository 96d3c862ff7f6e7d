/-
  The law TermPieces, walked.
-/
import Derived.Test.YtfmkeeaenjeneaaGreatDoorTrTri
import Derived.Test.YtfmkeeaenjeneaaGreatDoorTmAwak2
import Derived.Test.YtfmkeeaenjeneaaGreatDoorRtNew
import Derived.Test.YtfmkeeaenjeneaaGreatDoorTmAwake
namespace Go.Proofs.YtfmkeeaenjeneaaGreatDoor
open Go.RowKit Go.Sort
set_option linter.unusedVariables false
set_option linter.unusedSimpArgs false

/-- a guarded load of a whole struct, where the guard's slot is known -/
theorem wpList_load_mid_g {P : Program} {ops : Array Oper} {rest : List Oper} {op : Oper} {a : Act} {w : World} {Q : Exit → Act → World → Prop} (hw : Region.wanted op (yielded ops a.tmps) = true) (ty : TypeId) (x : Operand) (ho : op.op = .load ty x)
    (b o : Nat) (hx : a.eval x = .pointer (some ⟨b, o, none⟩)) (cs : List Value) (d : TypeDesc) (hc : w.rangeAt b o cs)
    (hu : P.underlying ty = some d) (hd : d.isRow = true) (hi : (P.info? ty).map (·.size) = some cs.length)
    (h : wpList P ops Q rest (a.put op.dst (.agg cs.toArray)) w) : wpList P ops Q (op :: rest) a w :=
  wpList_step fun K hK => by rw [if_pos hw]; exact wp_load_mid ty x ho b o hx cs d hc hu hd hi (hK _ _ h)
theorem rt_cells {w : World} {z : Nat} {T : TS} {A : Option Addr} {c : Nat} {vB : Value} (h : Blk w z 34 (rtC T A c vB)) : w.cell? ⟨z, 0, none⟩ = some (.int .i64 T.W) ∧ w.cell? ⟨z, 1, none⟩ = some (.int .i64 T.L.length) ∧ w.cell? ⟨z, 2, none⟩ = some (.slice A T.L.length c) ∧ w.cell? ⟨z, 3, none⟩ = some (.int .i64 T.row) ∧ w.cell? ⟨z, 4, none⟩ = some (.int .i64 T.col) ∧ w.cell? ⟨z, 5, none⟩ = some (.bool T.y.b) ∧ w.cell? ⟨z, 6, none⟩ = some (.bool T.y.u) ∧ w.cell? ⟨z, 7, none⟩ = some (.bool T.y.i) ∧ w.cell? ⟨z, 8, none⟩ = some (.int .i64 T.y.f) ∧ w.cell? ⟨z, 9, none⟩ = some (.int .i64 T.y.g) ∧ w.cell? ⟨z, 10, none⟩ = some (.bool T.pend) ∧ w.cell? ⟨z, 11, none⟩ = some (.bool T.seen) ∧ w.cell? ⟨z, 12, none⟩ = some (.bool T.mark) ∧ w.cell? ⟨z, 13, none⟩ = some (.int .i64 T.bells) ∧ w.cell? ⟨z, 14, none⟩ = some (.int .i64 T.scr) ∧ w.cell? ⟨z, 15, none⟩ = some (vB) ∧ w.cell? ⟨z, 16, none⟩ = some (.bool T.joins) ∧ w.cell? ⟨z, 17, none⟩ = some (.int .i64 T.lr) ∧ w.cell? ⟨z, 18, none⟩ = some (.int .i64 T.lc) :=
  ⟨h.cell 0, h.cell 1, h.cell 2, h.cell 3, h.cell 4, h.cell 5, h.cell 6, h.cell 7, h.cell 8, h.cell 9, h.cell 10, h.cell 11, h.cell 12, h.cell 13, h.cell 14, h.cell 15, h.cell 16, h.cell 17, h.cell 18⟩
theorem rt_load {w : World} {z : Nat} {T : TS} {A : Option Addr} {c : Nat} {vB : Value} (h : Blk w z 34 (rtC T A c vB)) : (Instr.loadAt 34 (.pointer (some ⟨z, 0, none⟩))).run Tryz.prog w = .ok (.agg #[.int .i64 T.W, .int .i64 T.L.length, .slice A T.L.length c, .int .i64 T.row, .int .i64 T.col, .bool T.y.b, .bool T.y.u, .bool T.y.i, .int .i64 T.y.f, .int .i64 T.y.g, .bool T.pend, .bool T.seen, .bool T.mark, .int .i64 T.bells, .int .i64 T.scr, vB, .bool T.joins, .int .i64 T.lr, .int .i64 T.lc]) w :=
  run_loadAt_mid w z 0 34 (rtC T A c vB) _ h.whole Tryz.underlying34 rfl rt_size
theorem cut5_any (A : Option Addr) (n c : Nat) (hn : n ≤ c) (w : World) :
    Calls Tryz.prog 9 #[.slice A n c] w fun e w' => e = .returned (.slice A (min n 300) c) ∧ w = w' := by
  have hci : min (n : Int) 300 ≤ (c : Int) := by omega
  have hmi : 0 ≤ min (n : Int) 300 := by omega
  have e : (min (n : Int) 300).toNat = min n 300 := by omega
  have E := Lib.hid e
  clear e
  go_enter Tryz.func9, Tryz.ntmps9
  go_wp2
  go_ret
  exact ⟨by rw [← E.out]; rfl, rfl⟩
theorem TmS.tok {w : World} {lo t : Nat} {T : TS} {B : List UInt8} {O : Nat → Prop} (h : TmS w lo t T B O) : TOk T := by
  obtain ⟨g, rb, bs, h1, _⟩ := h
  exact ⟨h1.grid.rws_, h1.row, h1.col⟩
theorem shows_S {w : World} {lo t : Nat} {T : TS} {B : List UInt8} {O : Nat → Prop} {D : Nat → Prop} {A : Option Addr} {c : Nat} {Ab : Option Addr} {cb : Nat} (h : TmS w lo t T B O) (hr : RfAt w D A c T.L) :
    Calls Tryz.prog 16 #[.pointer (some ⟨t, 0, none⟩), .agg #[.int .i64 T.W, .int .i64 T.L.length, .slice A T.L.length c, .int .i64 T.row, .int .i64 T.col, .bool T.y.b, .bool T.y.u, .bool T.y.i, .int .i64 T.y.f, .int .i64 T.y.g, .bool T.pend, .bool T.seen, .bool T.mark, .int .i64 T.bells, .int .i64 T.scr, .slice Ab B.length cb, .bool T.joins, .int .i64 T.lr, .int .i64 T.lc]] w fun e w' => e = .returned (.bool true) ∧ Below w.heap.size w w' := by
  have hk := h.tok
  obtain ⟨g, rb, bs, h1, _⟩ := h
  exact shows_any h1 hr hk
theorem tri_start {w w5 : World} {ta tb tc z : Nat} {Oa Ob Oc : Nat → Prop} {T0 : TS} {A : Option Addr} {c : Nat} (a1 a2 a3 : Nat) (ha : TmS w5 w.heap.size ta T0 [] Oa) (hb : TmS w5 w.heap.size tb T0 [] Ob) (hc : TmS w5 w.heap.size tc T0 [] Oc) (la : ∀ k, Oa k → k < a1) (lb : ∀ k, Ob k → a1 ≤ k ∧ k < a2) (lc : ∀ k, Oc k → a2 ≤ k ∧ k < a3) (h12 : a1 ≤ a2) (h23 : a2 ≤ a3) (hz : a3 ≤ z) (hbox : Blk w5 z 34 (rtC T0 A c (.slice none 0 0))) (hr : RfAt w5 (fun b => a3 ≤ b ∧ b ≠ z) A c T0.L) (hzl : w.heap.size ≤ z) (hbase : Base w5 w.heap.size) (hbel : Below w.heap.size w w5) :
    ∃ (t : Fin 3 → Nat) (st : Fin 3 → TS × List UInt8) (O : Fin 3 → Nat → Prop), ta = t 0 ∧ tb = t 1 ∧ tc = t 2 ∧ st 0 = (T0, []) ∧ st 1 = (T0, []) ∧ st 2 = (T0, []) ∧ Tri w w5 t st O z T0 A c := by
  refine ⟨fun i => if i = 0 then ta else if i = 1 then tb else tc, fun _ => (T0, []), fun i => if i = 0 then Oa else if i = 1 then Ob else Oc, rfl, rfl, rfl, rfl, rfl, rfl, ⟨fun i => ?_, fun i j hij k hi hj => ?_, hbox, fun i hi => ?_, hzl, hr.mono (fun b _ hd => ⟨hd.2, fun i hi => ?_⟩), hbase, hbel⟩⟩
  · match i with
    | 0 => exact ha
    | 1 => exact hb
    | 2 => exact hc
  · match i, j with
    | 0, 0 => exact hij rfl
    | 0, 1 => have := la k hi; have := lb k hj; omega
    | 0, 2 => have := la k hi; have := lc k hj; omega
    | 1, 0 => have := la k hj; have := lb k hi; omega
    | 1, 1 => exact hij rfl
    | 1, 2 => have := lb k hi; have := lc k hj; omega
    | 2, 0 => have := la k hj; have := lc k hi; omega
    | 2, 1 => have := lb k hj; have := lc k hi; omega
    | 2, 2 => exact hij rfl
  · match i with
    | 0 => have := la z hi; omega
    | 1 => have := lb z hi; omega
    | 2 => have := lc z hi; omega
  · match i with
    | 0 => have := la b hi; have := hd.1; omega
    | 1 => have := lb b hi; have := hd.1; omega
    | 2 => have := lc b hi; have := hd.1; omega
/-- behind all: the three terminals and the document's show the same -/
structure Fin3 (w wr : World) (t : Fin 3 → Nat) (T : TS) (B : List UInt8) (z : Nat) (A : Option Addr) (c : Nat) (Ab : Option Addr) (cb : Nat) : Prop where
  tm : ∀ i, ∃ O, TmS wr w.heap.size (t i) T B O
  box : Blk wr z 34 (rtC T A c (.slice Ab B.length cb))
  rows : RfAt wr (fun _ => True) A c T.L
  base : Base wr w.heap.size
  bel : Below w.heap.size w wr
theorem Fin3.below {w wr w' : World} {t : Fin 3 → Nat} {T : TS} {B : List UInt8} {z : Nat} {A : Option Addr} {c : Nat} {Ab : Option Addr} {cb : Nat} (h : Fin3 w wr t T B z A c Ab cb) (hb : Below wr.heap.size wr w') : Fin3 w w' t T B z A c Ab cb :=
  ⟨fun i => by obtain ⟨O, ho⟩ := h.tm i; exact ⟨O, ho.below hb⟩, h.box.below hb h.box.lt, h.rows.below hb, h.base.below hb, h.bel.trans (hb.mono h.bel.size)⟩
theorem Fin3.shows {w wr : World} {t : Fin 3 → Nat} {T : TS} {B : List UInt8} {z : Nat} {A : Option Addr} {c : Nat} {Ab : Option Addr} {cb : Nat} (h : Fin3 w wr t T B z A c Ab cb) (i : Fin 3) :
    Calls Tryz.prog 16 #[.pointer (some ⟨t i, 0, none⟩), .agg #[.int .i64 T.W, .int .i64 T.L.length, .slice A T.L.length c, .int .i64 T.row, .int .i64 T.col, .bool T.y.b, .bool T.y.u, .bool T.y.i, .int .i64 T.y.f, .int .i64 T.y.g, .bool T.pend, .bool T.seen, .bool T.mark, .int .i64 T.bells, .int .i64 T.scr, .slice Ab B.length cb, .bool T.joins, .int .i64 T.lr, .int .i64 T.lc]] wr fun e w' => e = .returned (.bool true) ∧ Fin3 w w' t T B z A c Ab cb := by
  obtain ⟨O, ho⟩ := h.tm i
  exact (shows_S ho h.rows).mono fun e w' ⟨he, hb⟩ => ⟨he, h.below hb⟩
theorem Tri.fin {w wr w7 w8 : World} {t : Fin 3 → Nat} {st : Fin 3 → TS × List UInt8} {O : Fin 3 → Nat → Prop} {z : Nat} {T0 T : TS} {B : List UInt8} {A A9 Ab : Option Addr} {c c9 cb : Nat} (h : Tri w wr t st O z T0 A c) (hst : ∀ i, st i = (T, B)) (hb : Below wr.heap.size wr w7)
    (hr : RfAt w7 (fun b => (b ≠ z ∧ ∀ i, ¬ O i b) ∨ wr.heap.size ≤ b) A9 c9 T.L) (hg : w7.grownBy w8 (some z)) (hn : Blk w8 z 34 (rtC T A9 c9 (.slice Ab B.length cb))) : Fin3 w w8 t T B z A9 c9 Ab cb := by
  have h7 := h.below hb
  have hc := chg_of_grown hg
  have hlo : ∀ k, one z k → w.heap.size ≤ k := fun k hk => by
    have e : k = z := hk
    subst e
    exact h.zlo
  have hzl := h.box.lt
  exact ⟨fun i => ⟨O i, by have := (h7.tm i).chg hc (fun k hk e => h.zno i (by have e' : k = z := e; rw [← e']; exact hk)); rw [hst i] at this; exact this⟩, hn, (hr.chg hc (fun b _ hd e => by
    have e' : b = z := e
    rcases hd with hd | hd
    · exact hd.1 e'
    · omega)).mono (fun _ _ _ => trivial), h7.base.chg hc hlo, h7.bel.trans (hc.below h7.bel.size hlo)⟩
end Go.Proofs.YtfmkeeaenjeneaaGreatDoor
