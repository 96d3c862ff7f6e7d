/-
  From a walk to the statement: for laws that return true and write nothing that was there. What each kind of argument shows.
  From a walk to the statement, of a law whose row lists package-level variables: the walk is told what they hold.
  Bounds of arguments of type int (for programs without []int32; else LawInts).
  Small things for the second form of a law: there is an input that fits; what the bound gives.
  What the rows of layer 13 list: the ranges, as the walks want them.
-/
import Derived.Test.YtfhfhjcdeeepbaaGreatDoorRows
import Derived.Test.YtfhfhjcdeeepbaaGreatDoorGfA
import Derived.ProofKit
import Derived.OpenShut
import Derived.ShutString
import Derived.ChangeOld
import Derived.Below
import Derived.Carry
import Derived.Test.YtfhfhjcdeeepbaaGreatDoorCards
import Derived.Test.YtfhfhjcdeeepbaaGreatDoorTie
import Derived.LaidMore
import Derived.Lib.LaidTab
import Derived.Stop.Joined
import Derived.SevenTiedAt
import Derived.Deep.DeepHandedRow
import Derived.Test.YtfhfhjcdeeepbaaGreatDoorGfW
import Derived.Lay
namespace Go.Proofs.YtfhfhjcdeeepbaaGreatDoor
open Go.ChangeShapes Go.WideShapes Go.ChangeAt Go.RowKit
set_option linter.unusedVariables false

theorem own : ownKnob Tryz.prog.godebug = none := by kernel_rfl
theorem laidOut : laidOutB Tryz.prog = true := by kernel_rfl

section
variable {H : Type} {enc : TypeId × Value → H}

/-- All arguments read behind the call as they read before. -/
theorem all_below {W W' : World} (hb : Below W.heap.size W W') : ∀ {ts : List TypeId} {vs : List Value} {ds : List (DataW H)} {ps : List MemPlace},
    (∀ t ∈ ts, Tryz.prog.readableRec t = true ∧ t < Tryz.prog.types.size) → DataW.TrodAll enc Tryz.prog W 0 (fun _ => true) true ts vs ds ps →
    DataW.TrodAll enc Tryz.prog W' 0 (fun b => decide (b < W.heap.size)) true ts vs ds ps := by
  intro ts
  induction ts with
  | nil =>
    intro vs ds ps _ h
    obtain ⟨rfl, rfl, rfl⟩ := trodAll_nil h
    exact trodAll_mk0
  | cons t ts ih =>
    intro vs ds ps hr h
    obtain ⟨v, vs', d, ds', p, q, rfl, rfl, rfl, h0, h1⟩ := trodAll_cons h
    have hlt : ∀ x ∈ p, x.block < W.heap.size := by
      obtain ⟨m, hm⟩ := h0
      exact DataW.trod_lt m _ _ _ hm
    have ht := hr t (by simp)
    exact trodAll_cons_mk (Below.trod laidOut ht.1 ht.2 h0 hb hlt) (ih (fun t' ht' => hr t' (by simp [ht'])) h1)

theorem all_length {W : World} : ∀ {ts : List TypeId} {vs : List Value} {ds : List (DataW H)} {ps : List MemPlace},
    DataW.TrodAll enc Tryz.prog W 0 (fun _ => true) true ts vs ds ps → ds.length = ts.length := by
  intro ts
  induction ts with
  | nil => intro vs ds ps h; obtain ⟨rfl, rfl, rfl⟩ := trodAll_nil h; rfl
  | cons t ts ih =>
    intro vs ds ps h
    obtain ⟨v, vs', d, ds', p, q, rfl, rfl, rfl, h0, h1⟩ := trodAll_cons h
    simp [ih h1]

set_option maxRecDepth 100000 in
/-- The frame of such a law: what is left is the walk, from the arguments' readings. -/
theorem law_frame {F : FuncId} {fn : Func} {s : ChangeSpec} {T : TypeId}
    (hT : Tryz.prog.underlying T = some .bool) (hres : fn.resultTypes = #[T]) (hvars : s.vars = [])
    (hread : fn.params.toList.all (fun t => Tryz.prog.readableRec t && decide (t < Tryz.prog.types.size)) = true)
    (hspec : ∀ ds : List (DataW H), ds.length = fn.params.toList.length → (s.fn H (ds ++ [])).results = [.lit (.bool true)] ∧ (s.fn H (ds ++ [])).args = ds ∧ (s.fn H (ds ++ [])).vars = [])
    (walk : ∀ (W : World) (base : Nat) (args : Array Value) (ds : List (DataW H)) (p : List MemPlace),
      (∀ (j : Nat) (t : TypeId) (v : Value), fn.params[j]? = some t → args[j]? = some v → Value.okWide Tryz.prog W .any base t v) →
      DataW.TrodAll enc Tryz.prog W 0 (fun _ => true) true fn.params.toList args.toList ds p →
      Calls Tryz.prog F args W fun e W' => e = .returned (.bool true) ∧ Below W.heap.size W W')
    (W : World) (base : Nat) (args : Array Value) (ds gs : List (DataW H)) (before : List MemPlace)
    (hval : ∀ (j : Nat) (t : TypeId) (v : Value), fn.params[j]? = some t → args[j]? = some v → Value.okWide Tryz.prog W .any base t v)
    (hW : DataW.Whole enc Tryz.prog fn.params.toList s.vars false W args.toList ds gs before) :
    Calls Tryz.prog F args W fun e W' => ∃ v, e = Ending.returned v ∧ ChangeSpec.post enc Tryz.prog fn s false true false false W args v W' := by
  have hW' := hW
  obtain ⟨p, q, hA, hV, hb, hfz, hnd⟩ := hW
  rw [hvars] at hV
  obtain ⟨rfl, rfl⟩ := trodVars_none hV
  refine (walk W base args ds p hval hA).mono fun e W' ⟨he, bel⟩ => ?_
  subst he
  have hs := hspec ds (all_length hA)
  have hr : ∀ t ∈ fn.params.toList, Tryz.prog.readableRec t = true ∧ t < Tryz.prog.types.size := by
    intro t ht
    have := List.all_eq_true.1 hread t ht
    simpa using this
  refine ⟨_, rfl, ds, [], before, [], p, [], hW', ?_, ?_, ?_, bel.frame _, fun h => by cases h⟩
  · rw [hs.1, hres]; exact trodAll_mk1 (shut_bool hT _)
  · rw [hs.2.1]; exact all_below bel hr hA
  · rw [hs.2.2, hvars]; rfl

set_option maxRecDepth 100000 in
/-- An int's bounds. -/
theorem open_i32 {W : World} {base : Nat} {t : TypeId} {v : Value} {d : DataW H} {p : List MemPlace} (ht : Tryz.prog.underlying t = some (.int .i32)) (hok : Value.okWide Tryz.prog W .any base t v)
    (h : DataW.Trod enc Tryz.prog W 0 (fun _ => true) true t v d p) : ∃ n : Int, v = .int .i32 n ∧ -2147483648 ≤ n ∧ n ≤ 2147483647 := by
  obtain ⟨n, rfl, rfl, rfl, hw⟩ := open_int ht hok h
  simp only [Lit.wf, IntKind.min, IntKind.max, IntKind.signed, IntKind.bits] at hw
  simp at hw
  exact ⟨n, rfl, by omega⟩
end
end Go.Proofs.YtfhfhjcdeeepbaaGreatDoor

namespace Go.Proofs.YtfhfhjcdeeepbaaGreatDoor
open Go.ChangeShapes Go.WideShapes Go.ChangeAt Go.RowKit
set_option linter.unusedVariables false

section
variable {H : Type} {enc : TypeId × Value → H}

set_option maxRecDepth 100000 in
theorem law_frame1 {F : FuncId} {fn : Func} {s : ChangeSpec} {T : TypeId}
    (hT : Tryz.prog.underlying T = some .bool) (hres : fn.resultTypes = #[T]) (hvars : s.vars = [])
    (hread : fn.params.toList.all (fun t => Tryz.prog.readableRec t && decide (t < Tryz.prog.types.size)) = true)
    (hspec : ∀ ds : List (DataW H), ds.length = fn.params.toList.length → (s.fn H (ds ++ [])).results = [.lit (.bool true)] ∧ (s.fn H (ds ++ [])).args = ds ∧ (s.fn H (ds ++ [])).vars = [])
    (W : World) (base : Nat) (args : Array Value) (ds gs : List (DataW H)) (before : List MemPlace)
    (hval : ∀ (j : Nat) (t : TypeId) (v : Value), fn.params[j]? = some t → args[j]? = some v → Value.okWide Tryz.prog W .any base t v)
    (hW : DataW.Whole enc Tryz.prog fn.params.toList s.vars false W args.toList ds gs before)
    (walk : ∀ (p : List MemPlace), DataW.TrodAll enc Tryz.prog W 0 (fun _ => true) true fn.params.toList args.toList ds p →
      Calls Tryz.prog F args W fun e W' => e = .returned (.bool true) ∧ Below W.heap.size W W') :
    Calls Tryz.prog F args W fun e W' => ∃ v, e = Ending.returned v ∧ ChangeSpec.post enc Tryz.prog fn s false true false false W args v W' := by
  have hW' := hW
  obtain ⟨p, q, hA, hV, hb, hfz, hnd⟩ := hW
  rw [hvars] at hV
  obtain ⟨rfl, rfl⟩ := trodVars_none hV
  refine (walk p hA).mono fun e W' ⟨he, bel⟩ => ?_
  subst he
  have hs := hspec ds (all_length hA)
  have hr : ∀ t ∈ fn.params.toList, Tryz.prog.readableRec t = true ∧ t < Tryz.prog.types.size := by
    intro t ht
    have := List.all_eq_true.1 hread t ht
    simpa using this
  refine ⟨_, rfl, ds, [], before, [], p, [], hW', ?_, ?_, ?_, bel.frame _, fun h => by cases h⟩
  · rw [hs.1, hres]; exact trodAll_mk1 (shut_bool hT _)
  · rw [hs.2.1]; exact all_below bel hr hA
  · rw [hs.2.2, hvars]; rfl
end

set_option maxRecDepth 100000 in
/-- A listed table of integers holds its numbers; what is listed behind it. -/
theorem laidVar_tab {P : Program} {W : World} {name : String} {d : DataW Unit} {rest : List (String × DataW Unit)} {ps : List MemPlace} {g : Nat} {t e : TypeId} {n : Nat} {k : IntKind} {zs : List Int}
    (hg : P.globalNamed name = some g) (hty : (P.globals[g]?).map (·.type) = some t) (ht : P.underlying t = some (.array n e)) (he : P.underlying e = some (.int k)) (hce : P.cellsOf e = 1) (hct : P.cellsOf t = n)
    (hd : d = Lib.tabData k zs) (h : DataW.LaidVars P W ((name, d) :: rest) ps) :
    (∀ i, W.cell? ⟨g, i, none⟩ = (zs.map fun z => Value.int k z)[i]?) ∧ ∃ q, DataW.LaidVars P W rest q := by
  subst hd
  obtain ⟨g', t', cs, fuel, p, q, hg', ht', hvar, hd, hr, _⟩ := h
  obtain rfl := Option.some.inj (hg.symm.trans hg')
  obtain rfl := Option.some.inj (hty.symm.trans ht')
  have hc := Lib.cells_of_tab ht he hce hct hd
  refine ⟨fun i => ?_, q, hr⟩
  have := World.var?_cell hg hvar i
  rw [this, ← hc]
  simp
end Go.Proofs.YtfhfhjcdeeepbaaGreatDoor

namespace Go.Proofs.YtfhfhjcdeeepbaaGreatDoor
open Go.ChangeShapes Go.WideShapes Go.ChangeAt Go.RowKit
set_option linter.unusedVariables false
section
variable {H : Type} {enc : TypeId × Value → H}
set_option maxRecDepth 100000 in
theorem open_i64 {W : World} {base : Nat} {t : TypeId} {v : Value} {d : DataW H} {p : List MemPlace} (ht : Tryz.prog.underlying t = some (.int .i64)) (hok : Value.okWide Tryz.prog W .any base t v)
    (h : DataW.Trod enc Tryz.prog W 0 (fun _ => true) true t v d p) : ∃ n : Int, v = .int .i64 n ∧ -9223372036854775808 ≤ n ∧ n ≤ 9223372036854775807 := by
  obtain ⟨n, rfl, rfl, rfl, hw⟩ := open_int ht hok h
  simp only [Lit.wf, IntKind.min, IntKind.max, IntKind.signed, IntKind.bits] at hw
  simp at hw
  exact ⟨n, rfl, by omega⟩
end
end Go.Proofs.YtfhfhjcdeeepbaaGreatDoor

namespace Go.Proofs.YtfhfhjcdeeepbaaGreatDoor
open Go.ChangeShapes Go.WideShapes Go.ChangeAt Go.RowKit
set_option linter.unusedVariables false
section
variable {H : Type} {enc : TypeId × Value → H}
theorem bk_append2 (l r : List (DataW H)) : Rows.uptoBulkAll (l ++ r) = Rows.uptoBulkAll l + Rows.uptoBulkAll r := by
  induction l with
  | nil => simp [Rows.uptoBulkAll]
  | cons x l ih => simp only [List.cons_append, Rows.uptoBulkAll, ih]; omega
theorem witness_row_shaped {C : Checked} {os : Os} {f : FuncId} {fn : Func} {s : _root_.Go.OpenSpec} {conds : List PathCond} {apart : Bool} {laid : List (String × DataW Unit)} (modest : Bool) (w0 : World) (args : Array Value) (hos : w0.os = os)
    (hsh : (w0.forCall (fun _ _ => 0) ⟨#[], args, []⟩).Shaped C.prog)
    (hok : Input.okWideB C.prog (w0.forCall (fun _ _ => 0) ⟨#[], args, []⟩) f ⟨#[], args, []⟩ = true)
    (hrow : s.preRow enc C.prog fn conds apart laid (w0.forCall (fun _ _ => 0) ⟨#[], args, []⟩).memory args) :
    ∃ (w : World) (tape : Tape) (i : Input), w.os = os ∧ (w.forCall tape i).Shaped C.prog ∧ i.vars = [] ∧ Input.okWide C.prog (w.forCall tape i) .any w.heap.size f i ∧
      s.preRow enc C.prog fn conds apart laid (w.forCall tape i).memory i.args ∧ ({ modest := modest } : Assume).holds C.prog (lone (Frame.enter C.prog f i.args .normal) [] (w.forCall tape i)) :=
  ⟨w0, fun _ _ => 0, ⟨#[], args, []⟩, hos, hsh, (Input.okWide_of_okWideB (base := 0) hok).1, (Input.okWide_of_okWideB hok).2, hrow, by
    simp only [Assume.holds]
    exact ⟨by simp, by simp, fun _ => Modest.zero, by simp, by simp⟩⟩
theorem bk_bound {l gs : List (DataW H)} (hk : Rows.uptoSmall H (l ++ gs) = true) : Rows.uptoBulkAll l ≤ 1048576 := by
  have h : Rows.uptoBulkAll (l ++ gs) ≤ 1048576 := of_decide_eq_true hk
  rw [bk_append2] at h
  omega
end
end Go.Proofs.YtfhfhjcdeeepbaaGreatDoor

namespace Go.Proofs.YtfhfhjcdeeepbaaGreatDoor
open Go.ChangeShapes Go.WideShapes Go.ChangeAt Go.RowKit
set_option linter.unusedVariables false

def flatI (T : List (Int × Int)) : List Int := T.flatMap fun x => [x.1, x.2]
theorem flatI_map (T : List (Int × Int)) : (flatI T).map (Value.int .i32) = flatT T := by
  induction T with
  | nil => rfl
  | cons x T ih =>
    have e1 : flatI (x :: T) = x.1 :: x.2 :: flatI T := rfl
    have e2 : flatT (x :: T) = .int .i32 x.1 :: .int .i32 x.2 :: flatT T := rfl
    rw [e1, e2, ← ih]
    rfl
theorem Tab.of_cells {W : World} {g : Nat} {T : List (Int × Int)} (h : ∀ i, W.cell? ⟨g, i, none⟩ = ((flatI T).map fun z => Value.int .i32 z)[i]?) : Tab W g T := by
  intro k x hx
  have h1 := h (2 * k)
  have h2 := h (2 * k + 1)
  have e : ((flatI T).map fun z => Value.int .i32 z) = flatT T := flatI_map T
  rw [e] at h1 h2
  have h3 := flatT_get T k x hx
  exact ⟨h1.trans h3.1, h2.trans h3.2⟩
theorem cell_block {w : World} {b o : Nat} {v : Value} (h : w.cell? ⟨b, o, none⟩ = some v) : b < w.heap.size := by
  rcases Nat.lt_or_ge b w.heap.size with h' | h'
  · exact h'
  · simp [World.cell?, Array.getElem?_eq_none h'] at h

theorem mk_data : (Rows.laid_placard_width_marks : DataW Unit) = Lib.tabData .i32 (flatI mkT) := rfl
theorem wd_data : (Rows.laid_placard_width_wides : DataW Unit) = Lib.tabData .i32 (flatI wdT) := rfl

theorem tabs_of {W : World} (hm : Tab W 1 mkT) (hw : Tab W 0 wdT) : Tabs W :=
  ⟨hm, hw, cell_block (hm 0 _ rfl).1, cell_block (hw 0 _ rfl).1⟩

set_option maxRecDepth 100000 in
/-- What the condition gives the walks. -/
theorem tabs_of_laid {W : World} (h : laidMetH Tryz.prog Rows.editorNobodyUptoRow.laid W) : Tabs W := by
  rw [MakeChecks.laidMetH_plain _ _ _ (by kernel_rfl)] at h
  obtain ⟨ps, hl, _⟩ := h
  obtain ⟨h1, q, hr⟩ := laidVar_tab (g := 1) (t := 146) (e := 21) (n := 56) (k := .i32) (zs := flatI mkT) (by kernel_rfl) (by kernel_rfl) (by kernel_rfl) (by kernel_rfl) (by kernel_rfl) (by kernel_rfl) mk_data hl
  obtain ⟨h2, _⟩ := laidVar_tab (g := 0) (t := 144) (e := 21) (n := 102) (k := .i32) (zs := flatI wdT) (by kernel_rfl) (by kernel_rfl) (by kernel_rfl) (by kernel_rfl) (by kernel_rfl) (by kernel_rfl) wd_data hr
  exact tabs_of (Tab.of_cells h1) (Tab.of_cells h2)

/-- The heap that holds what the rows list meets the condition. -/
theorem editor_met (os : Os) (args : Array Value) : laidMetH Tryz.prog Rows.editorNobodyUptoRow.laid ((World.laidAll Tryz.prog os Rows.editorNobodyUptoRow.laid).forCall (fun _ _ => 0) ⟨#[], args, []⟩).memory := by
  rw [MakeChecks.laidMetH_plain _ _ _ (by kernel_rfl)]
  exact laidMet_laidAll _ (by kernel_rfl) (by kernel_rfl)
end Go.Proofs.YtfhfhjcdeeepbaaGreatDoor

