/-
  From a walk to the statement, of a law whose row lists package-level variables: the walk is told what they hold.
-/
import Derived.Test.YtfjiogockpmogaaDoorLaw
import Derived.Test.YtfjiogockpmogaaDoorCards
import Derived.Test.YtfjiogockpmogaaDoorTie
import Derived.LaidMore
import Derived.Lib.LaidTab
import Derived.Stop.Joined
import Derived.SevenTiedAt
namespace Go.Proofs.YtfjiogockpmogaaDoor
open Go.ChangeShapes Go.WideShapes Go.ChangeAt Go.RowKit
set_option linter.unusedVariables false

section
variable {H : Type} {enc : TypeId × Value → H}

set_option maxRecDepth 100000 in
theorem law_frame1 {F : FuncId} {fn : Func} {s : ChangeSpec} {T : TypeId}
    (hT : Tryd.prog.underlying T = some .bool) (hres : fn.resultTypes = #[T]) (hvars : s.vars = [])
    (hread : fn.params.toList.all (fun t => Tryd.prog.readableRec t && decide (t < Tryd.prog.types.size)) = true)
    (hspec : ∀ ds : List (DataW H), ds.length = fn.params.toList.length → (s.fn H (ds ++ [])).results = [.lit (.bool true)] ∧ (s.fn H (ds ++ [])).args = ds ∧ (s.fn H (ds ++ [])).vars = [])
    (W : World) (base : Nat) (args : Array Value) (ds gs : List (DataW H)) (before : List MemPlace)
    (hval : ∀ (j : Nat) (t : TypeId) (v : Value), fn.params[j]? = some t → args[j]? = some v → Value.okWide Tryd.prog W .any base t v)
    (hW : DataW.Whole enc Tryd.prog fn.params.toList s.vars false W args.toList ds gs before)
    (walk : ∀ (p : List MemPlace), DataW.TrodAll enc Tryd.prog W 0 (fun _ => true) true fn.params.toList args.toList ds p →
      Calls Tryd.prog F args W fun e W' => e = .returned (.bool true) ∧ Below W.heap.size W W') :
    Calls Tryd.prog F args W fun e W' => ∃ v, e = Ending.returned v ∧ ChangeSpec.post enc Tryd.prog fn s false true false false W args v W' := by
  have hW' := hW
  obtain ⟨p, q, hA, hV, hb, hfz, hnd⟩ := hW
  rw [hvars] at hV
  obtain ⟨rfl, rfl⟩ := trodVars_none hV
  refine (walk p hA).mono fun e W' ⟨he, bel⟩ => ?_
  subst he
  have hs := hspec ds (all_length hA)
  have hr : ∀ t ∈ fn.params.toList, Tryd.prog.readableRec t = true ∧ t < Tryd.prog.types.size := by
    intro t ht
    have := List.all_eq_true.1 hread t ht
    simpa using this
  refine ⟨_, rfl, ds, [], before, [], p, [], hW', ?_, ?_, ?_, bel.frame _, fun h => by cases h⟩
  · rw [hs.1, hres]; exact trodAll_mk1 (shut_bool hT _)
  · rw [hs.2.1]; exact all_below bel hr hA
  · rw [hs.2.2, hvars]; rfl
end

set_option maxRecDepth 100000 in
/-- A listed table of integers holds its numbers; what is listed behind it. -/
theorem laidVar_tab {P : Program} {W : World} {name : String} {d : DataW Unit} {rest : List (String × DataW Unit)} {ps : List MemPlace} {g : Nat} {t e : TypeId} {n : Nat} {k : IntKind} {zs : List Int}
    (hg : P.globalNamed name = some g) (hty : (P.globals[g]?).map (·.type) = some t) (ht : P.underlying t = some (.array n e)) (he : P.underlying e = some (.int k)) (hce : P.cellsOf e = 1) (hct : P.cellsOf t = n)
    (hd : d = Lib.tabData k zs) (h : DataW.LaidVars P W ((name, d) :: rest) ps) :
    (∀ i, W.cell? ⟨g, i, none⟩ = (zs.map fun z => Value.int k z)[i]?) ∧ ∃ q, DataW.LaidVars P W rest q := by
  subst hd
  obtain ⟨g', t', cs, fuel, p, q, hg', ht', hvar, hd, hr, _⟩ := h
  obtain rfl := Option.some.inj (hg.symm.trans hg')
  obtain rfl := Option.some.inj (hty.symm.trans ht')
  have hc := Lib.cells_of_tab ht he hce hct hd
  refine ⟨fun i => ?_, q, hr⟩
  have := World.var?_cell hg hvar i
  rw [this, ← hc]
  simp
end Go.Proofs.YtfjiogockpmogaaDoor
