/-
  From a walk to the statement: for laws that return true and write nothing that was there. What each kind of argument shows.
  From a walk to the statement, of a law whose row lists package-level variables: the walk is told what they hold.
  What an argument of type []Op of layer 13 shows.
  What the rows of layer 13 list: the ranges, as the walks want them.
-/
import Derived.Test.YtfhfhjcdeeepbaaGreatDoorRows
import Derived.Test.YtfhfhjcdeeepbaaGreatDoorGfA
import Derived.ProofKit
import Derived.OpenShut
import Derived.ShutString
import Derived.ChangeOld
import Derived.Below
import Derived.Carry
import Derived.Test.YtfhfhjcdeeepbaaGreatDoorCards
import Derived.Test.YtfhfhjcdeeepbaaGreatDoorTie
import Derived.LaidMore
import Derived.Lib.LaidTab
import Derived.Stop.Joined
import Derived.SevenTiedAt
import Derived.Deep.Slices
import Derived.Test.YtfhfhjcdeeepbaaGreatDoorGfW
import Derived.Lay
namespace Go.Proofs.YtfhfhjcdeeepbaaGreatDoor
open Go.ChangeShapes Go.WideShapes Go.ChangeAt Go.RowKit
set_option linter.unusedVariables false

theorem own : ownKnob Tryz.prog.godebug = none := by kernel_rfl
theorem laidOut : laidOutB Tryz.prog = true := by kernel_rfl

section
variable {H : Type} {enc : TypeId × Value → H}

/-- All arguments read behind the call as they read before. -/
theorem all_below {W W' : World} (hb : Below W.heap.size W W') : ∀ {ts : List TypeId} {vs : List Value} {ds : List (DataW H)} {ps : List MemPlace},
    (∀ t ∈ ts, Tryz.prog.readableRec t = true ∧ t < Tryz.prog.types.size) → DataW.TrodAll enc Tryz.prog W 0 (fun _ => true) true ts vs ds ps →
    DataW.TrodAll enc Tryz.prog W' 0 (fun b => decide (b < W.heap.size)) true ts vs ds ps := by
  intro ts
  induction ts with
  | nil =>
    intro vs ds ps _ h
    obtain ⟨rfl, rfl, rfl⟩ := trodAll_nil h
    exact trodAll_mk0
  | cons t ts ih =>
    intro vs ds ps hr h
    obtain ⟨v, vs', d, ds', p, q, rfl, rfl, rfl, h0, h1⟩ := trodAll_cons h
    have hlt : ∀ x ∈ p, x.block < W.heap.size := by
      obtain ⟨m, hm⟩ := h0
      exact DataW.trod_lt m _ _ _ hm
    have ht := hr t (by simp)
    exact trodAll_cons_mk (Below.trod laidOut ht.1 ht.2 h0 hb hlt) (ih (fun t' ht' => hr t' (by simp [ht'])) h1)

theorem all_length {W : World} : ∀ {ts : List TypeId} {vs : List Value} {ds : List (DataW H)} {ps : List MemPlace},
    DataW.TrodAll enc Tryz.prog W 0 (fun _ => true) true ts vs ds ps → ds.length = ts.length := by
  intro ts
  induction ts with
  | nil => intro vs ds ps h; obtain ⟨rfl, rfl, rfl⟩ := trodAll_nil h; rfl
  | cons t ts ih =>
    intro vs ds ps h
    obtain ⟨v, vs', d, ds', p, q, rfl, rfl, rfl, h0, h1⟩ := trodAll_cons h
    simp [ih h1]

set_option maxRecDepth 100000 in
/-- The frame of such a law: what is left is the walk, from the arguments' readings. -/
theorem law_frame {F : FuncId} {fn : Func} {s : ChangeSpec} {T : TypeId}
    (hT : Tryz.prog.underlying T = some .bool) (hres : fn.resultTypes = #[T]) (hvars : s.vars = [])
    (hread : fn.params.toList.all (fun t => Tryz.prog.readableRec t && decide (t < Tryz.prog.types.size)) = true)
    (hspec : ∀ ds : List (DataW H), ds.length = fn.params.toList.length → (s.fn H (ds ++ [])).results = [.lit (.bool true)] ∧ (s.fn H (ds ++ [])).args = ds ∧ (s.fn H (ds ++ [])).vars = [])
    (walk : ∀ (W : World) (base : Nat) (args : Array Value) (ds : List (DataW H)) (p : List MemPlace),
      (∀ (j : Nat) (t : TypeId) (v : Value), fn.params[j]? = some t → args[j]? = some v → Value.okWide Tryz.prog W .any base t v) →
      DataW.TrodAll enc Tryz.prog W 0 (fun _ => true) true fn.params.toList args.toList ds p →
      Calls Tryz.prog F args W fun e W' => e = .returned (.bool true) ∧ Below W.heap.size W W')
    (W : World) (base : Nat) (args : Array Value) (ds gs : List (DataW H)) (before : List MemPlace)
    (hval : ∀ (j : Nat) (t : TypeId) (v : Value), fn.params[j]? = some t → args[j]? = some v → Value.okWide Tryz.prog W .any base t v)
    (hW : DataW.Whole enc Tryz.prog fn.params.toList s.vars false W args.toList ds gs before) :
    Calls Tryz.prog F args W fun e W' => ∃ v, e = Ending.returned v ∧ ChangeSpec.post enc Tryz.prog fn s false true false false W args v W' := by
  have hW' := hW
  obtain ⟨p, q, hA, hV, hb, hfz, hnd⟩ := hW
  rw [hvars] at hV
  obtain ⟨rfl, rfl⟩ := trodVars_none hV
  refine (walk W base args ds p hval hA).mono fun e W' ⟨he, bel⟩ => ?_
  subst he
  have hs := hspec ds (all_length hA)
  have hr : ∀ t ∈ fn.params.toList, Tryz.prog.readableRec t = true ∧ t < Tryz.prog.types.size := by
    intro t ht
    have := List.all_eq_true.1 hread t ht
    simpa using this
  refine ⟨_, rfl, ds, [], before, [], p, [], hW', ?_, ?_, ?_, bel.frame _, fun h => by cases h⟩
  · rw [hs.1, hres]; exact trodAll_mk1 (shut_bool hT _)
  · rw [hs.2.1]; exact all_below bel hr hA
  · rw [hs.2.2, hvars]; rfl

set_option maxRecDepth 100000 in
/-- An int's bounds. -/
theorem open_i32 {W : World} {base : Nat} {t : TypeId} {v : Value} {d : DataW H} {p : List MemPlace} (ht : Tryz.prog.underlying t = some (.int .i32)) (hok : Value.okWide Tryz.prog W .any base t v)
    (h : DataW.Trod enc Tryz.prog W 0 (fun _ => true) true t v d p) : ∃ n : Int, v = .int .i32 n ∧ -2147483648 ≤ n ∧ n ≤ 2147483647 := by
  obtain ⟨n, rfl, rfl, rfl, hw⟩ := open_int ht hok h
  simp only [Lit.wf, IntKind.min, IntKind.max, IntKind.signed, IntKind.bits] at hw
  simp at hw
  exact ⟨n, rfl, by omega⟩
end
end Go.Proofs.YtfhfhjcdeeepbaaGreatDoor

namespace Go.Proofs.YtfhfhjcdeeepbaaGreatDoor
open Go.ChangeShapes Go.WideShapes Go.ChangeAt Go.RowKit
set_option linter.unusedVariables false

section
variable {H : Type} {enc : TypeId × Value → H}

set_option maxRecDepth 100000 in
theorem law_frame1 {F : FuncId} {fn : Func} {s : ChangeSpec} {T : TypeId}
    (hT : Tryz.prog.underlying T = some .bool) (hres : fn.resultTypes = #[T]) (hvars : s.vars = [])
    (hread : fn.params.toList.all (fun t => Tryz.prog.readableRec t && decide (t < Tryz.prog.types.size)) = true)
    (hspec : ∀ ds : List (DataW H), ds.length = fn.params.toList.length → (s.fn H (ds ++ [])).results = [.lit (.bool true)] ∧ (s.fn H (ds ++ [])).args = ds ∧ (s.fn H (ds ++ [])).vars = [])
    (W : World) (base : Nat) (args : Array Value) (ds gs : List (DataW H)) (before : List MemPlace)
    (hval : ∀ (j : Nat) (t : TypeId) (v : Value), fn.params[j]? = some t → args[j]? = some v → Value.okWide Tryz.prog W .any base t v)
    (hW : DataW.Whole enc Tryz.prog fn.params.toList s.vars false W args.toList ds gs before)
    (walk : ∀ (p : List MemPlace), DataW.TrodAll enc Tryz.prog W 0 (fun _ => true) true fn.params.toList args.toList ds p →
      Calls Tryz.prog F args W fun e W' => e = .returned (.bool true) ∧ Below W.heap.size W W') :
    Calls Tryz.prog F args W fun e W' => ∃ v, e = Ending.returned v ∧ ChangeSpec.post enc Tryz.prog fn s false true false false W args v W' := by
  have hW' := hW
  obtain ⟨p, q, hA, hV, hb, hfz, hnd⟩ := hW
  rw [hvars] at hV
  obtain ⟨rfl, rfl⟩ := trodVars_none hV
  refine (walk p hA).mono fun e W' ⟨he, bel⟩ => ?_
  subst he
  have hs := hspec ds (all_length hA)
  have hr : ∀ t ∈ fn.params.toList, Tryz.prog.readableRec t = true ∧ t < Tryz.prog.types.size := by
    intro t ht
    have := List.all_eq_true.1 hread t ht
    simpa using this
  refine ⟨_, rfl, ds, [], before, [], p, [], hW', ?_, ?_, ?_, bel.frame _, fun h => by cases h⟩
  · rw [hs.1, hres]; exact trodAll_mk1 (shut_bool hT _)
  · rw [hs.2.1]; exact all_below bel hr hA
  · rw [hs.2.2, hvars]; rfl
end

set_option maxRecDepth 100000 in
/-- A listed table of integers holds its numbers; what is listed behind it. -/
theorem laidVar_tab {P : Program} {W : World} {name : String} {d : DataW Unit} {rest : List (String × DataW Unit)} {ps : List MemPlace} {g : Nat} {t e : TypeId} {n : Nat} {k : IntKind} {zs : List Int}
    (hg : P.globalNamed name = some g) (hty : (P.globals[g]?).map (·.type) = some t) (ht : P.underlying t = some (.array n e)) (he : P.underlying e = some (.int k)) (hce : P.cellsOf e = 1) (hct : P.cellsOf t = n)
    (hd : d = Lib.tabData k zs) (h : DataW.LaidVars P W ((name, d) :: rest) ps) :
    (∀ i, W.cell? ⟨g, i, none⟩ = (zs.map fun z => Value.int k z)[i]?) ∧ ∃ q, DataW.LaidVars P W rest q := by
  subst hd
  obtain ⟨g', t', cs, fuel, p, q, hg', ht', hvar, hd, hr, _⟩ := h
  obtain rfl := Option.some.inj (hg.symm.trans hg')
  obtain rfl := Option.some.inj (hty.symm.trans ht')
  have hc := Lib.cells_of_tab ht he hce hct hd
  refine ⟨fun i => ?_, q, hr⟩
  have := World.var?_cell hg hvar i
  rw [this, ← hc]
  simp
end Go.Proofs.YtfhfhjcdeeepbaaGreatDoor

namespace Go.Proofs.YtfhfhjcdeeepbaaGreatDoor
open Go.ChangeShapes Go.WideShapes Go.ChangeAt Go.RowKit Go.Deep
set_option linter.unusedVariables false
set_option linter.unusedSimpArgs false

structure OpE where
  kd : Int
  s : ByteArray
  a : Int
def OpE.cells (o : OpE) : List Value := [.int .u8 o.kd, .string o.s, .int .i64 o.a]
theorem OpE.len (o : OpE) : o.cells.length = 3 := rfl
theorem OpE.one (o : OpE) : ∀ v ∈ o.cells, v.oneCell' = true := by
  intro v hv
  simp [OpE.cells] at hv
  rcases hv with rfl | rfl | rfl <;> rfl
theorem ope_size : (Tryz.prog.info? 32).map (·.size) = some 3 := by kernel_rfl
structure OpE.ok (o : OpE) : Prop where
  d0 : 0 ≤ o.kd
  d1 : o.kd ≤ 255
  s : o.s.size ≤ maxLen
def oec (l : List OpE) : List Value := l.flatMap OpE.cells
theorem oec_length (l : List OpE) : (oec l).length = l.length * 3 := by
  induction l with
  | nil => rfl
  | cons o l ih => simp only [oec, List.flatMap_cons, List.length_append, List.length_cons] at *; rw [OpE.len]; omega
theorem oec_get {l : List OpE} {k : Nat} {o : OpE} (h : l[k]? = some o) {j : Nat} {v : Value} (hv : o.cells[j]? = some v) : (oec l)[k * 3 + j]? = some v := by
  have hj : j < 3 := by have := (List.getElem?_eq_some_iff.1 hv).1; rw [OpE.len] at this; exact this
  induction l generalizing k with
  | nil => simp at h
  | cons x l ih =>
    cases k with
    | zero =>
      simp at h
      subst h
      rw [oec, List.flatMap_cons, List.getElem?_append_left (by rw [OpE.len]; omega), Nat.zero_mul, Nat.zero_add]
      exact hv
    | succ k =>
      rw [oec, List.flatMap_cons, List.getElem?_append_right (by rw [OpE.len]; omega), OpE.len, show (k + 1) * 3 + j - 3 = k * 3 + j by omega]
      exact ih (by simpa using h)

section
variable {H : Type} {enc : TypeId × Value → H} {w : World} {base : Nat} {spare : Nat → Bool} {held : Bool}
theorem ewf64 {n : Int} (h : (Lit.int .i64 n).wf = true) : -9223372036854775808 ≤ n ∧ n ≤ 9223372036854775807 := by
  simp only [Lit.wf, IntKind.min, IntKind.max, IntKind.signed, IntKind.bits] at h
  simp at h
  omega
theorem ewfu8 {n : Int} (h : (Lit.int .u8 n).wf = true) : 0 ≤ n ∧ n ≤ 255 := by
  simp only [Lit.wf, IntKind.min, IntKind.max, IntKind.signed, IntKind.bits] at h
  simp at h
  omega
set_option maxRecDepth 100000 in
theorem ope_of_trod {fuel : Nat} {cs : List Value} {x : DataW H × List MemPlace} (h : DataW.trod enc Tryz.prog w base (fun _ => true) held fuel 32 cs = some x) : ∃ o : OpE, cs = o.cells ∧ o.ok := by
  obtain ⟨xs, n, _, _, hlen, hxl, hf⟩ := DataW.trod_struct Tryz.underlying32 h
  rw [show Tryz.prog.cellsOf 32 = 3 by kernel_rfl] at hlen
  match cs, hlen with
  | [c0, c1, c2], _ =>
    have ex : ∀ i, i < xs.length → xs[i]? = some (xs[i]!) := fun i hi => by
      rw [List.getElem?_eq_getElem hi, List.getElem!_eq_getElem?_getD, List.getElem?_eq_getElem hi]; rfl
    have hx3 : xs.length = 3 := hxl
    have ku : Tryz.prog.cellsOf 5 = 1 := by kernel_rfl
    have ks : Tryz.prog.cellsOf 9 = 1 := by kernel_rfl
    have ka : Tryz.prog.cellsOf 30 = 1 := by kernel_rfl
    have f0 := (hf 0 _ rfl).trans (ex 0 (by omega))
    have f1 := (hf 1 _ rfl).trans (ex 1 (by omega))
    have f2 := (hf 2 _ rfl).trans (ex 2 (by omega))
    obtain ⟨n0, e0, _, w0⟩ := DataW.trod_int Tryz.underlying5 f0
    obtain ⟨s1, e1, _, w1⟩ := DataW.trod_string Tryz.underlying9 f1
    obtain ⟨n2, e2, _, w2⟩ := DataW.trod_int Tryz.underlying30 f2
    simp [ku] at e0
    simp [ks] at e1
    simp [ka] at e2
    obtain ⟨b2, b3⟩ := ewfu8 w0
    refine ⟨⟨n0, s1, n2⟩, ?_, ⟨b2, b3, w1⟩⟩
    simp only [OpE.cells]
    rw [e0, e1, e2]

set_option maxRecDepth 100000 in
theorem open_opsE {W : World} {v : Value} {d : DataW H} {p : List MemPlace} (hok : Value.okWide Tryz.prog W .any base 22 v)
    (h : DataW.Trod enc Tryz.prog W 0 (fun _ => true) true 22 v d p) :
    ∃ A n c l, v = .slice A n c ∧ n = (l : List OpE).length ∧ n ≤ maxLen ∧ (∀ o ∈ l, o.ok) ∧ Sl W W.heap.size A (oec l) := by
  obtain ⟨a0, len, cap, rfl⟩ := okWide_slice Tryz.underlying22 hok
  obtain ⟨fuel, hf⟩ := h
  rcases open_slice Tryz.underlying22 hf with ⟨hcs, _⟩ | ⟨a, len', cap', m, n', D, Pl, hcs, hb, hl, hm, hmm, hx, hi⟩
  · simp [Value.cells] at hcs
    obtain ⟨rfl, rfl, rfl⟩ := hcs
    exact ⟨none, 0, 0, [], rfl, rfl, by simp [maxLen], by simp, .inl rfl⟩
  · simp [Value.cells] at hcs
    obtain ⟨rfl, rfl, rfl⟩ := hcs
    simp at hmm
    subst hmm
    rw [show Tryz.prog.cellsOf 32 = 3 by kernel_rfl] at hi
    have key : ∀ k, k ≤ len → ∃ l : List OpE, l.length = k ∧ (∀ o ∈ l, o.ok) ∧ ∀ j u, (oec l)[j]? = some u → W.cell? (a.add j) = some u := by
      intro k
      induction k with
      | zero => intro _; exact ⟨[], rfl, by simp, by simp [oec]⟩
      | succ k ih =>
        intro hk
        obtain ⟨l, h1, h2, h3⟩ := ih (by omega)
        obtain ⟨cs', hc, ht⟩ := hi k (by omega)
        obtain ⟨_, hcl, hat⟩ := World.cells?_some hc
        obtain ⟨o, rfl, ho⟩ := ope_of_trod ht
        refine ⟨l ++ [o], by simp [h1], fun q hq => ?_, fun j u hu => ?_⟩
        · rcases List.mem_append.1 hq with hq | hq
          · exact h2 q hq
          · simp at hq; subst hq; exact ho
        · have e : oec (l ++ [o]) = oec l ++ o.cells := by simp [oec]
          rw [e] at hu
          have hol := oec_length l
          by_cases hj : j < (oec l).length
          · rw [List.getElem?_append_left hj] at hu
            exact h3 j u hu
          · rw [List.getElem?_append_right (by omega)] at hu
            have hjl := (List.getElem?_eq_some_iff.1 hu).1
            rw [OpE.len] at hjl
            have := hat (j - (oec l).length) hjl
            rw [hu, add_add, hol, h1] at this
            rw [show k * 3 + (j - k * 3) = j by omega] at this
            exact this
    obtain ⟨l, h1, h2, h3⟩ := key len (Nat.le_refl _)
    refine ⟨some a, len, _, l, rfl, h1.symm, Nat.le_trans hl hm, h2, ?_⟩
    rcases Nat.eq_zero_or_pos len with h0 | h0
    · subst h0
      have : l = [] := List.eq_nil_of_length_eq_zero h1
      subst this
      exact .inl rfl
    · obtain ⟨b, off, spot⟩ := a
      have hlen : 0 < (oec l).length := by rw [oec_length]; omega
      have hc0 := h3 0 _ (List.getElem?_eq_getElem hlen)
      have hspot : spot = none := by simpa [Addr.add] using World.cell?_spot hc0
      subst hspot
      have hc : ∀ j u, (oec l)[j]? = some u → W.cell? ⟨b, off + j, none⟩ = some u := fun j u hu => by
        have := h3 j u hu
        rwa [Addr.add_mid] at this
      exact .inr ⟨b, off, rfl, World.block_lt_of_cell? W ⟨b, off + 0, none⟩ (hc 0 _ (List.getElem?_eq_getElem hlen)), hc⟩
end
end Go.Proofs.YtfhfhjcdeeepbaaGreatDoor

namespace Go.Proofs.YtfhfhjcdeeepbaaGreatDoor
open Go.ChangeShapes Go.WideShapes Go.ChangeAt Go.RowKit
set_option linter.unusedVariables false

def flatI (T : List (Int × Int)) : List Int := T.flatMap fun x => [x.1, x.2]
theorem flatI_map (T : List (Int × Int)) : (flatI T).map (Value.int .i32) = flatT T := by
  induction T with
  | nil => rfl
  | cons x T ih =>
    have e1 : flatI (x :: T) = x.1 :: x.2 :: flatI T := rfl
    have e2 : flatT (x :: T) = .int .i32 x.1 :: .int .i32 x.2 :: flatT T := rfl
    rw [e1, e2, ← ih]
    rfl
theorem Tab.of_cells {W : World} {g : Nat} {T : List (Int × Int)} (h : ∀ i, W.cell? ⟨g, i, none⟩ = ((flatI T).map fun z => Value.int .i32 z)[i]?) : Tab W g T := by
  intro k x hx
  have h1 := h (2 * k)
  have h2 := h (2 * k + 1)
  have e : ((flatI T).map fun z => Value.int .i32 z) = flatT T := flatI_map T
  rw [e] at h1 h2
  have h3 := flatT_get T k x hx
  exact ⟨h1.trans h3.1, h2.trans h3.2⟩
theorem cell_block {w : World} {b o : Nat} {v : Value} (h : w.cell? ⟨b, o, none⟩ = some v) : b < w.heap.size := by
  rcases Nat.lt_or_ge b w.heap.size with h' | h'
  · exact h'
  · simp [World.cell?, Array.getElem?_eq_none h'] at h

theorem mk_data : (Rows.laid_placard_width_marks : DataW Unit) = Lib.tabData .i32 (flatI mkT) := rfl
theorem wd_data : (Rows.laid_placard_width_wides : DataW Unit) = Lib.tabData .i32 (flatI wdT) := rfl

theorem tabs_of {W : World} (hm : Tab W 1 mkT) (hw : Tab W 0 wdT) : Tabs W :=
  ⟨hm, hw, cell_block (hm 0 _ rfl).1, cell_block (hw 0 _ rfl).1⟩

set_option maxRecDepth 100000 in
/-- What the condition gives the walks. -/
theorem tabs_of_laid {W : World} (h : laidMetH Tryz.prog Rows.editorUndoesRow.laid W) : Tabs W := by
  rw [MakeChecks.laidMetH_plain _ _ _ (by kernel_rfl)] at h
  obtain ⟨ps, hl, _⟩ := h
  obtain ⟨h1, q, hr⟩ := laidVar_tab (g := 1) (t := 146) (e := 21) (n := 56) (k := .i32) (zs := flatI mkT) (by kernel_rfl) (by kernel_rfl) (by kernel_rfl) (by kernel_rfl) (by kernel_rfl) (by kernel_rfl) mk_data hl
  obtain ⟨h2, _⟩ := laidVar_tab (g := 0) (t := 144) (e := 21) (n := 102) (k := .i32) (zs := flatI wdT) (by kernel_rfl) (by kernel_rfl) (by kernel_rfl) (by kernel_rfl) (by kernel_rfl) (by kernel_rfl) wd_data hr
  exact tabs_of (Tab.of_cells h1) (Tab.of_cells h2)

/-- The heap that holds what the rows list meets the condition. -/
theorem editor_met (os : Os) (args : Array Value) : laidMetH Tryz.prog Rows.editorUndoesRow.laid ((World.laidAll Tryz.prog os Rows.editorUndoesRow.laid).forCall (fun _ _ => 0) ⟨#[], args, []⟩).memory := by
  rw [MakeChecks.laidMetH_plain _ _ _ (by kernel_rfl)]
  exact laidMet_laidAll _ (by kernel_rfl) (by kernel_rfl)
end Go.Proofs.YtfhfhjcdeeepbaaGreatDoor

