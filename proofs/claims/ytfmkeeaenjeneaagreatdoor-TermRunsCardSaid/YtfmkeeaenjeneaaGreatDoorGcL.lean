/-
  From a walk to the statement: for laws that return true and write nothing that was there. What each kind of argument shows.
  From a walk to the statement, of a law whose row lists package-level variables: the walk is told what they hold.
  What an argument of []byte shows.
  What an argument of []int32 shows; an int's bounds.
  What an argument of type []Op of layer 5 shows.
  What the rows of layer 5 list: the ranges and the blank, as the walks want them.
-/
import Derived.Test.YtfmkeeaenjeneaaGreatDoorRows
import Derived.Test.YtfmkeeaenjeneaaGreatDoorGfA
import Derived.ProofKit
import Derived.OpenShut
import Derived.ShutString
import Derived.ChangeOld
import Derived.Below
import Derived.Carry
import Derived.Test.YtfmkeeaenjeneaaGreatDoorCards
import Derived.Test.YtfmkeeaenjeneaaGreatDoorTie
import Derived.LaidMore
import Derived.Lib.LaidTab
import Derived.Stop.Joined
import Derived.SevenTiedAt
import Derived.Deep.Slices
import Derived.Test.YtfmkeeaenjeneaaGreatDoorGfW
import Derived.Test.YtfmkeeaenjeneaaGreatDoorGfG
import Derived.Lay
namespace Go.Proofs.YtfmkeeaenjeneaaGreatDoor
open Go.ChangeShapes Go.WideShapes Go.ChangeAt Go.RowKit
set_option linter.unusedVariables false

theorem own : ownKnob Tryz.prog.godebug = none := by kernel_rfl
theorem laidOut : laidOutB Tryz.prog = true := by kernel_rfl

section
variable {H : Type} {enc : TypeId × Value → H}

/-- All arguments read behind the call as they read before. -/
theorem all_below {W W' : World} (hb : Below W.heap.size W W') : ∀ {ts : List TypeId} {vs : List Value} {ds : List (DataW H)} {ps : List MemPlace},
    (∀ t ∈ ts, Tryz.prog.readableRec t = true ∧ t < Tryz.prog.types.size) → DataW.TrodAll enc Tryz.prog W 0 (fun _ => true) true ts vs ds ps →
    DataW.TrodAll enc Tryz.prog W' 0 (fun b => decide (b < W.heap.size)) true ts vs ds ps := by
  intro ts
  induction ts with
  | nil =>
    intro vs ds ps _ h
    obtain ⟨rfl, rfl, rfl⟩ := trodAll_nil h
    exact trodAll_mk0
  | cons t ts ih =>
    intro vs ds ps hr h
    obtain ⟨v, vs', d, ds', p, q, rfl, rfl, rfl, h0, h1⟩ := trodAll_cons h
    have hlt : ∀ x ∈ p, x.block < W.heap.size := by
      obtain ⟨m, hm⟩ := h0
      exact DataW.trod_lt m _ _ _ hm
    have ht := hr t (by simp)
    exact trodAll_cons_mk (Below.trod laidOut ht.1 ht.2 h0 hb hlt) (ih (fun t' ht' => hr t' (by simp [ht'])) h1)

theorem all_length {W : World} : ∀ {ts : List TypeId} {vs : List Value} {ds : List (DataW H)} {ps : List MemPlace},
    DataW.TrodAll enc Tryz.prog W 0 (fun _ => true) true ts vs ds ps → ds.length = ts.length := by
  intro ts
  induction ts with
  | nil => intro vs ds ps h; obtain ⟨rfl, rfl, rfl⟩ := trodAll_nil h; rfl
  | cons t ts ih =>
    intro vs ds ps h
    obtain ⟨v, vs', d, ds', p, q, rfl, rfl, rfl, h0, h1⟩ := trodAll_cons h
    simp [ih h1]

set_option maxRecDepth 100000 in
/-- The frame of such a law: what is left is the walk, from the arguments' readings. -/
theorem law_frame {F : FuncId} {fn : Func} {s : ChangeSpec} {T : TypeId}
    (hT : Tryz.prog.underlying T = some .bool) (hres : fn.resultTypes = #[T]) (hvars : s.vars = [])
    (hread : fn.params.toList.all (fun t => Tryz.prog.readableRec t && decide (t < Tryz.prog.types.size)) = true)
    (hspec : ∀ ds : List (DataW H), ds.length = fn.params.toList.length → (s.fn H (ds ++ [])).results = [.lit (.bool true)] ∧ (s.fn H (ds ++ [])).args = ds ∧ (s.fn H (ds ++ [])).vars = [])
    (walk : ∀ (W : World) (base : Nat) (args : Array Value) (ds : List (DataW H)) (p : List MemPlace),
      (∀ (j : Nat) (t : TypeId) (v : Value), fn.params[j]? = some t → args[j]? = some v → Value.okWide Tryz.prog W .any base t v) →
      DataW.TrodAll enc Tryz.prog W 0 (fun _ => true) true fn.params.toList args.toList ds p →
      Calls Tryz.prog F args W fun e W' => e = .returned (.bool true) ∧ Below W.heap.size W W')
    (W : World) (base : Nat) (args : Array Value) (ds gs : List (DataW H)) (before : List MemPlace)
    (hval : ∀ (j : Nat) (t : TypeId) (v : Value), fn.params[j]? = some t → args[j]? = some v → Value.okWide Tryz.prog W .any base t v)
    (hW : DataW.Whole enc Tryz.prog fn.params.toList s.vars false W args.toList ds gs before) :
    Calls Tryz.prog F args W fun e W' => ∃ v, e = Ending.returned v ∧ ChangeSpec.post enc Tryz.prog fn s false true false false W args v W' := by
  have hW' := hW
  obtain ⟨p, q, hA, hV, hb, hfz, hnd⟩ := hW
  rw [hvars] at hV
  obtain ⟨rfl, rfl⟩ := trodVars_none hV
  refine (walk W base args ds p hval hA).mono fun e W' ⟨he, bel⟩ => ?_
  subst he
  have hs := hspec ds (all_length hA)
  have hr : ∀ t ∈ fn.params.toList, Tryz.prog.readableRec t = true ∧ t < Tryz.prog.types.size := by
    intro t ht
    have := List.all_eq_true.1 hread t ht
    simpa using this
  refine ⟨_, rfl, ds, [], before, [], p, [], hW', ?_, ?_, ?_, bel.frame _, fun h => by cases h⟩
  · rw [hs.1, hres]; exact trodAll_mk1 (shut_bool hT _)
  · rw [hs.2.1]; exact all_below bel hr hA
  · rw [hs.2.2, hvars]; rfl

set_option maxRecDepth 100000 in
/-- An int's bounds. -/
theorem open_i32 {W : World} {base : Nat} {t : TypeId} {v : Value} {d : DataW H} {p : List MemPlace} (ht : Tryz.prog.underlying t = some (.int .i32)) (hok : Value.okWide Tryz.prog W .any base t v)
    (h : DataW.Trod enc Tryz.prog W 0 (fun _ => true) true t v d p) : ∃ n : Int, v = .int .i32 n ∧ -2147483648 ≤ n ∧ n ≤ 2147483647 := by
  obtain ⟨n, rfl, rfl, rfl, hw⟩ := open_int ht hok h
  simp only [Lit.wf, IntKind.min, IntKind.max, IntKind.signed, IntKind.bits] at hw
  simp at hw
  exact ⟨n, rfl, by omega⟩
end
end Go.Proofs.YtfmkeeaenjeneaaGreatDoor

namespace Go.Proofs.YtfmkeeaenjeneaaGreatDoor
open Go.ChangeShapes Go.WideShapes Go.ChangeAt Go.RowKit
set_option linter.unusedVariables false

section
variable {H : Type} {enc : TypeId × Value → H}

set_option maxRecDepth 100000 in
theorem law_frame1 {F : FuncId} {fn : Func} {s : ChangeSpec} {T : TypeId}
    (hT : Tryz.prog.underlying T = some .bool) (hres : fn.resultTypes = #[T]) (hvars : s.vars = [])
    (hread : fn.params.toList.all (fun t => Tryz.prog.readableRec t && decide (t < Tryz.prog.types.size)) = true)
    (hspec : ∀ ds : List (DataW H), ds.length = fn.params.toList.length → (s.fn H (ds ++ [])).results = [.lit (.bool true)] ∧ (s.fn H (ds ++ [])).args = ds ∧ (s.fn H (ds ++ [])).vars = [])
    (W : World) (base : Nat) (args : Array Value) (ds gs : List (DataW H)) (before : List MemPlace)
    (hval : ∀ (j : Nat) (t : TypeId) (v : Value), fn.params[j]? = some t → args[j]? = some v → Value.okWide Tryz.prog W .any base t v)
    (hW : DataW.Whole enc Tryz.prog fn.params.toList s.vars false W args.toList ds gs before)
    (walk : ∀ (p : List MemPlace), DataW.TrodAll enc Tryz.prog W 0 (fun _ => true) true fn.params.toList args.toList ds p →
      Calls Tryz.prog F args W fun e W' => e = .returned (.bool true) ∧ Below W.heap.size W W') :
    Calls Tryz.prog F args W fun e W' => ∃ v, e = Ending.returned v ∧ ChangeSpec.post enc Tryz.prog fn s false true false false W args v W' := by
  have hW' := hW
  obtain ⟨p, q, hA, hV, hb, hfz, hnd⟩ := hW
  rw [hvars] at hV
  obtain ⟨rfl, rfl⟩ := trodVars_none hV
  refine (walk p hA).mono fun e W' ⟨he, bel⟩ => ?_
  subst he
  have hs := hspec ds (all_length hA)
  have hr : ∀ t ∈ fn.params.toList, Tryz.prog.readableRec t = true ∧ t < Tryz.prog.types.size := by
    intro t ht
    have := List.all_eq_true.1 hread t ht
    simpa using this
  refine ⟨_, rfl, ds, [], before, [], p, [], hW', ?_, ?_, ?_, bel.frame _, fun h => by cases h⟩
  · rw [hs.1, hres]; exact trodAll_mk1 (shut_bool hT _)
  · rw [hs.2.1]; exact all_below bel hr hA
  · rw [hs.2.2, hvars]; rfl
end

set_option maxRecDepth 100000 in
/-- A listed table of integers holds its numbers; what is listed behind it. -/
theorem laidVar_tab {P : Program} {W : World} {name : String} {d : DataW Unit} {rest : List (String × DataW Unit)} {ps : List MemPlace} {g : Nat} {t e : TypeId} {n : Nat} {k : IntKind} {zs : List Int}
    (hg : P.globalNamed name = some g) (hty : (P.globals[g]?).map (·.type) = some t) (ht : P.underlying t = some (.array n e)) (he : P.underlying e = some (.int k)) (hce : P.cellsOf e = 1) (hct : P.cellsOf t = n)
    (hd : d = Lib.tabData k zs) (h : DataW.LaidVars P W ((name, d) :: rest) ps) :
    (∀ i, W.cell? ⟨g, i, none⟩ = (zs.map fun z => Value.int k z)[i]?) ∧ ∃ q, DataW.LaidVars P W rest q := by
  subst hd
  obtain ⟨g', t', cs, fuel, p, q, hg', ht', hvar, hd, hr, _⟩ := h
  obtain rfl := Option.some.inj (hg.symm.trans hg')
  obtain rfl := Option.some.inj (hty.symm.trans ht')
  have hc := Lib.cells_of_tab ht he hce hct hd
  refine ⟨fun i => ?_, q, hr⟩
  have := World.var?_cell hg hvar i
  rw [this, ← hc]
  simp
end Go.Proofs.YtfmkeeaenjeneaaGreatDoor

namespace Go.Proofs.YtfmkeeaenjeneaaGreatDoor
open Go.ChangeShapes Go.WideShapes Go.ChangeAt Go.RowKit
set_option linter.unusedVariables false

theorem cell_lt {w : World} {b o : Nat} {v : Value} (h : w.cell? ⟨b, o, none⟩ = some v) : b < w.heap.size := by
  rcases Nat.lt_or_ge b w.heap.size with h' | h'
  · exact h'
  · simp [World.cell?, Array.getElem?_eq_none h'] at h

theorem bytes_of (zs : List Int) (h : ∀ n ∈ zs, 0 ≤ n ∧ n < 256) : zs.map (Value.int .u8) = bv (zs.map fun n => UInt8.ofNat n.toNat) := by
  unfold bv
  rw [List.map_map]
  refine List.map_congr_left fun n hn => ?_
  obtain ⟨h0, h1⟩ := h n hn
  have e : (UInt8.ofNat n.toNat).toNat = n.toNat % 256 := UInt8.toNat_ofNat'
  simp only [Function.comp, e]
  congr 1
  rw [Nat.mod_eq_of_lt (by omega)]
  omega

/-- A row of bytes that lies in memory, as a list. -/
theorem sl_of_cells {w : World} {a : Addr} {n : Nat} {zs : List Int} (hz : zs.length ≥ n) (hcell : ∀ i, i < zs.length → w.cell? (a.add i) = some (.int .u8 (zs.getD i 0))) (hw : ∀ m ∈ zs, (Lit.int .u8 m).wf = true) :
    ∃ l : List UInt8, l.length = n ∧ Sl w w.heap.size (some a) (bv l) := by
  have hb : ∀ m ∈ zs.take n, 0 ≤ m ∧ m < 256 := by
    intro m hm
    have := hw m (List.mem_of_mem_take hm)
    simp only [Lit.wf, IntKind.min, IntKind.max, IntKind.signed, IntKind.bits] at this
    simp at this
    omega
  refine ⟨(zs.take n).map fun n => UInt8.ofNat n.toNat, by simp; omega, ?_⟩
  rw [← bytes_of _ hb]
  rcases Nat.eq_zero_or_pos n with h0 | h0
  · subst h0; simp [Sl]
  · obtain ⟨b, off, spot⟩ := a
    have hc0 := hcell 0 (by omega)
    have hspot : spot = none := by simpa [Addr.add] using World.cell?_spot hc0
    subst hspot
    have hc : ∀ i, i < zs.length → w.cell? ⟨b, off + i, none⟩ = some (.int .u8 (zs.getD i 0)) := by
      intro i hi
      have := hcell i hi
      unfold Addr.add at this
      split at this
      · next h => subst h; simpa using this
      · exact this
    refine .inr ⟨b, off, rfl, cell_lt (hc 0 (by omega)), fun j u hu => ?_⟩
    rw [List.getElem?_map, List.getElem?_take] at hu
    split at hu
    · next h =>
      have hj : j < zs.length := by omega
      rw [List.getElem?_eq_getElem hj] at hu
      simp at hu
      rw [hc j hj, ← hu]
      simp [List.getD_eq_getElem?_getD, hj]
    · simp at hu

section
variable {H : Type} {enc : TypeId × Value → H}
set_option maxRecDepth 100000 in
theorem open_bytes {W : World} {base : Nat} {v : Value} {d : DataW H} {p : List MemPlace} (hok : Value.okWide Tryz.prog W .any base 32 v)
    (h : DataW.Trod enc Tryz.prog W 0 (fun _ => true) true 32 v d p) :
    ∃ A n c l, v = .slice A n c ∧ n = (l : List UInt8).length ∧ n ≤ c ∧ c ≤ maxLen ∧ (A = none → c = 0) ∧ Sl W W.heap.size A (bv l) := by
  obtain ⟨a0, len, cap, rfl⟩ := okWide_slice Tryz.underlying32 hok
  obtain ⟨fuel, hf⟩ := h
  rcases open_ints Tryz.underlying32 Tryz.underlying5 (by kernel_rfl) hf with ⟨hcs, _⟩ | ⟨x, l, c, zs, hcs, _, hl, hm, hz, _, hcell, hwz⟩
  · simp [Value.cells] at hcs
    obtain ⟨rfl, rfl, rfl⟩ := hcs
    exact ⟨none, 0, 0, [], rfl, rfl, by omega, by simp [maxLen], fun _ => rfl, .inl rfl⟩
  · simp [Value.cells] at hcs
    obtain ⟨rfl, rfl, rfl⟩ := hcs
    have hz' : zs.length = cap := by simpa using hz
    obtain ⟨k, hk, hS⟩ := sl_of_cells (n := len) (by omega) hcell hwz
    exact ⟨some x, len, cap, k, rfl, hk.symm, hl, hm, (fun h => by cases h), hS⟩
end
end Go.Proofs.YtfmkeeaenjeneaaGreatDoor

namespace Go.Proofs.YtfmkeeaenjeneaaGreatDoor
open Go.ChangeShapes Go.WideShapes Go.ChangeAt Go.RowKit
set_option linter.unusedVariables false
set_option maxRecDepth 100000

theorem cell_lt32 {w : World} {b o : Nat} {v : Value} (h : w.cell? ⟨b, o, none⟩ = some v) : b < w.heap.size := by
  rcases Nat.lt_or_ge b w.heap.size with h' | h'
  · exact h'
  · simp [World.cell?, Array.getElem?_eq_none h'] at h

/-- A row of int32 that lies in memory, as a list. -/
theorem sl_of_cells32 {w : World} {a : Addr} {n : Nat} {zs : List Int} (hz : zs.length ≥ n) (hcell : ∀ i, i < zs.length → w.cell? (a.add i) = some (.int .i32 (zs.getD i 0))) :
    Sl w w.heap.size (some a) ((zs.take n).map (Value.int .i32)) := by
  rcases Nat.eq_zero_or_pos n with h0 | h0
  · subst h0; simp [Sl]
  · obtain ⟨b, off, spot⟩ := a
    have hc0 := hcell 0 (by omega)
    have hspot : spot = none := by simpa [Addr.add] using World.cell?_spot hc0
    subst hspot
    have hc : ∀ i, i < zs.length → w.cell? ⟨b, off + i, none⟩ = some (.int .i32 (zs.getD i 0)) := by
      intro i hi
      have := hcell i hi
      unfold Addr.add at this
      split at this
      · next h => subst h; simpa using this
      · exact this
    refine .inr ⟨b, off, rfl, cell_lt32 (hc 0 (by omega)), fun j u hu => ?_⟩
    rw [List.getElem?_map, List.getElem?_take] at hu
    split at hu
    · next h =>
      have hj : j < zs.length := by omega
      rw [List.getElem?_eq_getElem hj] at hu
      simp at hu
      rw [hc j hj, ← hu]
      simp [List.getD_eq_getElem?_getD, hj]
    · simp at hu

section
variable {H : Type} {enc : TypeId × Value → H}
theorem open_int32s {W : World} {base : Nat} {v : Value} {d : DataW H} {p : List MemPlace} (hok : Value.okWide Tryz.prog W .any base 168 v)
    (h : DataW.Trod enc Tryz.prog W 0 (fun _ => true) true 168 v d p) :
    ∃ A n c l, v = .slice A n c ∧ n = (l : List Int).length ∧ n ≤ c ∧ c ≤ maxLen ∧ (A = none → c = 0) ∧ Sl W W.heap.size A (l.map (Value.int .i32)) := by
  obtain ⟨a0, len, cap, rfl⟩ := okWide_slice Tryz.underlying168 hok
  obtain ⟨fuel, hf⟩ := h
  rcases open_ints Tryz.underlying168 Tryz.underlying21 (by kernel_rfl) hf with ⟨hcs, _⟩ | ⟨x, l, c, zs, hcs, _, hl, hm, hz, _, hcell, hwz⟩
  · simp [Value.cells] at hcs
    obtain ⟨rfl, rfl, rfl⟩ := hcs
    exact ⟨none, 0, 0, [], rfl, rfl, by omega, by simp [maxLen], fun _ => rfl, .inl rfl⟩
  · simp [Value.cells] at hcs
    obtain ⟨rfl, rfl, rfl⟩ := hcs
    have hz' : zs.length = cap := by simpa using hz
    exact ⟨some x, len, cap, zs.take len, rfl, by simp; omega, hl, hm, (fun h => by cases h), sl_of_cells32 (n := len) (by omega) hcell⟩

/-- An int's bounds. -/
theorem open_i64 {W : World} {base : Nat} {t : TypeId} {v : Value} {d : DataW H} {p : List MemPlace} (ht : Tryz.prog.underlying t = some (.int .i64)) (hok : Value.okWide Tryz.prog W .any base t v)
    (h : DataW.Trod enc Tryz.prog W 0 (fun _ => true) true t v d p) : ∃ n : Int, v = .int .i64 n ∧ -9223372036854775808 ≤ n ∧ n ≤ 9223372036854775807 := by
  obtain ⟨n, rfl, rfl, rfl, hw⟩ := open_int ht hok h
  simp only [Lit.wf, IntKind.min, IntKind.max, IntKind.signed, IntKind.bits] at hw
  simp at hw
  exact ⟨n, rfl, by omega⟩
theorem open_u8 {W : World} {base : Nat} {t : TypeId} {v : Value} {d : DataW H} {p : List MemPlace} (ht : Tryz.prog.underlying t = some (.int .u8)) (hok : Value.okWide Tryz.prog W .any base t v)
    (h : DataW.Trod enc Tryz.prog W 0 (fun _ => true) true t v d p) : ∃ n : Int, v = .int .u8 n ∧ 0 ≤ n ∧ n ≤ 255 := by
  obtain ⟨n, rfl, rfl, rfl, hw⟩ := open_int ht hok h
  simp only [Lit.wf, IntKind.min, IntKind.max, IntKind.signed, IntKind.bits] at hw
  simp at hw
  exact ⟨n, rfl, by omega⟩
theorem open_i8 {W : World} {base : Nat} {t : TypeId} {v : Value} {d : DataW H} {p : List MemPlace} (ht : Tryz.prog.underlying t = some (.int .i8)) (hok : Value.okWide Tryz.prog W .any base t v)
    (h : DataW.Trod enc Tryz.prog W 0 (fun _ => true) true t v d p) : ∃ n : Int, v = .int .i8 n ∧ -128 ≤ n ∧ n ≤ 127 := by
  obtain ⟨n, rfl, rfl, rfl, hw⟩ := open_int ht hok h
  simp only [Lit.wf, IntKind.min, IntKind.max, IntKind.signed, IntKind.bits] at hw
  simp at hw
  exact ⟨n, rfl, by omega⟩
end
end Go.Proofs.YtfmkeeaenjeneaaGreatDoor

namespace Go.Proofs.YtfmkeeaenjeneaaGreatDoor
open Go.ChangeShapes Go.WideShapes Go.ChangeAt Go.RowKit Go.Deep
set_option linter.unusedVariables false
set_option linter.unusedSimpArgs false

structure OpT where
  kd : Int
  A : Option Addr
  n : Nat
  c : Nat
  L : List UInt8
  wd : Int
  ht : Int
def OpT.cells (o : OpT) : List Value := [.int .u8 o.kd, .slice o.A o.n o.c, .int .i64 o.wd, .int .i64 o.ht]
theorem OpT.len (o : OpT) : o.cells.length = 4 := rfl
theorem OpT.one (o : OpT) : ∀ v ∈ o.cells, v.oneCell' = true := by
  intro v hv
  simp [OpT.cells] at hv
  rcases hv with rfl | rfl | rfl | rfl <;> rfl
theorem opt_size : (Tryz.prog.info? 39).map (·.size) = some 4 := by kernel_rfl
structure OpT.ok (o : OpT) (w : World) : Prop where
  d0 : 0 ≤ o.kd
  d1 : o.kd ≤ 255
  n : o.n = o.L.length
  c : o.n ≤ o.c
  cm : o.c ≤ maxLen
  nil : o.A = none → o.c = 0
  s : Sl w w.heap.size o.A (bv o.L)
  r0 : -9223372036854775808 ≤ o.wd
  r1 : o.wd ≤ 9223372036854775807
  c0 : -9223372036854775808 ≤ o.ht
  c1 : o.ht ≤ 9223372036854775807
def otc (l : List OpT) : List Value := l.flatMap OpT.cells
theorem otc_length (l : List OpT) : (otc l).length = l.length * 4 := by
  induction l with
  | nil => rfl
  | cons o l ih => simp only [otc, List.flatMap_cons, List.length_append, List.length_cons] at *; rw [OpT.len]; omega
theorem otc_get {l : List OpT} {k : Nat} {o : OpT} (h : l[k]? = some o) {j : Nat} {v : Value} (hv : o.cells[j]? = some v) : (otc l)[k * 4 + j]? = some v := by
  have hj : j < 4 := by have := (List.getElem?_eq_some_iff.1 hv).1; rw [OpT.len] at this; exact this
  induction l generalizing k with
  | nil => simp at h
  | cons x l ih =>
    cases k with
    | zero =>
      simp at h
      subst h
      rw [otc, List.flatMap_cons, List.getElem?_append_left (by rw [OpT.len]; omega), Nat.zero_mul, Nat.zero_add]
      exact hv
    | succ k =>
      rw [otc, List.flatMap_cons, List.getElem?_append_right (by rw [OpT.len]; omega), OpT.len, show (k + 1) * 4 + j - 4 = k * 4 + j by omega]
      exact ih (by simpa using h)

section
variable {H : Type} {enc : TypeId × Value → H} {w : World} {base : Nat} {spare : Nat → Bool} {held : Bool}
theorem twf64 {n : Int} (h : (Lit.int .i64 n).wf = true) : -9223372036854775808 ≤ n ∧ n ≤ 9223372036854775807 := by
  simp only [Lit.wf, IntKind.min, IntKind.max, IntKind.signed, IntKind.bits] at h
  simp at h
  omega
theorem twfu8 {n : Int} (h : (Lit.int .u8 n).wf = true) : 0 ≤ n ∧ n ≤ 255 := by
  simp only [Lit.wf, IntKind.min, IntKind.max, IntKind.signed, IntKind.bits] at h
  simp at h
  omega
set_option maxRecDepth 100000 in
theorem bytes_of_trod {fuel : Nat} {cs : List Value} {x : DataW H × List MemPlace} (h : DataW.trod enc Tryz.prog w base (fun _ => true) held fuel 32 cs = some x) :
    ∃ A n c l, cs = [.slice A n c] ∧ n = (l : List UInt8).length ∧ n ≤ c ∧ c ≤ maxLen ∧ (A = none → c = 0) ∧ Sl w w.heap.size A (bv l) := by
  rcases open_ints Tryz.underlying32 Tryz.underlying5 (by kernel_rfl) h with ⟨hcs, _⟩ | ⟨x, l, c, zs, hcs, _, hl, hm, hz, _, hcell, hwz⟩
  · exact ⟨none, 0, 0, [], hcs, rfl, by omega, by simp [maxLen], fun _ => rfl, .inl rfl⟩
  · have hz' : zs.length = c := by simpa using hz
    obtain ⟨k, hk, hS⟩ := sl_of_cells (n := l) (by omega) hcell hwz
    exact ⟨some x, l, c, k, hcs, hk.symm, hl, hm, (fun h => by cases h), hS⟩
set_option maxRecDepth 100000 in
theorem opt_of_trod {fuel : Nat} {cs : List Value} {x : DataW H × List MemPlace} (h : DataW.trod enc Tryz.prog w base (fun _ => true) held fuel 39 cs = some x) : ∃ o : OpT, cs = o.cells ∧ o.ok w := by
  obtain ⟨xs, n, _, _, hlen, hxl, hf⟩ := DataW.trod_struct Tryz.underlying39 h
  rw [show Tryz.prog.cellsOf 39 = 4 by kernel_rfl] at hlen
  match cs, hlen with
  | [c0, c1, c2, c3], _ =>
    have ex : ∀ i, i < xs.length → xs[i]? = some (xs[i]!) := fun i hi => by
      rw [List.getElem?_eq_getElem hi, List.getElem!_eq_getElem?_getD, List.getElem?_eq_getElem hi]; rfl
    have hx4 : xs.length = 4 := hxl
    have ku : Tryz.prog.cellsOf 5 = 1 := by kernel_rfl
    have ki : Tryz.prog.cellsOf 3 = 1 := by kernel_rfl
    have ks : Tryz.prog.cellsOf 32 = 1 := by kernel_rfl
    have f0 := (hf 0 _ rfl).trans (ex 0 (by omega))
    have f1 := (hf 1 _ rfl).trans (ex 1 (by omega))
    have f2 := (hf 2 _ rfl).trans (ex 2 (by omega))
    have f3 := (hf 3 _ rfl).trans (ex 3 (by omega))
    obtain ⟨n0, e0, _, w0⟩ := DataW.trod_int Tryz.underlying5 f0
    obtain ⟨A, m, c, l, e1, hm, hc, hcm, hnil, hS⟩ := bytes_of_trod f1
    obtain ⟨n2, e2, _, w2⟩ := DataW.trod_int Tryz.underlying3 f2
    obtain ⟨n3, e3, _, w3⟩ := DataW.trod_int Tryz.underlying3 f3
    simp [ku] at e0
    simp [ki] at e2 e3
    simp [ks] at e1
    obtain ⟨a1, a2⟩ := twf64 w2
    obtain ⟨a3, a4⟩ := twf64 w3
    obtain ⟨b2, b3⟩ := twfu8 w0
    refine ⟨⟨n0, A, m, c, l, n2, n3⟩, ?_, ⟨b2, b3, hm, hc, hcm, hnil, hS, a1, a2, a3, a4⟩⟩
    simp only [OpT.cells]
    rw [e0, e1, e2, e3]

set_option maxRecDepth 100000 in
theorem open_opsT {W : World} {v : Value} {d : DataW H} {p : List MemPlace} (hok : Value.okWide Tryz.prog W .any base 22 v)
    (h : DataW.Trod enc Tryz.prog W 0 (fun _ => true) true 22 v d p) :
    ∃ A n c l, v = .slice A n c ∧ n = (l : List OpT).length ∧ n ≤ maxLen ∧ (∀ o ∈ l, o.ok W) ∧ Sl W W.heap.size A (otc l) := by
  obtain ⟨a0, len, cap, rfl⟩ := okWide_slice Tryz.underlying22 hok
  obtain ⟨fuel, hf⟩ := h
  rcases open_slice Tryz.underlying22 hf with ⟨hcs, _⟩ | ⟨a, len', cap', m, n', D, Pl, hcs, hb, hl, hm, hmm, hx, hi⟩
  · simp [Value.cells] at hcs
    obtain ⟨rfl, rfl, rfl⟩ := hcs
    exact ⟨none, 0, 0, [], rfl, rfl, by simp [maxLen], by simp, .inl rfl⟩
  · simp [Value.cells] at hcs
    obtain ⟨rfl, rfl, rfl⟩ := hcs
    simp at hmm
    subst hmm
    rw [show Tryz.prog.cellsOf 39 = 4 by kernel_rfl] at hi
    have key : ∀ k, k ≤ len → ∃ l : List OpT, l.length = k ∧ (∀ o ∈ l, o.ok W) ∧ ∀ j u, (otc l)[j]? = some u → W.cell? (a.add j) = some u := by
      intro k
      induction k with
      | zero => intro _; exact ⟨[], rfl, by simp, by simp [otc]⟩
      | succ k ih =>
        intro hk
        obtain ⟨l, h1, h2, h3⟩ := ih (by omega)
        obtain ⟨cs', hc, ht⟩ := hi k (by omega)
        obtain ⟨_, hcl, hat⟩ := World.cells?_some hc
        obtain ⟨o, rfl, ho⟩ := opt_of_trod ht
        refine ⟨l ++ [o], by simp [h1], fun q hq => ?_, fun j u hu => ?_⟩
        · rcases List.mem_append.1 hq with hq | hq
          · exact h2 q hq
          · simp at hq; subst hq; exact ho
        · have e : otc (l ++ [o]) = otc l ++ o.cells := by simp [otc]
          rw [e] at hu
          have hol := otc_length l
          by_cases hj : j < (otc l).length
          · rw [List.getElem?_append_left hj] at hu
            exact h3 j u hu
          · rw [List.getElem?_append_right (by omega)] at hu
            have hjl := (List.getElem?_eq_some_iff.1 hu).1
            rw [OpT.len] at hjl
            have := hat (j - (otc l).length) hjl
            rw [hu, add_add, hol, h1] at this
            rw [show k * 4 + (j - k * 4) = j by omega] at this
            exact this
    obtain ⟨l, h1, h2, h3⟩ := key len (Nat.le_refl _)
    refine ⟨some a, len, _, l, rfl, h1.symm, Nat.le_trans hl hm, h2, ?_⟩
    rcases Nat.eq_zero_or_pos len with h0 | h0
    · subst h0
      have : l = [] := List.eq_nil_of_length_eq_zero h1
      subst this
      exact .inl rfl
    · obtain ⟨b, off, spot⟩ := a
      have hlen : 0 < (otc l).length := by rw [otc_length]; omega
      have hc0 := h3 0 _ (List.getElem?_eq_getElem hlen)
      have hspot : spot = none := by simpa [Addr.add] using World.cell?_spot hc0
      subst hspot
      have hc : ∀ j u, (otc l)[j]? = some u → W.cell? ⟨b, off + j, none⟩ = some u := fun j u hu => by
        have := h3 j u hu
        rwa [Addr.add_mid] at this
      exact .inr ⟨b, off, rfl, World.block_lt_of_cell? W ⟨b, off + 0, none⟩ (hc 0 _ (List.getElem?_eq_getElem hlen)), hc⟩
end
end Go.Proofs.YtfmkeeaenjeneaaGreatDoor

namespace Go.Proofs.YtfmkeeaenjeneaaGreatDoor
open Go.ChangeShapes Go.WideShapes Go.ChangeAt Go.RowKit
set_option linter.unusedVariables false
set_option linter.unusedSimpArgs false

theorem str_eta (s : ByteArray) : s = ⟨s.data.toList.toArray⟩ := by
  apply ByteArray.ext; simp
set_option maxRecDepth 100000 in
theorem blank_cells {W : World} {fuel : Nat} {cs : List Value} {p : List MemPlace} (h : DataW.trod (fun _ => ()) Tryz.prog W 0 (fun _ => true) false fuel 83 cs = some ((Rows.laid_placard_grid_blank : DataW Unit), p)) : cs = bl.cells := by
  obtain ⟨xs, n, _, hx, hlen, hxl, hf⟩ := DataW.trod_struct Tryz.underlying83 h
  rw [show Tryz.prog.cellsOf 83 = 7 by kernel_rfl] at hlen
  have kb : Tryz.prog.cellsOf 4 = 1 := by kernel_rfl
  have ki : Tryz.prog.cellsOf 3 = 1 := by kernel_rfl
  have ks : Tryz.prog.cellsOf 9 = 1 := by kernel_rfl
  have ky : Tryz.prog.cellsOf 31 = 5 := by kernel_rfl
  match cs, hlen with
  | [c0, c1, c2, c3, c4, c5, c6], _ =>
    match xs, hxl with
    | [x0, x1, x2], _ =>
      have f0 := hf 0 _ rfl
      have f1 := hf 1 _ rfl
      have f2 := hf 2 _ rfl
      simp only [List.getElem?_cons_zero, List.getElem?_cons_succ] at f0 f1 f2
      simp only [Rows.laid_placard_grid_blank, Prod.mk.injEq, DataW.agg.injEq, List.map_cons, List.map_nil, List.cons.injEq, and_true] at hx
      obtain ⟨⟨g0, g1, g2⟩, _⟩ := hx
      obtain ⟨s0, e0, z0, _⟩ := DataW.trod_string Tryz.underlying9 f0
      obtain ⟨n1, e1, z1, _⟩ := DataW.trod_int Tryz.underlying3 f1
      obtain ⟨ys, n', _, hy, hlen2, hyl, hf2⟩ := DataW.trod_struct Tryz.underlying31 f2
      match ys, hyl with
      | [y0, y1, y2, y3, y4], _ =>
        have k0 := hf2 0 _ rfl
        have k1 := hf2 1 _ rfl
        have k2 := hf2 2 _ rfl
        have k3 := hf2 3 _ rfl
        have k4 := hf2 4 _ rfl
        simp only [List.getElem?_cons_zero, List.getElem?_cons_succ] at k0 k1 k2 k3 k4
        rw [hy] at g2
        simp only [DataW.agg.injEq, List.map_cons, List.map_nil, List.cons.injEq, and_true] at g2
        obtain ⟨a0, a1, a2, a3, a4⟩ := g2
        obtain ⟨b0, e2, w0⟩ := DataW.trod_bool Tryz.underlying4 k0
        obtain ⟨b1, e3, w1⟩ := DataW.trod_bool Tryz.underlying4 k1
        obtain ⟨b2, e4, w2⟩ := DataW.trod_bool Tryz.underlying4 k2
        obtain ⟨m3, e5, w3, _⟩ := DataW.trod_int Tryz.underlying3 k3
        obtain ⟨m4, e6, w4, _⟩ := DataW.trod_int Tryz.underlying3 k4
        rw [w0] at a0; rw [w1] at a1; rw [w2] at a2; rw [w3] at a3; rw [w4] at a4; rw [z0] at g0; rw [z1] at g1
        simp at a0 a1 a2 a3 a4 g0 g1
        simp [kb, ki, ks, ky] at e0 e1 e2 e3 e4 e5 e6
        have hs := str_eta s0
        rw [← g0] at hs
        subst hs

        rw [e0, e1, e2, e3, e4, e5, e6]
        rw [a0, a1, a2, ← a3, ← a4, ← g1]
        rfl

def flatI (T : List (Int × Int)) : List Int := T.flatMap fun x => [x.1, x.2]
theorem flatI_map (T : List (Int × Int)) : (flatI T).map (Value.int .i32) = flatT T := by
  induction T with
  | nil => rfl
  | cons x T ih =>
    have e1 : flatI (x :: T) = x.1 :: x.2 :: flatI T := rfl
    have e2 : flatT (x :: T) = .int .i32 x.1 :: .int .i32 x.2 :: flatT T := rfl
    rw [e1, e2, ← ih]
    rfl
theorem Tab.of_cells {W : World} {g : Nat} {T : List (Int × Int)} (h : ∀ i, W.cell? ⟨g, i, none⟩ = ((flatI T).map fun z => Value.int .i32 z)[i]?) : Tab W g T := by
  intro k x hx
  have h1 := h (2 * k)
  have h2 := h (2 * k + 1)
  have e : ((flatI T).map fun z => Value.int .i32 z) = flatT T := flatI_map T
  rw [e] at h1 h2
  have h3 := flatT_get T k x hx
  exact ⟨h1.trans h3.1, h2.trans h3.2⟩
theorem cell_block {w : World} {b o : Nat} {v : Value} (h : w.cell? ⟨b, o, none⟩ = some v) : b < w.heap.size := by
  rcases Nat.lt_or_ge b w.heap.size with h' | h'
  · exact h'
  · simp [World.cell?, Array.getElem?_eq_none h'] at h

theorem mk_data : (Rows.laid_placard_width_marks : DataW Unit) = Lib.tabData .i32 (flatI mkT) := rfl
theorem wd_data : (Rows.laid_placard_width_wides : DataW Unit) = Lib.tabData .i32 (flatI wdT) := rfl

theorem tabs_of {W : World} (hm : Tab W 2 mkT) (hw : Tab W 1 wdT) : Tabs W :=
  ⟨hm, hw, cell_block (hm 0 _ rfl).1, cell_block (hw 0 _ rfl).1⟩


set_option maxRecDepth 100000 in
theorem factsS_of_laid {W : World} (h : laidMetH Tryz.prog Rows.termRunsRow.laid W) : BlankT W ∧ Tabs W := by
  rw [MakeChecks.laidMetH_plain _ _ _ (by kernel_rfl)] at h
  obtain ⟨ps, hl, _⟩ := h
  obtain ⟨_, _, _, _, _, q1, _, _, _, _, hl1, _⟩ := hl
  obtain ⟨h1, q, hr⟩ := laidVar_tab (g := 2) (t := 189) (e := 21) (n := 56) (k := .i32) (zs := flatI mkT) (by kernel_rfl) (by kernel_rfl) (by kernel_rfl) (by kernel_rfl) (by kernel_rfl) (by kernel_rfl) mk_data hl1
  obtain ⟨h2, q2, hl2⟩ := laidVar_tab (g := 1) (t := 187) (e := 21) (n := 102) (k := .i32) (zs := flatI wdT) (by kernel_rfl) (by kernel_rfl) (by kernel_rfl) (by kernel_rfl) (by kernel_rfl) (by kernel_rfl) wd_data hr
  refine ⟨?_, tabs_of (Tab.of_cells h1) (Tab.of_cells h2)⟩
  obtain ⟨g, t, cs, fuel, p, q, hg, ht, hvar, hd, _, _⟩ := hl2
  have hgn : Tryz.prog.globalNamed "placard/grid.blank" = some 0 := by kernel_rfl
  obtain rfl : g = 0 := Option.some.inj (hg.symm.trans hgn)
  have htn : (Tryz.prog.globals[0]?).map (·.type) = some 83 := by kernel_rfl
  obtain rfl : t = 83 := Option.some.inj (ht.symm.trans htn)
  have hc := blank_cells hd
  have hcell : ∀ i, W.cell? ⟨0, i, none⟩ = bl.cells[i]? := fun i => by
    rw [World.var?_cell hgn hvar i, ← hc]
    simp
  refine ⟨fun j v hv => by rw [Nat.zero_add, hcell]; exact hv, cell_lt (o := 0) (v := .string ⟨#[32]⟩) ?_⟩
  rw [hcell]
  rfl

/-- The heap that holds what the rows list meets the condition. -/
theorem termS_met (os : Os) (args : Array Value) : laidMetH Tryz.prog Rows.termRunsRow.laid ((World.laidAll Tryz.prog os Rows.termRunsRow.laid).forCall (fun _ _ => 0) ⟨#[], args, []⟩).memory := by
  rw [MakeChecks.laidMetH_plain _ _ _ (by kernel_rfl)]
  exact laidMet_laidAll _ (by kernel_rfl) (by kernel_rfl)
end Go.Proofs.YtfmkeeaenjeneaaGreatDoor

