/-
  What the rows of layer 8 list: the tables of names, words, usual bindings and of white space, as the walks want them.
-/
import Derived.Test.YthlhfbchilfgcaaDoorLawD
import Derived.Test.YthlhfbchilfgcaaDoorKmMath
import Derived.Lay
namespace Go.Proofs.YthlhfbchilfgcaaDoor
open Go.ChangeShapes Go.WideShapes Go.ChangeAt Go.RowKit
set_option linter.unusedVariables false

/-- the cells of a table of texts -/
theorem cells_of_strtab {H : Type} {enc : TypeId × Value → H} {P : Program} {w : World} {base : Nat} {sp : Nat → Bool} {held : Bool} {fuel : Nat} {t e : TypeId} {n : Nat} {cs : List Value} {zs : List (List UInt8)} {p : List MemPlace}
    (ht : P.underlying t = some (.array n e)) (he : P.underlying e = some .string) (hce : P.cellsOf e = 1) (hct : P.cellsOf t = n)
    (h : DataW.trod enc P w base sp held fuel t cs = some (.agg (zs.map fun z => .lit (.string z)), p)) : cs = zs.map fun z => Value.string ⟨z.toArray⟩ := by
  cases fuel with
  | zero => simp [DataW.trod] at h
  | succ fuel =>
    simp only [DataW.trod, ht, hce, hct, Nat.mul_one] at h
    split at h
    · rename_i hl
      obtain ⟨xs, hm, hx⟩ := Option.map_eq_some_iff.1 h
      have hxs : xs.map (·.1) = zs.map fun z => (DataW.lit (.string z) : DataW H) := by
        have := congrArg Prod.fst hx
        simpa using this
      have hxl : xs.length = n := by simpa using Lib.mapM_length hm
      have hzl : zs.length = n := by
        have := congrArg List.length hxs
        simp at this
        omega
      apply List.ext_getElem?
      intro i
      by_cases hi : i < n
      · obtain ⟨b, hb, hf⟩ := Lib.mapM_at hm i i (by simp [hi])
        obtain ⟨z, hc, rfl, _⟩ := DataW.trod_string he hf
        have h1 : cs[i]? = some (.string z) := by
          have := congrArg (·[0]?) hc
          simpa [List.getElem?_take, List.getElem?_drop] using this
        have h2 : (xs.map (·.1))[i]? = some (DataW.lit (.string z.data.toList) : DataW H) := by simp [hb]
        rw [hxs] at h2
        simp only [List.getElem?_map, Option.map_eq_some_iff, DataW.lit.injEq, Lit.string.injEq] at h2
        obtain ⟨z', hz', rfl⟩ := h2
        rw [h1, List.getElem?_map, hz']
        rfl
      · rw [List.getElem?_eq_none (by omega), List.getElem?_eq_none (by simp; omega)]
    · cases h

theorem names_data : (Rows.laid_placard_keymap_names : DataW Unit) = .agg (nameT.map fun z => .lit (.string z)) := rfl
theorem words_data : (Rows.laid_placard_keymap_words : DataW Unit) = .agg (wordT.map fun z => .lit (.string z)) := rfl
theorem usual_data : (Rows.laid_placard_keymap_usual : DataW Unit) = .agg (usualT.map fun z => .lit (.string z)) := rfl
set_option maxRecDepth 100000 in
theorem space_data : (Rows.laid_strings_asciiSpace : DataW Unit) = Lib.tabData .u8 Lib.asciiSpaceTab := by kernel_rfl
theorem strT_of {W : World} {name : String} {g : Nat} {cs : Array Value} {T : List (List UInt8)} (hg : Tryd.prog.globalNamed name = some g) (hvar : World.var? Tryd.prog W name = some cs) (hc : cs.toList = T.map fun z => Value.string ⟨z.toArray⟩) : StrT W g T := by
  intro i hi
  have := World.var?_cell hg hvar i
  rw [this, ← Array.getElem?_toList, hc, List.getElem?_map, List.getElem?_eq_getElem hi, List.getD_eq_getElem?_getD, List.getElem?_eq_getElem hi]
  rfl

set_option maxRecDepth 100000 in
theorem kmT_of_laid {W : World} (h : laidMetH Tryd.prog Rows.keymapNobodyRow.laid W) : KmT W := by
  rw [MakeChecks.laidMetH_plain _ _ _ (by kernel_rfl)] at h
  obtain ⟨ps, hl, _⟩ := h
  obtain ⟨_, _, _, _, _, q1, _, _, _, _, hl2, _⟩ := hl
  obtain ⟨_, _, _, _, _, q2, _, _, _, _, hl3, _⟩ := hl2
  obtain ⟨_, _, _, _, _, q3, _, _, _, _, hl4, _⟩ := hl3
  obtain ⟨_, _, _, _, _, q4, _, _, _, _, hl5, _⟩ := hl4
  obtain ⟨g5, t5, c5, f5, p5, q5, hg5, ht5, hv5, hd5, hl6, _⟩ := hl5
  obtain ⟨g6, t6, c6, f6, p6, q6, hg6, ht6, hv6, hd6, hl7, _⟩ := hl6
  obtain ⟨g7, t7, c7, f7, p7, q7, hg7, ht7, hv7, hd7, hl8, _⟩ := hl7
  obtain ⟨g8, t8, c8, f8, p8, q8, hg8, ht8, hv8, hd8, _, _⟩ := hl8
  have k5 : Tryd.prog.globalNamed "strings.asciiSpace" = some 3 := by kernel_rfl
  have k6 : Tryd.prog.globalNamed "placard/keymap.words" = some 1 := by kernel_rfl
  have k7 : Tryd.prog.globalNamed "placard/keymap.names" = some 2 := by kernel_rfl
  have k8 : Tryd.prog.globalNamed "placard/keymap.usual" = some 0 := by kernel_rfl
  have y5 : (Tryd.prog.globals[3]?).map (·.type) = some 97 := by kernel_rfl
  have y6 : (Tryd.prog.globals[1]?).map (·.type) = some 78 := by kernel_rfl
  have y7 : (Tryd.prog.globals[2]?).map (·.type) = some 96 := by kernel_rfl
  have y8 : (Tryd.prog.globals[0]?).map (·.type) = some 78 := by kernel_rfl
  obtain rfl := Option.some.inj (k5.symm.trans hg5)
  obtain rfl := Option.some.inj (k6.symm.trans hg6)
  obtain rfl := Option.some.inj (k7.symm.trans hg7)
  obtain rfl := Option.some.inj (k8.symm.trans hg8)
  obtain rfl := Option.some.inj (y5.symm.trans ht5)
  obtain rfl := Option.some.inj (y6.symm.trans ht6)
  obtain rfl := Option.some.inj (y7.symm.trans ht7)
  obtain rfl := Option.some.inj (y8.symm.trans ht8)
  rw [space_data] at hd5
  rw [words_data] at hd6
  rw [names_data] at hd7
  rw [usual_data] at hd8
  have c6' := cells_of_strtab (by kernel_rfl : Tryd.prog.underlying 78 = some (.array 20 9)) Tryd.underlying9 (by kernel_rfl) (by kernel_rfl) hd6
  have c7' := cells_of_strtab (by kernel_rfl : Tryd.prog.underlying 96 = some (.array 17 9)) Tryd.underlying9 (by kernel_rfl) (by kernel_rfl) hd7
  have c8' := cells_of_strtab (by kernel_rfl : Tryd.prog.underlying 78 = some (.array 20 9)) Tryd.underlying9 (by kernel_rfl) (by kernel_rfl) hd8
  refine ⟨strT_of k7 hv7 c7', strT_of k6 hv6 c6', strT_of k8 hv8 c8', ?_⟩
  unfold Lib.TabIs
  rw [hv5, ← Lib.cells_of_tab (t := 97) (e := 5) (n := 256) (by kernel_rfl) (by kernel_rfl) (by kernel_rfl) (by kernel_rfl) hd5]

/-- The heap that holds what the rows list meets the condition. -/
theorem keymap_met (os : Os) (args : Array Value) : laidMetH Tryd.prog Rows.keymapNobodyRow.laid ((World.laidAll Tryd.prog os Rows.keymapNobodyRow.laid).forCall (fun _ _ => 0) ⟨#[], args, []⟩).memory := by
  rw [MakeChecks.laidMetH_plain _ _ _ (by kernel_rfl)]
  exact laidMet_laidAll _ (by kernel_rfl) (by kernel_rfl)
end Go.Proofs.YthlhfbchilfgcaaDoor
