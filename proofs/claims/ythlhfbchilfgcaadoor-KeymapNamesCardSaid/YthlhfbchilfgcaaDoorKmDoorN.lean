/-
  What the row of KeymapNames lists: the tables, and the library's two errors.
-/
import Derived.Test.YthlhfbchilfgcaaDoorKmDoor
import Derived.Test.YthlhfbchilfgcaaDoorKmRead
namespace Go.Proofs.YthlhfbchilfgcaaDoor
open Go.ChangeShapes Go.WideShapes Go.ChangeAt Go.RowKit
set_option linter.unusedVariables false

/-- a variable of an interface's type holds nil or a value -/
theorem iface_of_trod {H : Type} {enc : TypeId × Value → H} {P : Program} {w : World} {base : Nat} {sp : Nat → Bool} {held : Bool} {fuel : Nat} {t : TypeId} {m : Array (String × TypeId)} {cs : List Value} {d : DataW H} {p : List MemPlace}
    (ht : P.underlying t = some (.interface m)) (h : DataW.trod enc P w base sp held fuel t cs = some (d, p)) : ∃ v, cs = [v] ∧ (v = .nilIface ∨ ∃ te pe, v = .iface te pe) := by
  cases fuel with
  | zero => simp [DataW.trod] at h
  | succ fuel =>
    unfold DataW.trod at h
    rw [ht] at h
    split at h <;> first | (exact ⟨_, rfl, .inl rfl⟩) | (exact ⟨_, rfl, .inr ⟨_, _, rfl⟩⟩) | (cases h; done) | (simp_all; done)
set_option maxRecDepth 100000 in
theorem kmN_of_laid {W : World} (h : laidMetH Tryd.prog Rows.keymapNamesRow.laid W) : KmT W ∧ NumT W := by
  rw [MakeChecks.laidMetH_plain _ _ _ (by kernel_rfl)] at h
  obtain ⟨ps, hl, _⟩ := h
  obtain ⟨_, _, _, _, _, q1, _, _, _, _, hl2, _⟩ := hl
  obtain ⟨_, _, _, _, _, q2, _, _, _, _, hl3, _⟩ := hl2
  obtain ⟨_, _, _, _, _, q3, _, _, _, _, hl4, _⟩ := hl3
  obtain ⟨ga, ta, ca, fa, pa, qa, hga, hta, hva, hda, hla, _⟩ := hl4
  obtain ⟨gb, tb, cb, fb, pb, qb, hgb, htb, hvb, hdb, hlb, _⟩ := hla
  obtain ⟨_, _, _, _, _, q4, _, _, _, _, hl5, _⟩ := hlb
  obtain ⟨g5, t5, c5, f5, p5, q5, hg5, ht5, hv5, hd5, hl6, _⟩ := hl5
  obtain ⟨g6, t6, c6, f6, p6, q6, hg6, ht6, hv6, hd6, hl7, _⟩ := hl6
  obtain ⟨g7, t7, c7, f7, p7, q7, hg7, ht7, hv7, hd7, hl8, _⟩ := hl7
  obtain ⟨g8, t8, c8, f8, p8, q8, hg8, ht8, hv8, hd8, _, _⟩ := hl8
  have ka : Tryd.prog.globalNamed "strconv.ErrRange" = some 6 := by kernel_rfl
  have kb : Tryd.prog.globalNamed "strconv.ErrSyntax" = some 5 := by kernel_rfl
  have ya : (Tryd.prog.globals[6]?).map (·.type) = some 93 := by kernel_rfl
  have yb : (Tryd.prog.globals[5]?).map (·.type) = some 93 := by kernel_rfl
  obtain rfl := Option.some.inj (ka.symm.trans hga)
  obtain rfl := Option.some.inj (kb.symm.trans hgb)
  obtain rfl := Option.some.inj (ya.symm.trans hta)
  obtain rfl := Option.some.inj (yb.symm.trans htb)
  obtain ⟨va, hca, hia⟩ := iface_of_trod Tryd.underlying93 hda
  obtain ⟨vb, hcb, hib⟩ := iface_of_trod Tryd.underlying93 hdb
  have hN : NumT W := by
    refine ⟨⟨vb, ?_, hib⟩, ⟨va, ?_, hia⟩⟩
    · have := World.var?_cell kb hvb 0
      rw [this, ← Array.getElem?_toList, hcb]
      rfl
    · have := World.var?_cell ka hva 0
      rw [this, ← Array.getElem?_toList, hca]
      rfl
  have k5 : Tryd.prog.globalNamed "strings.asciiSpace" = some 3 := by kernel_rfl
  have k6 : Tryd.prog.globalNamed "placard/keymap.words" = some 1 := by kernel_rfl
  have k7 : Tryd.prog.globalNamed "placard/keymap.names" = some 2 := by kernel_rfl
  have k8 : Tryd.prog.globalNamed "placard/keymap.usual" = some 0 := by kernel_rfl
  have y5 : (Tryd.prog.globals[3]?).map (·.type) = some 97 := by kernel_rfl
  have y6 : (Tryd.prog.globals[1]?).map (·.type) = some 78 := by kernel_rfl
  have y7 : (Tryd.prog.globals[2]?).map (·.type) = some 96 := by kernel_rfl
  have y8 : (Tryd.prog.globals[0]?).map (·.type) = some 78 := by kernel_rfl
  obtain rfl := Option.some.inj (k5.symm.trans hg5)
  obtain rfl := Option.some.inj (k6.symm.trans hg6)
  obtain rfl := Option.some.inj (k7.symm.trans hg7)
  obtain rfl := Option.some.inj (k8.symm.trans hg8)
  obtain rfl := Option.some.inj (y5.symm.trans ht5)
  obtain rfl := Option.some.inj (y6.symm.trans ht6)
  obtain rfl := Option.some.inj (y7.symm.trans ht7)
  obtain rfl := Option.some.inj (y8.symm.trans ht8)
  rw [space_data] at hd5
  rw [words_data] at hd6
  rw [names_data] at hd7
  rw [usual_data] at hd8
  have c6' := cells_of_strtab (by kernel_rfl : Tryd.prog.underlying 78 = some (.array 20 9)) Tryd.underlying9 (by kernel_rfl) (by kernel_rfl) hd6
  have c7' := cells_of_strtab (by kernel_rfl : Tryd.prog.underlying 96 = some (.array 17 9)) Tryd.underlying9 (by kernel_rfl) (by kernel_rfl) hd7
  have c8' := cells_of_strtab (by kernel_rfl : Tryd.prog.underlying 78 = some (.array 20 9)) Tryd.underlying9 (by kernel_rfl) (by kernel_rfl) hd8
  refine ⟨⟨strT_of k7 hv7 c7', strT_of k6 hv6 c6', strT_of k8 hv8 c8', ?_⟩, hN⟩
  unfold Lib.TabIs
  rw [hv5, ← Lib.cells_of_tab (t := 97) (e := 5) (n := 256) (by kernel_rfl) (by kernel_rfl) (by kernel_rfl) (by kernel_rfl) hd5]


/-- The heap that holds what the row lists meets the condition. -/
theorem keymapN_met (os : Os) (args : Array Value) : laidMetH Tryd.prog Rows.keymapNamesRow.laid ((World.laidAll Tryd.prog os Rows.keymapNamesRow.laid).forCall (fun _ _ => 0) ⟨#[], args, []⟩).memory := by
  rw [MakeChecks.laidMetH_plain _ _ _ (by kernel_rfl)]
  exact laidMet_laidAll _ (by kernel_rfl) (by kernel_rfl)
end Go.Proofs.YthlhfbchilfgcaaDoor
