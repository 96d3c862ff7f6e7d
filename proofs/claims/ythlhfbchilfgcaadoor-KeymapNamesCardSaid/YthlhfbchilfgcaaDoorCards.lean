/-
  DERIVED. GIVEN WITH THE SEED: THE CARDS: each row of YthlhfbchilfgcaaDoorRows.lean that lists a variable, with what it lists TIED to the program's text (the seventh form; the later family's looks); each row that meets fmt, with fmt's text TOLD by the authors' own Lean function (tested against real Go, not proved from fmt's source: count such statements apart). THE CARD IS WHAT COUNTS. Prove the row's statement (the work); the ties are given (YthlhfbchilfgcaaDoorTie.lean); close each card by the builder's one call (the guide's Derived/Test/ToyasCard.lean, 'card_holds'). Laid BY PROGRAM, IN A SANDBOX (cutbox-door.mjs). By AI agents, Wed Nov 11 2026. No macro, syntax, notation, axiom, sorry.
-/
import Derived.Test.YthlhfbchilfgcaaDoorRows
import GoSem.ClaimSeven
namespace Go.Proofs.YthlhfbchilfgcaaDoor
namespace Rows

/-- THE TIED CARD OF 'placardlaw08.KeymapNames'. -/
def keymapNamesCard : Claim7 := { stood := { row := keymapNamesRow, standIns := [], harness := (true, "d7d7e40996c37eb6e04ad04770451136d7338270d61e114577443bced73627bb"), looks := true }, kinds := [], alts := [], laidByText := true, laidKinds := [.data, .data, .data, .sentinel, .sentinel, .listed, .data, .data, .data, .data], laidTests := true, laidLooks := .later }
def KeymapNamesCardSaid : Prop := Claim7.holds Tryd.pinned (.plain (OpenSpec.ofChange keymapNamesSpec)) keymapNamesCard

/-- THE TIED CARD OF 'placardlaw08.KeymapRuns'. -/
def keymapRunsCard : Claim7 := { stood := { row := keymapRunsRow, standIns := [], harness := (true, "d7d7e40996c37eb6e04ad04770451136d7338270d61e114577443bced73627bb"), looks := true }, kinds := [], alts := [], laidByText := true, laidKinds := [.data, .data, .data, .listed, .data, .data, .data, .data], laidTests := true, laidLooks := .later }
def KeymapRunsCardSaid : Prop := Claim7.holds Tryd.pinned (.plain (OpenSpec.ofChange keymapRunsSpec)) keymapRunsCard

/-- THE TIED CARD OF 'placardlaw08.KeymapMany'. -/
def keymapManyCard : Claim7 := { stood := { row := keymapManyRow, standIns := [], harness := (true, "d7d7e40996c37eb6e04ad04770451136d7338270d61e114577443bced73627bb"), looks := true }, kinds := [], alts := [], laidByText := true, laidKinds := [.data, .data, .data, .listed, .data, .data, .data, .data], laidTests := true, laidLooks := .later }
def KeymapManyCardSaid : Prop := Claim7.holds Tryd.pinned (.plain (OpenSpec.ofChange keymapManySpec)) keymapManyCard

/-- THE TIED CARD OF 'placardlaw08.KeymapNobody'. -/
def keymapNobodyCard : Claim7 := { stood := { row := keymapNobodyRow, standIns := [], harness := (true, "d7d7e40996c37eb6e04ad04770451136d7338270d61e114577443bced73627bb"), looks := true }, kinds := [], alts := [], laidByText := true, laidKinds := [.data, .data, .data, .listed, .data, .data, .data, .data], laidTests := true, laidLooks := .later }
def KeymapNobodyCardSaid : Prop := Claim7.holds Tryd.pinned (.plain (OpenSpec.ofChange keymapNobodySpec)) keymapNobodyCard

/-- THE SECOND FORM's CARD OF 'placardlaw08.KeymapNames'. -/
def keymapNamesUptoCard : Claim7 := { stood := { row := keymapNamesUptoRow, standIns := [], harness := (true, "d7d7e40996c37eb6e04ad04770451136d7338270d61e114577443bced73627bb"), looks := true }, kinds := [], alts := [], laidByText := true, laidKinds := [.data, .data, .data, .sentinel, .sentinel, .listed, .data, .data, .data, .data], laidTests := true, laidLooks := .later }
def KeymapNamesUptoCardSaid : Prop := Claim7.holds Tryd.pinned (.plain (OpenSpec.upto keymapNamesSpec)) keymapNamesUptoCard

/-- THE SECOND FORM's CARD OF 'placardlaw08.KeymapRuns'. -/
def keymapRunsUptoCard : Claim7 := { stood := { row := keymapRunsUptoRow, standIns := [], harness := (true, "d7d7e40996c37eb6e04ad04770451136d7338270d61e114577443bced73627bb"), looks := true }, kinds := [], alts := [], laidByText := true, laidKinds := [.data, .data, .data, .listed, .data, .data, .data, .data], laidTests := true, laidLooks := .later }
def KeymapRunsUptoCardSaid : Prop := Claim7.holds Tryd.pinned (.plain (OpenSpec.upto keymapRunsSpec)) keymapRunsUptoCard

/-- THE SECOND FORM's CARD OF 'placardlaw08.KeymapMany'. -/
def keymapManyUptoCard : Claim7 := { stood := { row := keymapManyUptoRow, standIns := [], harness := (true, "d7d7e40996c37eb6e04ad04770451136d7338270d61e114577443bced73627bb"), looks := true }, kinds := [], alts := [], laidByText := true, laidKinds := [.data, .data, .data, .listed, .data, .data, .data, .data], laidTests := true, laidLooks := .later }
def KeymapManyUptoCardSaid : Prop := Claim7.holds Tryd.pinned (.plain (OpenSpec.upto keymapManySpec)) keymapManyUptoCard

/-- THE SECOND FORM's CARD OF 'placardlaw08.KeymapNobody'. -/
def keymapNobodyUptoCard : Claim7 := { stood := { row := keymapNobodyUptoRow, standIns := [], harness := (true, "d7d7e40996c37eb6e04ad04770451136d7338270d61e114577443bced73627bb"), looks := true }, kinds := [], alts := [], laidByText := true, laidKinds := [.data, .data, .data, .listed, .data, .data, .data, .data], laidTests := true, laidLooks := .later }
def KeymapNobodyUptoCardSaid : Prop := Claim7.holds Tryd.pinned (.plain (OpenSpec.upto keymapNobodySpec)) keymapNobodyUptoCard
end Rows
end Go.Proofs.YthlhfbchilfgcaaDoor
