/-
  DERIVED. GIVEN WITH THE SEED: THE CARDS: each row of YteolafeeggjblaaDoorRows.lean that lists a variable, with what it lists TIED to the program's text (the seventh form; the later family's looks); each row that meets fmt, with fmt's text TOLD by the authors' own Lean function (tested against real Go, not proved from fmt's source: count such statements apart). THE CARD IS WHAT COUNTS. Prove the row's statement (the work); the ties are given (YteolafeeggjblaaDoorTie.lean); close each card by the builder's one call (the guide's Derived/Test/ToyasCard.lean, 'card_holds'). Laid BY PROGRAM, IN A SANDBOX (cutbox-door.mjs). By AI agents, Wed Nov 11 2026. No macro, syntax, notation, axiom, sorry.
-/
import Derived.Test.YteolafeeggjblaaDoorRows
import GoSem.ClaimSeven
namespace Go.Proofs.YteolafeeggjblaaDoor
namespace Rows

/-- THE TIED CARD OF 'placardlaw07.KeyinPieces'. -/
def keyinPiecesCard : Claim7 := { stood := { row := keyinPiecesRow, standIns := [], harness := (true, "13a09f66c63378b72a63b3ad7b18baa7dba21ecea4311cf377126a2699b032b4"), looks := false }, kinds := [], alts := [], laidByText := true, laidKinds := [.data, .data, .data, .data, .data, .pinned], laidTests := true, laidLooks := .later }
def KeyinPiecesCardSaid : Prop := Claim7.holds Tryd.pinned (.plain (OpenSpec.ofChange keyinPiecesSpec)) keyinPiecesCard

/-- THE TIED CARD OF 'placardlaw07.KeyinPastes'. -/
def keyinPastesCard : Claim7 := { stood := { row := keyinPastesRow, standIns := [], harness := (true, "13a09f66c63378b72a63b3ad7b18baa7dba21ecea4311cf377126a2699b032b4"), looks := false }, kinds := [], alts := [], laidByText := true, laidKinds := [.data, .data, .data, .data, .data, .pinned], laidTests := true, laidLooks := .later }
def KeyinPastesCardSaid : Prop := Claim7.holds Tryd.pinned (.plain (OpenSpec.ofChange keyinPastesSpec)) keyinPastesCard

/-- THE TIED CARD OF 'placardlaw07.KeyinNames'. -/
def keyinNamesCard : Claim7 := { stood := { row := keyinNamesRow, standIns := [], harness := (true, "13a09f66c63378b72a63b3ad7b18baa7dba21ecea4311cf377126a2699b032b4"), looks := false }, kinds := [], alts := [], laidByText := true, laidKinds := [.data, .data, .data, .data, .data, .pinned], laidTests := true, laidLooks := .later }
def KeyinNamesCardSaid : Prop := Claim7.holds Tryd.pinned (.plain (OpenSpec.ofChange keyinNamesSpec)) keyinNamesCard

/-- THE SECOND FORM's CARD OF 'placardlaw07.KeyinPieces'. -/
def keyinPiecesUptoCard : Claim7 := { stood := { row := keyinPiecesUptoRow, standIns := [], harness := (true, "13a09f66c63378b72a63b3ad7b18baa7dba21ecea4311cf377126a2699b032b4"), looks := false }, kinds := [], alts := [], laidByText := true, laidKinds := [.data, .data, .data, .data, .data, .pinned], laidTests := true, laidLooks := .later }
def KeyinPiecesUptoCardSaid : Prop := Claim7.holds Tryd.pinned (.plain (OpenSpec.upto keyinPiecesSpec)) keyinPiecesUptoCard

/-- THE SECOND FORM's CARD OF 'placardlaw07.KeyinPastes'. -/
def keyinPastesUptoCard : Claim7 := { stood := { row := keyinPastesUptoRow, standIns := [], harness := (true, "13a09f66c63378b72a63b3ad7b18baa7dba21ecea4311cf377126a2699b032b4"), looks := false }, kinds := [], alts := [], laidByText := true, laidKinds := [.data, .data, .data, .data, .data, .pinned], laidTests := true, laidLooks := .later }
def KeyinPastesUptoCardSaid : Prop := Claim7.holds Tryd.pinned (.plain (OpenSpec.upto keyinPastesSpec)) keyinPastesUptoCard

/-- THE SECOND FORM's CARD OF 'placardlaw07.KeyinNames'. -/
def keyinNamesUptoCard : Claim7 := { stood := { row := keyinNamesUptoRow, standIns := [], harness := (true, "13a09f66c63378b72a63b3ad7b18baa7dba21ecea4311cf377126a2699b032b4"), looks := false }, kinds := [], alts := [], laidByText := true, laidKinds := [.data, .data, .data, .data, .data, .pinned], laidTests := true, laidLooks := .later }
def KeyinNamesUptoCardSaid : Prop := Claim7.holds Tryd.pinned (.plain (OpenSpec.upto keyinNamesSpec)) keyinNamesUptoCard
end Rows
end Go.Proofs.YteolafeeggjblaaDoor
