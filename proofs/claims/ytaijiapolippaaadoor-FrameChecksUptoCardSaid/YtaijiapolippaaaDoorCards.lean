/-
  DERIVED. GIVEN WITH THE SEED: THE CARDS: each row of YtaijiapolippaaaDoorRows.lean that lists a variable, with what it lists TIED to the program's text (the seventh form; the later family's looks); each row that meets fmt, with fmt's text TOLD by the authors' own Lean function (tested against real Go, not proved from fmt's source: count such statements apart). THE CARD IS WHAT COUNTS. Prove the row's statement (the work); the ties are given (YtaijiapolippaaaDoorTie.lean); close each card by the builder's one call (the guide's Derived/Test/ToyasCard.lean, 'card_holds'). Laid BY PROGRAM, IN A SANDBOX (cutbox-door.mjs). By AI agents, Wed Nov 11 2026. No macro, syntax, notation, axiom, sorry.
-/
import Derived.Test.YtaijiapolippaaaDoorRows
import GoSem.ClaimSeven
namespace Go.Proofs.YtaijiapolippaaaDoor
namespace Rows

/-- THE TIED CARD OF 'placardlaw07.KeyinPastes'. -/
def keyinPastesCard : Claim7 := { stood := { row := keyinPastesRow, standIns := [], harness := (true, "3848f446de627f5f72a49ccdb0fa1aeeaa56e6dd07ce9ec5c4d0551f4b4b965b"), looks := true }, kinds := [], alts := [], laidByText := true, laidKinds := [.data, .data, .data, .data, .data, .pinned], laidTests := true, laidLooks := .later }
def KeyinPastesCardSaid : Prop := Claim7.holds Tryd.pinned (.plain (OpenSpec.ofChange keyinPastesSpec)) keyinPastesCard

/-- THE TIED CARD OF 'placardlaw08.KeymapRuns'. -/
def keymapRunsCard : Claim7 := { stood := { row := keymapRunsRow, standIns := [], harness := (true, "3848f446de627f5f72a49ccdb0fa1aeeaa56e6dd07ce9ec5c4d0551f4b4b965b"), looks := true }, kinds := [], alts := [], laidByText := true, laidKinds := [.data, .data, .data, .listed, .data, .data, .data, .data], laidTests := true, laidLooks := .later }
def KeymapRunsCardSaid : Prop := Claim7.holds Tryd.pinned (.plain (OpenSpec.ofChange keymapRunsSpec)) keymapRunsCard

/-- THE TIED CARD OF 'placardlaw09.FrameChecks'. -/
def frameChecksCard : Claim7 := { stood := { row := frameChecksRow, standIns := [], harness := (true, "3848f446de627f5f72a49ccdb0fa1aeeaa56e6dd07ce9ec5c4d0551f4b4b965b"), looks := true }, kinds := [], alts := [], laidByText := true, laidKinds := [.data, .data, .data], laidTests := true, laidLooks := .later }
def FrameChecksCardSaid : Prop := Claim7.holds Tryd.pinned (.plain (OpenSpec.ofChange frameChecksSpec)) frameChecksCard

/-- THE SECOND FORM's CARD OF 'placardlaw07.KeyinPastes'. -/
def keyinPastesUptoCard : Claim7 := { stood := { row := keyinPastesUptoRow, standIns := [], harness := (true, "3848f446de627f5f72a49ccdb0fa1aeeaa56e6dd07ce9ec5c4d0551f4b4b965b"), looks := true }, kinds := [], alts := [], laidByText := true, laidKinds := [.data, .data, .data, .data, .data, .pinned], laidTests := true, laidLooks := .later }
def KeyinPastesUptoCardSaid : Prop := Claim7.holds Tryd.pinned (.plain (OpenSpec.upto keyinPastesSpec)) keyinPastesUptoCard

/-- THE SECOND FORM's CARD OF 'placardlaw08.KeymapRuns'. -/
def keymapRunsUptoCard : Claim7 := { stood := { row := keymapRunsUptoRow, standIns := [], harness := (true, "3848f446de627f5f72a49ccdb0fa1aeeaa56e6dd07ce9ec5c4d0551f4b4b965b"), looks := true }, kinds := [], alts := [], laidByText := true, laidKinds := [.data, .data, .data, .listed, .data, .data, .data, .data], laidTests := true, laidLooks := .later }
def KeymapRunsUptoCardSaid : Prop := Claim7.holds Tryd.pinned (.plain (OpenSpec.upto keymapRunsSpec)) keymapRunsUptoCard

/-- THE SECOND FORM's CARD OF 'placardlaw09.FrameChecks'. -/
def frameChecksUptoCard : Claim7 := { stood := { row := frameChecksUptoRow, standIns := [], harness := (true, "3848f446de627f5f72a49ccdb0fa1aeeaa56e6dd07ce9ec5c4d0551f4b4b965b"), looks := true }, kinds := [], alts := [], laidByText := true, laidKinds := [.data, .data, .data], laidTests := true, laidLooks := .later }
def FrameChecksUptoCardSaid : Prop := Claim7.holds Tryd.pinned (.plain (OpenSpec.upto frameChecksSpec)) frameChecksUptoCard
end Rows
end Go.Proofs.YtaijiapolippaaaDoor
