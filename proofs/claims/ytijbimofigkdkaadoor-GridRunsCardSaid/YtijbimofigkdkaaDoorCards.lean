/-
  DERIVED. GIVEN WITH THE SEED: THE CARDS: each row of YtijbimofigkdkaaDoorRows.lean that lists a variable, with what it lists TIED to the program's text (the seventh form; the later family's looks); each row that meets fmt, with fmt's text TOLD by the authors' own Lean function (tested against real Go, not proved from fmt's source: count such statements apart). THE CARD IS WHAT COUNTS. Prove the row's statement (the work); the ties are given (YtijbimofigkdkaaDoorTie.lean); close each card by the builder's one call (the guide's Derived/Test/ToyasCard.lean, 'card_holds'). Laid BY PROGRAM, IN A SANDBOX (cutbox-door.mjs). By AI agents, Wed Nov 11 2026. No macro, syntax, notation, axiom, sorry.
-/
import Derived.Test.YtijbimofigkdkaaDoorRows
import GoSem.ClaimSeven
namespace Go.Proofs.YtijbimofigkdkaaDoor
namespace Rows

/-- THE TIED CARD OF 'placardlaw04.GridRuns'. -/
def gridRunsCard : Claim7 := { stood := { row := gridRunsRow, standIns := [], harness := (true, "e002febc30e5487181d920642d32e4a3c2e9ff10c1b23a2399472e26d2bf2a4a"), looks := false }, kinds := [], alts := [], laidByText := true, laidKinds := [.data, .data, .pinned], laidTests := true, laidLooks := .later }
def GridRunsCardSaid : Prop := Claim7.holds Tryd.pinned (.plain (OpenSpec.ofChange gridRunsSpec)) gridRunsCard

/-- THE TIED CARD OF 'placardlaw04.GridPuts'. -/
def gridPutsCard : Claim7 := { stood := { row := gridPutsRow, standIns := [], harness := (true, "e002febc30e5487181d920642d32e4a3c2e9ff10c1b23a2399472e26d2bf2a4a"), looks := false }, kinds := [], alts := [], laidByText := true, laidKinds := [.data, .data, .pinned], laidTests := true, laidLooks := .later }
def GridPutsCardSaid : Prop := Claim7.holds Tryd.pinned (.plain (OpenSpec.ofChange gridPutsSpec)) gridPutsCard

/-- THE TIED CARD OF 'placardlaw04.GridYields'. -/
def gridYieldsCard : Claim7 := { stood := { row := gridYieldsRow, standIns := [], harness := (true, "e002febc30e5487181d920642d32e4a3c2e9ff10c1b23a2399472e26d2bf2a4a"), looks := false }, kinds := [], alts := [], laidByText := true, laidKinds := [.data, .data, .pinned], laidTests := true, laidLooks := .later }
def GridYieldsCardSaid : Prop := Claim7.holds Tryd.pinned (.plain (OpenSpec.ofChange gridYieldsSpec)) gridYieldsCard

/-- THE TIED CARD OF 'placardlaw04.GridNobody'. -/
def gridNobodyCard : Claim7 := { stood := { row := gridNobodyRow, standIns := [], harness := (true, "e002febc30e5487181d920642d32e4a3c2e9ff10c1b23a2399472e26d2bf2a4a"), looks := false }, kinds := [], alts := [], laidByText := true, laidKinds := [.data, .data, .pinned], laidTests := true, laidLooks := .later }
def GridNobodyCardSaid : Prop := Claim7.holds Tryd.pinned (.plain (OpenSpec.ofChange gridNobodySpec)) gridNobodyCard

/-- THE SECOND FORM's CARD OF 'placardlaw04.GridRuns'. -/
def gridRunsUptoCard : Claim7 := { stood := { row := gridRunsUptoRow, standIns := [], harness := (true, "e002febc30e5487181d920642d32e4a3c2e9ff10c1b23a2399472e26d2bf2a4a"), looks := false }, kinds := [], alts := [], laidByText := true, laidKinds := [.data, .data, .pinned], laidTests := true, laidLooks := .later }
def GridRunsUptoCardSaid : Prop := Claim7.holds Tryd.pinned (.plain (OpenSpec.upto gridRunsSpec)) gridRunsUptoCard

/-- THE SECOND FORM's CARD OF 'placardlaw04.GridPuts'. -/
def gridPutsUptoCard : Claim7 := { stood := { row := gridPutsUptoRow, standIns := [], harness := (true, "e002febc30e5487181d920642d32e4a3c2e9ff10c1b23a2399472e26d2bf2a4a"), looks := false }, kinds := [], alts := [], laidByText := true, laidKinds := [.data, .data, .pinned], laidTests := true, laidLooks := .later }
def GridPutsUptoCardSaid : Prop := Claim7.holds Tryd.pinned (.plain (OpenSpec.upto gridPutsSpec)) gridPutsUptoCard

/-- THE SECOND FORM's CARD OF 'placardlaw04.GridYields'. -/
def gridYieldsUptoCard : Claim7 := { stood := { row := gridYieldsUptoRow, standIns := [], harness := (true, "e002febc30e5487181d920642d32e4a3c2e9ff10c1b23a2399472e26d2bf2a4a"), looks := false }, kinds := [], alts := [], laidByText := true, laidKinds := [.data, .data, .pinned], laidTests := true, laidLooks := .later }
def GridYieldsUptoCardSaid : Prop := Claim7.holds Tryd.pinned (.plain (OpenSpec.upto gridYieldsSpec)) gridYieldsUptoCard

/-- THE SECOND FORM's CARD OF 'placardlaw04.GridNobody'. -/
def gridNobodyUptoCard : Claim7 := { stood := { row := gridNobodyUptoRow, standIns := [], harness := (true, "e002febc30e5487181d920642d32e4a3c2e9ff10c1b23a2399472e26d2bf2a4a"), looks := false }, kinds := [], alts := [], laidByText := true, laidKinds := [.data, .data, .pinned], laidTests := true, laidLooks := .later }
def GridNobodyUptoCardSaid : Prop := Claim7.holds Tryd.pinned (.plain (OpenSpec.upto gridNobodySpec)) gridNobodyUptoCard
end Rows
end Go.Proofs.YtijbimofigkdkaaDoor
