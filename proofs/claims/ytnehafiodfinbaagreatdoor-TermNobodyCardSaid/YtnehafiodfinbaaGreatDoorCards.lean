/-
  DERIVED. GIVEN WITH THE SEED: THE CARDS: each row of YtnehafiodfinbaaGreatDoorRows.lean that lists a variable, with what it lists TIED to the program's text (the seventh form; the later family's looks); each row that meets fmt, with fmt's text TOLD by the authors' own Lean function (tested against real Go, not proved from fmt's source: count such statements apart). THE CARD IS WHAT COUNTS. Prove the row's statement (the work); the ties are given (YtnehafiodfinbaaGreatDoorTie.lean); close each card by the builder's one call (the guide's Derived/Test/ToyasCard.lean, 'card_holds'). Laid BY PROGRAM, IN A SANDBOX (cutbox-door.mjs). By AI agents, Wed Nov 11 2026. No macro, syntax, notation, axiom, sorry.
-/
import Derived.Test.YtnehafiodfinbaaGreatDoorRows
import GoSem.ClaimSeven
namespace Go.Proofs.YtnehafiodfinbaaGreatDoor
namespace Rows

/-- THE TIED CARD OF 'placardlaw05.TermRuns'. -/
def termRunsCard : Claim7 := { stood := { row := termRunsRow, standIns := [], harness := (true, "d576ea7f9d51f7e17a2b2a375d0fbd718bd4ea648405666e43b215c623a16bb5"), looks := false }, kinds := [], alts := [], laidByText := true, laidKinds := [.data, .data, .data, .data, .pinned], laidTests := true, laidLooks := .later }
def TermRunsCardSaid : Prop := Claim7.holds Tryz.pinned (.plain (OpenSpec.ofChange termRunsSpec)) termRunsCard

/-- THE TIED CARD OF 'placardlaw05.TermPieces'. -/
def termPiecesCard : Claim7 := { stood := { row := termPiecesRow, standIns := [], harness := (true, "d576ea7f9d51f7e17a2b2a375d0fbd718bd4ea648405666e43b215c623a16bb5"), looks := false }, kinds := [], alts := [], laidByText := true, laidKinds := [.data, .data, .data, .data, .pinned], laidTests := true, laidLooks := .later }
def TermPiecesCardSaid : Prop := Claim7.holds Tryz.pinned (.plain (OpenSpec.ofChange termPiecesSpec)) termPiecesCard

/-- THE TIED CARD OF 'placardlaw05.TermPlain'. -/
def termPlainCard : Claim7 := { stood := { row := termPlainRow, standIns := [], harness := (true, "d576ea7f9d51f7e17a2b2a375d0fbd718bd4ea648405666e43b215c623a16bb5"), looks := false }, kinds := [], alts := [], laidByText := true, laidKinds := [.data, .data, .data, .data, .pinned], laidTests := true, laidLooks := .later }
def TermPlainCardSaid : Prop := Claim7.holds Tryz.pinned (.plain (OpenSpec.ofChange termPlainSpec)) termPlainCard

/-- THE TIED CARD OF 'placardlaw05.TermNobody'. -/
def termNobodyCard : Claim7 := { stood := { row := termNobodyRow, standIns := [], harness := (true, "d576ea7f9d51f7e17a2b2a375d0fbd718bd4ea648405666e43b215c623a16bb5"), looks := false }, kinds := [], alts := [], laidByText := true, laidKinds := [.data, .data, .data, .data, .pinned], laidTests := true, laidLooks := .later }
def TermNobodyCardSaid : Prop := Claim7.holds Tryz.pinned (.plain (OpenSpec.ofChange termNobodySpec)) termNobodyCard

/-- THE TIED CARD OF 'placardlaw07.KeyinRuns'. -/
def keyinRunsCard : Claim7 := { stood := { row := keyinRunsRow, standIns := [], harness := (true, "d576ea7f9d51f7e17a2b2a375d0fbd718bd4ea648405666e43b215c623a16bb5"), looks := false }, kinds := [], alts := [], laidByText := true, laidKinds := [.data, .data, .data, .data, .data, .pinned], laidTests := true, laidLooks := .later }
def KeyinRunsCardSaid : Prop := Claim7.holds Tryz.pinned (.plain (OpenSpec.ofChange keyinRunsSpec)) keyinRunsCard

/-- THE SECOND FORM's CARD OF 'placardlaw05.TermRuns'. -/
def termRunsUptoCard : Claim7 := { stood := { row := termRunsUptoRow, standIns := [], harness := (true, "d576ea7f9d51f7e17a2b2a375d0fbd718bd4ea648405666e43b215c623a16bb5"), looks := false }, kinds := [], alts := [], laidByText := true, laidKinds := [.data, .data, .data, .data, .pinned], laidTests := true, laidLooks := .later }
def TermRunsUptoCardSaid : Prop := Claim7.holds Tryz.pinned (.plain (OpenSpec.upto termRunsSpec)) termRunsUptoCard

/-- THE SECOND FORM's CARD OF 'placardlaw05.TermPieces'. -/
def termPiecesUptoCard : Claim7 := { stood := { row := termPiecesUptoRow, standIns := [], harness := (true, "d576ea7f9d51f7e17a2b2a375d0fbd718bd4ea648405666e43b215c623a16bb5"), looks := false }, kinds := [], alts := [], laidByText := true, laidKinds := [.data, .data, .data, .data, .pinned], laidTests := true, laidLooks := .later }
def TermPiecesUptoCardSaid : Prop := Claim7.holds Tryz.pinned (.plain (OpenSpec.upto termPiecesSpec)) termPiecesUptoCard

/-- THE SECOND FORM's CARD OF 'placardlaw05.TermPlain'. -/
def termPlainUptoCard : Claim7 := { stood := { row := termPlainUptoRow, standIns := [], harness := (true, "d576ea7f9d51f7e17a2b2a375d0fbd718bd4ea648405666e43b215c623a16bb5"), looks := false }, kinds := [], alts := [], laidByText := true, laidKinds := [.data, .data, .data, .data, .pinned], laidTests := true, laidLooks := .later }
def TermPlainUptoCardSaid : Prop := Claim7.holds Tryz.pinned (.plain (OpenSpec.upto termPlainSpec)) termPlainUptoCard

/-- THE SECOND FORM's CARD OF 'placardlaw05.TermNobody'. -/
def termNobodyUptoCard : Claim7 := { stood := { row := termNobodyUptoRow, standIns := [], harness := (true, "d576ea7f9d51f7e17a2b2a375d0fbd718bd4ea648405666e43b215c623a16bb5"), looks := false }, kinds := [], alts := [], laidByText := true, laidKinds := [.data, .data, .data, .data, .pinned], laidTests := true, laidLooks := .later }
def TermNobodyUptoCardSaid : Prop := Claim7.holds Tryz.pinned (.plain (OpenSpec.upto termNobodySpec)) termNobodyUptoCard

/-- THE SECOND FORM's CARD OF 'placardlaw07.KeyinRuns'. -/
def keyinRunsUptoCard : Claim7 := { stood := { row := keyinRunsUptoRow, standIns := [], harness := (true, "d576ea7f9d51f7e17a2b2a375d0fbd718bd4ea648405666e43b215c623a16bb5"), looks := false }, kinds := [], alts := [], laidByText := true, laidKinds := [.data, .data, .data, .data, .data, .pinned], laidTests := true, laidLooks := .later }
def KeyinRunsUptoCardSaid : Prop := Claim7.holds Tryz.pinned (.plain (OpenSpec.upto keyinRunsSpec)) keyinRunsUptoCard
end Rows
end Go.Proofs.YtnehafiodfinbaaGreatDoor
