/-
  DERIVED. GIVEN WITH THE SEED: THE CARDS: each row of YtfmkeeaenjeneaaGreatDoorRows.lean that lists a variable, with what it lists TIED to the program's text (the seventh form; the later family's looks); each row that meets fmt, with fmt's text TOLD by the authors' own Lean function (tested against real Go, not proved from fmt's source: count such statements apart). THE CARD IS WHAT COUNTS. Prove the row's statement (the work); the ties are given (YtfmkeeaenjeneaaGreatDoorTie.lean); close each card by the builder's one call (the guide's Derived/Test/ToyasCard.lean, 'card_holds'). Laid BY PROGRAM, IN A SANDBOX (cutbox-door.mjs). By AI agents, Wed Nov 11 2026. No macro, syntax, notation, axiom, sorry.
-/
import Derived.Test.YtfmkeeaenjeneaaGreatDoorRows
import GoSem.ClaimSeven
namespace Go.Proofs.YtfmkeeaenjeneaaGreatDoor
namespace Rows

/-- THE TIED CARD OF 'placardlaw05.TermRuns'. -/
def termRunsCard : Claim7 := { stood := { row := termRunsRow, standIns := [], harness := (true, "cc2e72897599cf059914cc3ac3bfcc6c1e097a796feafa4cbfa06b63f956a259"), looks := false }, kinds := [], alts := [], laidByText := true, laidKinds := [.data, .data, .data, .data, .pinned], laidTests := true, laidLooks := .later }
def TermRunsCardSaid : Prop := Claim7.holds Tryz.pinned (.plain (OpenSpec.ofChange termRunsSpec)) termRunsCard

/-- THE TIED CARD OF 'placardlaw05.TermPieces'. -/
def termPiecesCard : Claim7 := { stood := { row := termPiecesRow, standIns := [], harness := (true, "cc2e72897599cf059914cc3ac3bfcc6c1e097a796feafa4cbfa06b63f956a259"), looks := false }, kinds := [], alts := [], laidByText := true, laidKinds := [.data, .data, .data, .data, .pinned], laidTests := true, laidLooks := .later }
def TermPiecesCardSaid : Prop := Claim7.holds Tryz.pinned (.plain (OpenSpec.ofChange termPiecesSpec)) termPiecesCard

/-- THE SECOND FORM's CARD OF 'placardlaw05.TermRuns'. -/
def termRunsUptoCard : Claim7 := { stood := { row := termRunsUptoRow, standIns := [], harness := (true, "cc2e72897599cf059914cc3ac3bfcc6c1e097a796feafa4cbfa06b63f956a259"), looks := false }, kinds := [], alts := [], laidByText := true, laidKinds := [.data, .data, .data, .data, .pinned], laidTests := true, laidLooks := .later }
def TermRunsUptoCardSaid : Prop := Claim7.holds Tryz.pinned (.plain (OpenSpec.upto termRunsSpec)) termRunsUptoCard

/-- THE SECOND FORM's CARD OF 'placardlaw05.TermPieces'. -/
def termPiecesUptoCard : Claim7 := { stood := { row := termPiecesUptoRow, standIns := [], harness := (true, "cc2e72897599cf059914cc3ac3bfcc6c1e097a796feafa4cbfa06b63f956a259"), looks := false }, kinds := [], alts := [], laidByText := true, laidKinds := [.data, .data, .data, .data, .pinned], laidTests := true, laidLooks := .later }
def TermPiecesUptoCardSaid : Prop := Claim7.holds Tryz.pinned (.plain (OpenSpec.upto termPiecesSpec)) termPiecesUptoCard
end Rows
end Go.Proofs.YtfmkeeaenjeneaaGreatDoor
