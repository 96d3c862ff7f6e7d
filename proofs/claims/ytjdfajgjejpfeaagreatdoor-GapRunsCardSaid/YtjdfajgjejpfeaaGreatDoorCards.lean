/-
  DERIVED. GIVEN WITH THE SEED: THE CARDS: each row of YtjdfajgjejpfeaaGreatDoorRows.lean that lists a variable, with what it lists TIED to the program's text (the seventh form; the later family's looks); each row that meets fmt, with fmt's text TOLD by the authors' own Lean function (tested against real Go, not proved from fmt's source: count such statements apart). THE CARD IS WHAT COUNTS. Prove the row's statement (the work); the ties are given (YtjdfajgjejpfeaaGreatDoorTie.lean); close each card by the builder's one call (the guide's Derived/Test/ToyasCard.lean, 'card_holds'). Laid BY PROGRAM, IN A SANDBOX (cutbox-door.mjs). By AI agents, Wed Nov 11 2026. No macro, syntax, notation, axiom, sorry.
-/
import Derived.Test.YtjdfajgjejpfeaaGreatDoorRows
import GoSem.ClaimSeven
namespace Go.Proofs.YtjdfajgjejpfeaaGreatDoor
namespace Rows

/-- THE TIED CARD OF 'placardlaw12.GapRuns'. -/
def gapRunsCard : Claim7 := { stood := { row := gapRunsRow, standIns := [], harness := (true, "199a1ad08c935c6a062d2d8ca492e5350dc09503aee213e868206c9df74739a7"), looks := false }, kinds := [], alts := [], laidByText := true, laidKinds := [.data, .data], laidTests := true, laidLooks := .later }
def GapRunsCardSaid : Prop := Claim7.holds Tryz.pinned (.plain (OpenSpec.ofChange gapRunsSpec)) gapRunsCard

/-- THE SECOND FORM's CARD OF 'placardlaw12.GapRuns'. -/
def gapRunsUptoCard : Claim7 := { stood := { row := gapRunsUptoRow, standIns := [], harness := (true, "199a1ad08c935c6a062d2d8ca492e5350dc09503aee213e868206c9df74739a7"), looks := false }, kinds := [], alts := [], laidByText := true, laidKinds := [.data, .data], laidTests := true, laidLooks := .later }
def GapRunsUptoCardSaid : Prop := Claim7.holds Tryz.pinned (.plain (OpenSpec.upto gapRunsSpec)) gapRunsUptoCard
end Rows
end Go.Proofs.YtjdfajgjejpfeaaGreatDoor
