/-
  DERIVED. GIVEN WITH THE SEED: THE CARDS: each row of YtcgjanjllfcnoaaGreatDoorRows.lean that lists a variable, with what it lists TIED to the program's text (the seventh form; the later family's looks); each row that meets fmt, with fmt's text TOLD by the authors' own Lean function (tested against real Go, not proved from fmt's source: count such statements apart). THE CARD IS WHAT COUNTS. Prove the row's statement (the work); the ties are given (YtcgjanjllfcnoaaGreatDoorTie.lean); close each card by the builder's one call (the guide's Derived/Test/ToyasCard.lean, 'card_holds'). Laid BY PROGRAM, IN A SANDBOX (cutbox-door.mjs). By AI agents, Wed Nov 11 2026. No macro, syntax, notation, axiom, sorry.
-/
import Derived.Test.YtcgjanjllfcnoaaGreatDoorRows
import GoSem.ClaimSeven
namespace Go.Proofs.YtcgjanjllfcnoaaGreatDoor
namespace Rows

/-- THE TIED CARD OF 'placardlaw05.TermRuns'. -/
def termRunsCard : Claim7 := { stood := { row := termRunsRow, standIns := [], harness := (true, "47ab7f7bbc361dc928e43a2f37b2a25ea202cef6077662eb3d74a57ec65031fd"), looks := false }, kinds := [], alts := [], laidByText := true, laidKinds := [.data, .data, .data, .data, .pinned], laidTests := true, laidLooks := .later }
def TermRunsCardSaid : Prop := Claim7.holds Tryz.pinned (.plain (OpenSpec.ofChange termRunsSpec)) termRunsCard

/-- THE TIED CARD OF 'placardlaw05.TermPieces'. -/
def termPiecesCard : Claim7 := { stood := { row := termPiecesRow, standIns := [], harness := (true, "47ab7f7bbc361dc928e43a2f37b2a25ea202cef6077662eb3d74a57ec65031fd"), looks := false }, kinds := [], alts := [], laidByText := true, laidKinds := [.data, .data, .data, .data, .pinned], laidTests := true, laidLooks := .later }
def TermPiecesCardSaid : Prop := Claim7.holds Tryz.pinned (.plain (OpenSpec.ofChange termPiecesSpec)) termPiecesCard

/-- THE TIED CARD OF 'placardlaw05.TermPlain'. -/
def termPlainCard : Claim7 := { stood := { row := termPlainRow, standIns := [], harness := (true, "47ab7f7bbc361dc928e43a2f37b2a25ea202cef6077662eb3d74a57ec65031fd"), looks := false }, kinds := [], alts := [], laidByText := true, laidKinds := [.data, .data, .data, .data, .pinned], laidTests := true, laidLooks := .later }
def TermPlainCardSaid : Prop := Claim7.holds Tryz.pinned (.plain (OpenSpec.ofChange termPlainSpec)) termPlainCard

/-- THE SECOND FORM's CARD OF 'placardlaw05.TermRuns'. -/
def termRunsUptoCard : Claim7 := { stood := { row := termRunsUptoRow, standIns := [], harness := (true, "47ab7f7bbc361dc928e43a2f37b2a25ea202cef6077662eb3d74a57ec65031fd"), looks := false }, kinds := [], alts := [], laidByText := true, laidKinds := [.data, .data, .data, .data, .pinned], laidTests := true, laidLooks := .later }
def TermRunsUptoCardSaid : Prop := Claim7.holds Tryz.pinned (.plain (OpenSpec.upto termRunsSpec)) termRunsUptoCard

/-- THE SECOND FORM's CARD OF 'placardlaw05.TermPieces'. -/
def termPiecesUptoCard : Claim7 := { stood := { row := termPiecesUptoRow, standIns := [], harness := (true, "47ab7f7bbc361dc928e43a2f37b2a25ea202cef6077662eb3d74a57ec65031fd"), looks := false }, kinds := [], alts := [], laidByText := true, laidKinds := [.data, .data, .data, .data, .pinned], laidTests := true, laidLooks := .later }
def TermPiecesUptoCardSaid : Prop := Claim7.holds Tryz.pinned (.plain (OpenSpec.upto termPiecesSpec)) termPiecesUptoCard

/-- THE SECOND FORM's CARD OF 'placardlaw05.TermPlain'. -/
def termPlainUptoCard : Claim7 := { stood := { row := termPlainUptoRow, standIns := [], harness := (true, "47ab7f7bbc361dc928e43a2f37b2a25ea202cef6077662eb3d74a57ec65031fd"), looks := false }, kinds := [], alts := [], laidByText := true, laidKinds := [.data, .data, .data, .data, .pinned], laidTests := true, laidLooks := .later }
def TermPlainUptoCardSaid : Prop := Claim7.holds Tryz.pinned (.plain (OpenSpec.upto termPlainSpec)) termPlainUptoCard
end Rows
end Go.Proofs.YtcgjanjllfcnoaaGreatDoor
