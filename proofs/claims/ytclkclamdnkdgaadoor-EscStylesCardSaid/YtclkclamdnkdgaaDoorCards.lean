/-
  DERIVED. GIVEN WITH THE SEED: THE CARDS: each row of YtclkclamdnkdgaaDoorRows.lean that lists a variable, with what it lists TIED to the program's text (the seventh form; the later family's looks); each row that meets fmt, with fmt's text TOLD by the authors' own Lean function (tested against real Go, not proved from fmt's source: count such statements apart). THE CARD IS WHAT COUNTS. Prove the row's statement (the work); the ties are given (YtclkclamdnkdgaaDoorTie.lean); close each card by the builder's one call (the guide's Derived/Test/ToyasCard.lean, 'card_holds'). Laid BY PROGRAM, IN A SANDBOX (cutbox-door.mjs). By AI agents, Wed Nov 11 2026. No macro, syntax, notation, axiom, sorry.
-/
import Derived.Test.YtclkclamdnkdgaaDoorRows
import GoSem.ClaimSeven
namespace Go.Proofs.YtclkclamdnkdgaaDoor
namespace Rows

/-- THE TIED CARD OF 'placardlaw06.EscMoves'. -/
def escMovesCard : Claim7 := { stood := { row := escMovesRow, standIns := [], harness := (true, "dd8c3a8cfa0ae2b618d5a49d1e3c0c306537efa593dd192324175088fda2d332"), looks := false }, kinds := [], alts := [], laidByText := true, laidKinds := [.data, .data, .data], laidTests := true, laidLooks := .later }
def EscMovesCardSaid : Prop := Claim7.holds Tryd.pinned (.plain (OpenSpec.ofChange escMovesSpec)) escMovesCard

/-- THE TIED CARD OF 'placardlaw06.EscFixed'. -/
def escFixedCard : Claim7 := { stood := { row := escFixedRow, standIns := [], harness := (true, "dd8c3a8cfa0ae2b618d5a49d1e3c0c306537efa593dd192324175088fda2d332"), looks := false }, kinds := [], alts := [], laidByText := true, laidKinds := [.data, .data, .data], laidTests := true, laidLooks := .later }
def EscFixedCardSaid : Prop := Claim7.holds Tryd.pinned (.plain (OpenSpec.ofChange escFixedSpec)) escFixedCard

/-- THE TIED CARD OF 'placardlaw06.EscStyles'. -/
def escStylesCard : Claim7 := { stood := { row := escStylesRow, standIns := [], harness := (true, "dd8c3a8cfa0ae2b618d5a49d1e3c0c306537efa593dd192324175088fda2d332"), looks := false }, kinds := [], alts := [], laidByText := true, laidKinds := [.data, .data, .data], laidTests := true, laidLooks := .later }
def EscStylesCardSaid : Prop := Claim7.holds Tryd.pinned (.plain (OpenSpec.ofChange escStylesSpec)) escStylesCard

/-- THE TIED CARD OF 'placardlaw06.EscStrips'. -/
def escStripsCard : Claim7 := { stood := { row := escStripsRow, standIns := [], harness := (true, "dd8c3a8cfa0ae2b618d5a49d1e3c0c306537efa593dd192324175088fda2d332"), looks := false }, kinds := [], alts := [], laidByText := true, laidKinds := [.data, .data, .data], laidTests := true, laidLooks := .later }
def EscStripsCardSaid : Prop := Claim7.holds Tryd.pinned (.plain (OpenSpec.ofChange escStripsSpec)) escStripsCard

/-- THE SECOND FORM's CARD OF 'placardlaw06.EscMoves'. -/
def escMovesUptoCard : Claim7 := { stood := { row := escMovesUptoRow, standIns := [], harness := (true, "dd8c3a8cfa0ae2b618d5a49d1e3c0c306537efa593dd192324175088fda2d332"), looks := false }, kinds := [], alts := [], laidByText := true, laidKinds := [.data, .data, .data], laidTests := true, laidLooks := .later }
def EscMovesUptoCardSaid : Prop := Claim7.holds Tryd.pinned (.plain (OpenSpec.upto escMovesSpec)) escMovesUptoCard

/-- THE SECOND FORM's CARD OF 'placardlaw06.EscFixed'. -/
def escFixedUptoCard : Claim7 := { stood := { row := escFixedUptoRow, standIns := [], harness := (true, "dd8c3a8cfa0ae2b618d5a49d1e3c0c306537efa593dd192324175088fda2d332"), looks := false }, kinds := [], alts := [], laidByText := true, laidKinds := [.data, .data, .data], laidTests := true, laidLooks := .later }
def EscFixedUptoCardSaid : Prop := Claim7.holds Tryd.pinned (.plain (OpenSpec.upto escFixedSpec)) escFixedUptoCard

/-- THE SECOND FORM's CARD OF 'placardlaw06.EscStyles'. -/
def escStylesUptoCard : Claim7 := { stood := { row := escStylesUptoRow, standIns := [], harness := (true, "dd8c3a8cfa0ae2b618d5a49d1e3c0c306537efa593dd192324175088fda2d332"), looks := false }, kinds := [], alts := [], laidByText := true, laidKinds := [.data, .data, .data], laidTests := true, laidLooks := .later }
def EscStylesUptoCardSaid : Prop := Claim7.holds Tryd.pinned (.plain (OpenSpec.upto escStylesSpec)) escStylesUptoCard

/-- THE SECOND FORM's CARD OF 'placardlaw06.EscStrips'. -/
def escStripsUptoCard : Claim7 := { stood := { row := escStripsUptoRow, standIns := [], harness := (true, "dd8c3a8cfa0ae2b618d5a49d1e3c0c306537efa593dd192324175088fda2d332"), looks := false }, kinds := [], alts := [], laidByText := true, laidKinds := [.data, .data, .data], laidTests := true, laidLooks := .later }
def EscStripsUptoCardSaid : Prop := Claim7.holds Tryd.pinned (.plain (OpenSpec.upto escStripsSpec)) escStripsUptoCard
end Rows
end Go.Proofs.YtclkclamdnkdgaaDoor
