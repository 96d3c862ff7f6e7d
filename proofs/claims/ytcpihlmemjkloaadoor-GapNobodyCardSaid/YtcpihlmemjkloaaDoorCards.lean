/-
  DERIVED. GIVEN WITH THE SEED: THE CARDS: each row of YtcpihlmemjkloaaDoorRows.lean that lists a variable, with what it lists TIED to the program's text (the seventh form; the later family's looks); each row that meets fmt, with fmt's text TOLD by the authors' own Lean function (tested against real Go, not proved from fmt's source: count such statements apart). THE CARD IS WHAT COUNTS. Prove the row's statement (the work); the ties are given (YtcpihlmemjkloaaDoorTie.lean); close each card by the builder's one call (the guide's Derived/Test/ToyasCard.lean, 'card_holds'). Laid BY PROGRAM, IN A SANDBOX (cutbox-door.mjs). By AI agents, Wed Nov 11 2026. No macro, syntax, notation, axiom, sorry.
-/
import Derived.Test.YtcpihlmemjkloaaDoorRows
import GoSem.ClaimSeven
namespace Go.Proofs.YtcpihlmemjkloaaDoor
namespace Rows

/-- THE TIED CARD OF 'placardlaw12.GapThere'. -/
def gapThereCard : Claim7 := { stood := { row := gapThereRow, standIns := [], harness := (true, "5c81d3441bb41c1217d9cb5acc6c736970bfc6fb471c040d561d9a0c1089397c"), looks := false }, kinds := [], alts := [], laidByText := true, laidKinds := [.data, .data], laidTests := true, laidLooks := .later }
def GapThereCardSaid : Prop := Claim7.holds Tryd.pinned (.plain (OpenSpec.ofChange gapThereSpec)) gapThereCard

/-- THE TIED CARD OF 'placardlaw12.GapMoves'. -/
def gapMovesCard : Claim7 := { stood := { row := gapMovesRow, standIns := [], harness := (true, "5c81d3441bb41c1217d9cb5acc6c736970bfc6fb471c040d561d9a0c1089397c"), looks := false }, kinds := [], alts := [], laidByText := true, laidKinds := [.data, .data], laidTests := true, laidLooks := .later }
def GapMovesCardSaid : Prop := Claim7.holds Tryd.pinned (.plain (OpenSpec.ofChange gapMovesSpec)) gapMovesCard

/-- THE TIED CARD OF 'placardlaw12.GapFinds'. -/
def gapFindsCard : Claim7 := { stood := { row := gapFindsRow, standIns := [], harness := (true, "5c81d3441bb41c1217d9cb5acc6c736970bfc6fb471c040d561d9a0c1089397c"), looks := false }, kinds := [], alts := [], laidByText := true, laidKinds := [.data, .data], laidTests := true, laidLooks := .later }
def GapFindsCardSaid : Prop := Claim7.holds Tryd.pinned (.plain (OpenSpec.ofChange gapFindsSpec)) gapFindsCard

/-- THE TIED CARD OF 'placardlaw12.GapNobody'. -/
def gapNobodyCard : Claim7 := { stood := { row := gapNobodyRow, standIns := [], harness := (true, "5c81d3441bb41c1217d9cb5acc6c736970bfc6fb471c040d561d9a0c1089397c"), looks := false }, kinds := [], alts := [], laidByText := true, laidKinds := [.data, .data], laidTests := true, laidLooks := .later }
def GapNobodyCardSaid : Prop := Claim7.holds Tryd.pinned (.plain (OpenSpec.ofChange gapNobodySpec)) gapNobodyCard

/-- THE SECOND FORM's CARD OF 'placardlaw12.GapThere'. -/
def gapThereUptoCard : Claim7 := { stood := { row := gapThereUptoRow, standIns := [], harness := (true, "5c81d3441bb41c1217d9cb5acc6c736970bfc6fb471c040d561d9a0c1089397c"), looks := false }, kinds := [], alts := [], laidByText := true, laidKinds := [.data, .data], laidTests := true, laidLooks := .later }
def GapThereUptoCardSaid : Prop := Claim7.holds Tryd.pinned (.plain (OpenSpec.upto gapThereSpec)) gapThereUptoCard

/-- THE SECOND FORM's CARD OF 'placardlaw12.GapMoves'. -/
def gapMovesUptoCard : Claim7 := { stood := { row := gapMovesUptoRow, standIns := [], harness := (true, "5c81d3441bb41c1217d9cb5acc6c736970bfc6fb471c040d561d9a0c1089397c"), looks := false }, kinds := [], alts := [], laidByText := true, laidKinds := [.data, .data], laidTests := true, laidLooks := .later }
def GapMovesUptoCardSaid : Prop := Claim7.holds Tryd.pinned (.plain (OpenSpec.upto gapMovesSpec)) gapMovesUptoCard

/-- THE SECOND FORM's CARD OF 'placardlaw12.GapFinds'. -/
def gapFindsUptoCard : Claim7 := { stood := { row := gapFindsUptoRow, standIns := [], harness := (true, "5c81d3441bb41c1217d9cb5acc6c736970bfc6fb471c040d561d9a0c1089397c"), looks := false }, kinds := [], alts := [], laidByText := true, laidKinds := [.data, .data], laidTests := true, laidLooks := .later }
def GapFindsUptoCardSaid : Prop := Claim7.holds Tryd.pinned (.plain (OpenSpec.upto gapFindsSpec)) gapFindsUptoCard

/-- THE SECOND FORM's CARD OF 'placardlaw12.GapNobody'. -/
def gapNobodyUptoCard : Claim7 := { stood := { row := gapNobodyUptoRow, standIns := [], harness := (true, "5c81d3441bb41c1217d9cb5acc6c736970bfc6fb471c040d561d9a0c1089397c"), looks := false }, kinds := [], alts := [], laidByText := true, laidKinds := [.data, .data], laidTests := true, laidLooks := .later }
def GapNobodyUptoCardSaid : Prop := Claim7.holds Tryd.pinned (.plain (OpenSpec.upto gapNobodySpec)) gapNobodyUptoCard
end Rows
end Go.Proofs.YtcpihlmemjkloaaDoor
