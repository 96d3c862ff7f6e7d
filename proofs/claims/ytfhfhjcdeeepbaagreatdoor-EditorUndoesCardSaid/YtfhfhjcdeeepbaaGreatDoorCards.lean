/-
  DERIVED. GIVEN WITH THE SEED: THE CARDS: each row of YtfhfhjcdeeepbaaGreatDoorRows.lean that lists a variable, with what it lists TIED to the program's text (the seventh form; the later family's looks); each row that meets fmt, with fmt's text TOLD by the authors' own Lean function (tested against real Go, not proved from fmt's source: count such statements apart). THE CARD IS WHAT COUNTS. Prove the row's statement (the work); the ties are given (YtfhfhjcdeeepbaaGreatDoorTie.lean); close each card by the builder's one call (the guide's Derived/Test/ToyasCard.lean, 'card_holds'). Laid BY PROGRAM, IN A SANDBOX (cutbox-door.mjs). By AI agents, Wed Nov 11 2026. No macro, syntax, notation, axiom, sorry.
-/
import Derived.Test.YtfhfhjcdeeepbaaGreatDoorRows
import GoSem.ClaimSeven
namespace Go.Proofs.YtfhfhjcdeeepbaaGreatDoor
namespace Rows

/-- THE TIED CARD OF 'placardlaw13.EditorUndoes'. -/
def editorUndoesCard : Claim7 := { stood := { row := editorUndoesRow, standIns := [], harness := (true, "aa08280bd02204072a9281be9c858bc4fe15ac5a4337e9ed1a6f41e629dafc00"), looks := false }, kinds := [], alts := [], laidByText := true, laidKinds := [.data, .data], laidTests := true, laidLooks := .later }
def EditorUndoesCardSaid : Prop := Claim7.holds Tryz.pinned (.plain (OpenSpec.ofChange editorUndoesSpec)) editorUndoesCard

/-- THE TIED CARD OF 'placardlaw13.EditorYanks'. -/
def editorYanksCard : Claim7 := { stood := { row := editorYanksRow, standIns := [], harness := (true, "aa08280bd02204072a9281be9c858bc4fe15ac5a4337e9ed1a6f41e629dafc00"), looks := false }, kinds := [], alts := [], laidByText := true, laidKinds := [.data, .data], laidTests := true, laidLooks := .later }
def EditorYanksCardSaid : Prop := Claim7.holds Tryz.pinned (.plain (OpenSpec.ofChange editorYanksSpec)) editorYanksCard

/-- THE TIED CARD OF 'placardlaw13.EditorNobody'. -/
def editorNobodyCard : Claim7 := { stood := { row := editorNobodyRow, standIns := [], harness := (true, "aa08280bd02204072a9281be9c858bc4fe15ac5a4337e9ed1a6f41e629dafc00"), looks := false }, kinds := [], alts := [], laidByText := true, laidKinds := [.data, .data], laidTests := true, laidLooks := .later }
def EditorNobodyCardSaid : Prop := Claim7.holds Tryz.pinned (.plain (OpenSpec.ofChange editorNobodySpec)) editorNobodyCard

/-- THE SECOND FORM's CARD OF 'placardlaw13.EditorUndoes'. -/
def editorUndoesUptoCard : Claim7 := { stood := { row := editorUndoesUptoRow, standIns := [], harness := (true, "aa08280bd02204072a9281be9c858bc4fe15ac5a4337e9ed1a6f41e629dafc00"), looks := false }, kinds := [], alts := [], laidByText := true, laidKinds := [.data, .data], laidTests := true, laidLooks := .later }
def EditorUndoesUptoCardSaid : Prop := Claim7.holds Tryz.pinned (.plain (OpenSpec.upto editorUndoesSpec)) editorUndoesUptoCard

/-- THE SECOND FORM's CARD OF 'placardlaw13.EditorYanks'. -/
def editorYanksUptoCard : Claim7 := { stood := { row := editorYanksUptoRow, standIns := [], harness := (true, "aa08280bd02204072a9281be9c858bc4fe15ac5a4337e9ed1a6f41e629dafc00"), looks := false }, kinds := [], alts := [], laidByText := true, laidKinds := [.data, .data], laidTests := true, laidLooks := .later }
def EditorYanksUptoCardSaid : Prop := Claim7.holds Tryz.pinned (.plain (OpenSpec.upto editorYanksSpec)) editorYanksUptoCard

/-- THE SECOND FORM's CARD OF 'placardlaw13.EditorNobody'. -/
def editorNobodyUptoCard : Claim7 := { stood := { row := editorNobodyUptoRow, standIns := [], harness := (true, "aa08280bd02204072a9281be9c858bc4fe15ac5a4337e9ed1a6f41e629dafc00"), looks := false }, kinds := [], alts := [], laidByText := true, laidKinds := [.data, .data], laidTests := true, laidLooks := .later }
def EditorNobodyUptoCardSaid : Prop := Claim7.holds Tryz.pinned (.plain (OpenSpec.upto editorNobodySpec)) editorNobodyUptoCard
end Rows
end Go.Proofs.YtfhfhjcdeeepbaaGreatDoor
