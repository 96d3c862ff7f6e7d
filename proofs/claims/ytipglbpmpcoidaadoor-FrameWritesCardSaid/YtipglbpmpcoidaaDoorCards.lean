/-
  DERIVED. GIVEN WITH THE SEED: THE CARDS: each row of YtipglbpmpcoidaaDoorRows.lean that lists a variable, with what it lists TIED to the program's text (the seventh form; the later family's looks); each row that meets fmt, with fmt's text TOLD by the authors' own Lean function (tested against real Go, not proved from fmt's source: count such statements apart). THE CARD IS WHAT COUNTS. Prove the row's statement (the work); the ties are given (YtipglbpmpcoidaaDoorTie.lean); close each card by the builder's one call (the guide's Derived/Test/ToyasCard.lean, 'card_holds'). Laid BY PROGRAM, IN A SANDBOX (cutbox-door.mjs). By AI agents, Wed Nov 11 2026. No macro, syntax, notation, axiom, sorry.
-/
import Derived.Test.YtipglbpmpcoidaaDoorRows
import GoSem.ClaimSeven
namespace Go.Proofs.YtipglbpmpcoidaaDoor
namespace Rows

/-- THE TIED CARD OF 'placardlaw09.FrameChecks'. -/
def frameChecksCard : Claim7 := { stood := { row := frameChecksRow, standIns := [], harness := (true, "5db27443effcbed2df0b94019ba9d8a9b58f1fe8cebfe233fe5c725129253a4c"), looks := false }, kinds := [], alts := [], laidByText := true, laidKinds := [.data, .data, .data], laidTests := true, laidLooks := .later }
def FrameChecksCardSaid : Prop := Claim7.holds Tryd.pinned (.plain (OpenSpec.ofChange frameChecksSpec)) frameChecksCard

/-- THE TIED CARD OF 'placardlaw09.FrameWrites'. -/
def frameWritesCard : Claim7 := { stood := { row := frameWritesRow, standIns := [], harness := (true, "5db27443effcbed2df0b94019ba9d8a9b58f1fe8cebfe233fe5c725129253a4c"), looks := false }, kinds := [], alts := [], laidByText := true, laidKinds := [.data, .data, .data], laidTests := true, laidLooks := .later }
def FrameWritesCardSaid : Prop := Claim7.holds Tryd.pinned (.plain (OpenSpec.ofChange frameWritesSpec)) frameWritesCard

/-- THE TIED CARD OF 'placardlaw09.FrameNobody'. -/
def frameNobodyCard : Claim7 := { stood := { row := frameNobodyRow, standIns := [], harness := (true, "5db27443effcbed2df0b94019ba9d8a9b58f1fe8cebfe233fe5c725129253a4c"), looks := false }, kinds := [], alts := [], laidByText := true, laidKinds := [.data, .data, .data], laidTests := true, laidLooks := .later }
def FrameNobodyCardSaid : Prop := Claim7.holds Tryd.pinned (.plain (OpenSpec.ofChange frameNobodySpec)) frameNobodyCard

/-- THE SECOND FORM's CARD OF 'placardlaw09.FrameChecks'. -/
def frameChecksUptoCard : Claim7 := { stood := { row := frameChecksUptoRow, standIns := [], harness := (true, "5db27443effcbed2df0b94019ba9d8a9b58f1fe8cebfe233fe5c725129253a4c"), looks := false }, kinds := [], alts := [], laidByText := true, laidKinds := [.data, .data, .data], laidTests := true, laidLooks := .later }
def FrameChecksUptoCardSaid : Prop := Claim7.holds Tryd.pinned (.plain (OpenSpec.upto frameChecksSpec)) frameChecksUptoCard

/-- THE SECOND FORM's CARD OF 'placardlaw09.FrameWrites'. -/
def frameWritesUptoCard : Claim7 := { stood := { row := frameWritesUptoRow, standIns := [], harness := (true, "5db27443effcbed2df0b94019ba9d8a9b58f1fe8cebfe233fe5c725129253a4c"), looks := false }, kinds := [], alts := [], laidByText := true, laidKinds := [.data, .data, .data], laidTests := true, laidLooks := .later }
def FrameWritesUptoCardSaid : Prop := Claim7.holds Tryd.pinned (.plain (OpenSpec.upto frameWritesSpec)) frameWritesUptoCard

/-- THE SECOND FORM's CARD OF 'placardlaw09.FrameNobody'. -/
def frameNobodyUptoCard : Claim7 := { stood := { row := frameNobodyUptoRow, standIns := [], harness := (true, "5db27443effcbed2df0b94019ba9d8a9b58f1fe8cebfe233fe5c725129253a4c"), looks := false }, kinds := [], alts := [], laidByText := true, laidKinds := [.data, .data, .data], laidTests := true, laidLooks := .later }
def FrameNobodyUptoCardSaid : Prop := Claim7.holds Tryd.pinned (.plain (OpenSpec.upto frameNobodySpec)) frameNobodyUptoCard
end Rows
end Go.Proofs.YtipglbpmpcoidaaDoor
