/-
  DERIVED. GIVEN WITH THE SEED: THE CARDS: each row of YtckohomfoicffaaDoorRows.lean that lists a variable, with what it lists TIED to the program's text (the seventh form; the later family's looks); each row that meets fmt, with fmt's text TOLD by the authors' own Lean function (tested against real Go, not proved from fmt's source: count such statements apart). THE CARD IS WHAT COUNTS. Prove the row's statement (the work); the ties are given (YtckohomfoicffaaDoorTie.lean); close each card by the builder's one call (the guide's Derived/Test/ToyasCard.lean, 'card_holds'). Laid BY PROGRAM, IN A SANDBOX (cutbox-door.mjs). By AI agents, Wed Nov 11 2026. No macro, syntax, notation, axiom, sorry.
-/
import Derived.Test.YtckohomfoicffaaDoorRows
import GoSem.ClaimSeven
namespace Go.Proofs.YtckohomfoicffaaDoor
namespace Rows

/-- THE TIED CARD OF 'placardlaw02.WidthOf'. -/
def widthOfCard : Claim7 := { stood := { row := widthOfRow, standIns := [], harness := (true, "0d0de78cd9913c81ada7e164d2d8095fe54c156c099cd81805a7579553fecd0b"), looks := false }, kinds := [], alts := [], laidByText := true, laidKinds := [.data, .data], laidTests := true, laidLooks := .later }
def WidthOfCardSaid : Prop := Claim7.holds Tryd.pinned (.plain (OpenSpec.ofChange widthOfSpec)) widthOfCard

/-- THE TIED CARD OF 'placardlaw02.WidthRanges'. -/
def widthRangesCard : Claim7 := { stood := { row := widthRangesRow, standIns := [], harness := (true, "0d0de78cd9913c81ada7e164d2d8095fe54c156c099cd81805a7579553fecd0b"), looks := false }, kinds := [], alts := [], laidByText := true, laidKinds := [.data, .data], laidTests := true, laidLooks := .later }
def WidthRangesCardSaid : Prop := Claim7.holds Tryd.pinned (.plain (OpenSpec.ofChange widthRangesSpec)) widthRangesCard

/-- THE TIED CARD OF 'placardlaw02.WidthSums'. -/
def widthSumsCard : Claim7 := { stood := { row := widthSumsRow, standIns := [], harness := (true, "0d0de78cd9913c81ada7e164d2d8095fe54c156c099cd81805a7579553fecd0b"), looks := false }, kinds := [], alts := [], laidByText := true, laidKinds := [.data, .data], laidTests := true, laidLooks := .later }
def WidthSumsCardSaid : Prop := Claim7.holds Tryd.pinned (.plain (OpenSpec.ofChange widthSumsSpec)) widthSumsCard

/-- THE TIED CARD OF 'placardlaw02.WidthYields'. -/
def widthYieldsCard : Claim7 := { stood := { row := widthYieldsRow, standIns := [], harness := (true, "0d0de78cd9913c81ada7e164d2d8095fe54c156c099cd81805a7579553fecd0b"), looks := false }, kinds := [], alts := [], laidByText := true, laidKinds := [.data, .data], laidTests := true, laidLooks := .later }
def WidthYieldsCardSaid : Prop := Claim7.holds Tryd.pinned (.plain (OpenSpec.ofChange widthYieldsSpec)) widthYieldsCard

/-- THE SECOND FORM's CARD OF 'placardlaw02.WidthOf'. -/
def widthOfUptoCard : Claim7 := { stood := { row := widthOfUptoRow, standIns := [], harness := (true, "0d0de78cd9913c81ada7e164d2d8095fe54c156c099cd81805a7579553fecd0b"), looks := false }, kinds := [], alts := [], laidByText := true, laidKinds := [.data, .data], laidTests := true, laidLooks := .later }
def WidthOfUptoCardSaid : Prop := Claim7.holds Tryd.pinned (.plain (OpenSpec.upto widthOfSpec)) widthOfUptoCard

/-- THE SECOND FORM's CARD OF 'placardlaw02.WidthRanges'. -/
def widthRangesUptoCard : Claim7 := { stood := { row := widthRangesUptoRow, standIns := [], harness := (true, "0d0de78cd9913c81ada7e164d2d8095fe54c156c099cd81805a7579553fecd0b"), looks := false }, kinds := [], alts := [], laidByText := true, laidKinds := [.data, .data], laidTests := true, laidLooks := .later }
def WidthRangesUptoCardSaid : Prop := Claim7.holds Tryd.pinned (.plain (OpenSpec.upto widthRangesSpec)) widthRangesUptoCard

/-- THE SECOND FORM's CARD OF 'placardlaw02.WidthSums'. -/
def widthSumsUptoCard : Claim7 := { stood := { row := widthSumsUptoRow, standIns := [], harness := (true, "0d0de78cd9913c81ada7e164d2d8095fe54c156c099cd81805a7579553fecd0b"), looks := false }, kinds := [], alts := [], laidByText := true, laidKinds := [.data, .data], laidTests := true, laidLooks := .later }
def WidthSumsUptoCardSaid : Prop := Claim7.holds Tryd.pinned (.plain (OpenSpec.upto widthSumsSpec)) widthSumsUptoCard

/-- THE SECOND FORM's CARD OF 'placardlaw02.WidthYields'. -/
def widthYieldsUptoCard : Claim7 := { stood := { row := widthYieldsUptoRow, standIns := [], harness := (true, "0d0de78cd9913c81ada7e164d2d8095fe54c156c099cd81805a7579553fecd0b"), looks := false }, kinds := [], alts := [], laidByText := true, laidKinds := [.data, .data], laidTests := true, laidLooks := .later }
def WidthYieldsUptoCardSaid : Prop := Claim7.holds Tryd.pinned (.plain (OpenSpec.upto widthYieldsSpec)) widthYieldsUptoCard
end Rows
end Go.Proofs.YtckohomfoicffaaDoor
