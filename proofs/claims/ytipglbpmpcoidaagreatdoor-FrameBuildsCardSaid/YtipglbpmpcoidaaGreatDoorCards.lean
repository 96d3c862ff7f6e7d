/-
  DERIVED. GIVEN WITH THE SEED: THE CARDS: each row of YtipglbpmpcoidaaGreatDoorRows.lean that lists a variable, with what it lists TIED to the program's text (the seventh form; the later family's looks); each row that meets fmt, with fmt's text TOLD by the authors' own Lean function (tested against real Go, not proved from fmt's source: count such statements apart). THE CARD IS WHAT COUNTS. Prove the row's statement (the work); the ties are given (YtipglbpmpcoidaaGreatDoorTie.lean); close each card by the builder's one call (the guide's Derived/Test/ToyasCard.lean, 'card_holds'). Laid BY PROGRAM, IN A SANDBOX (cutbox-door.mjs). By AI agents, Wed Nov 11 2026. No macro, syntax, notation, axiom, sorry.
-/
import Derived.Test.YtipglbpmpcoidaaGreatDoorRows
import GoSem.ClaimSeven
namespace Go.Proofs.YtipglbpmpcoidaaGreatDoor
namespace Rows

/-- THE TIED CARD OF 'placardlaw09.FrameBuilds'. -/
def frameBuildsCard : Claim7 := { stood := { row := frameBuildsRow, standIns := [], harness := (true, "6337b142222e6193376a7862c12cae185254b3a4139a2ac92054def4bdc8f418"), looks := false }, kinds := [], alts := [], laidByText := true, laidKinds := [.data, .data, .data], laidTests := true, laidLooks := .later }
def FrameBuildsCardSaid : Prop := Claim7.holds Tryz.pinned (.plain (OpenSpec.ofChange frameBuildsSpec)) frameBuildsCard

/-- THE SECOND FORM's CARD OF 'placardlaw09.FrameBuilds'. -/
def frameBuildsUptoCard : Claim7 := { stood := { row := frameBuildsUptoRow, standIns := [], harness := (true, "6337b142222e6193376a7862c12cae185254b3a4139a2ac92054def4bdc8f418"), looks := false }, kinds := [], alts := [], laidByText := true, laidKinds := [.data, .data, .data], laidTests := true, laidLooks := .later }
def FrameBuildsUptoCardSaid : Prop := Claim7.holds Tryz.pinned (.plain (OpenSpec.upto frameBuildsSpec)) frameBuildsUptoCard
end Rows
end Go.Proofs.YtipglbpmpcoidaaGreatDoor
