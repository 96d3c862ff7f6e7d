/-
  DERIVED. GIVEN WITH THE SEED: THE CARDS: each row of YtmgakdbcgdhpaaaDoorRows.lean that lists a variable, with what it lists TIED to the program's text (the seventh form; the later family's looks); each row that meets fmt, with fmt's text TOLD by the authors' own Lean function (tested against real Go, not proved from fmt's source: count such statements apart). THE CARD IS WHAT COUNTS. Prove the row's statement (the work); the ties are given (YtmgakdbcgdhpaaaDoorTie.lean); close each card by the builder's one call (the guide's Derived/Test/ToyasCard.lean, 'card_holds'). Laid BY PROGRAM, IN A SANDBOX (cutbox-door.mjs). By AI agents, Wed Nov 11 2026. No macro, syntax, notation, axiom, sorry.
-/
import Derived.Test.YtmgakdbcgdhpaaaDoorRows
import GoSem.ClaimSeven
namespace Go.Proofs.YtmgakdbcgdhpaaaDoor
namespace Rows

/-- THE TIED CARD OF 'placardlaw02.WidthOf'. -/
def widthOfCard : Claim7 := { stood := { row := widthOfRow, standIns := [], harness := (true, "1b82767c4c2a38b35fead8b81f6a4612a4a31db306d2d36796affe921c8fa029"), looks := false }, kinds := [], alts := [], laidByText := true, laidKinds := [.data, .data], laidTests := true, laidLooks := .later }
def WidthOfCardSaid : Prop := Claim7.holds Tryd.pinned (.plain (OpenSpec.ofChange widthOfSpec)) widthOfCard

/-- THE TIED CARD OF 'placardlaw02.WidthRanges'. -/
def widthRangesCard : Claim7 := { stood := { row := widthRangesRow, standIns := [], harness := (true, "1b82767c4c2a38b35fead8b81f6a4612a4a31db306d2d36796affe921c8fa029"), looks := false }, kinds := [], alts := [], laidByText := true, laidKinds := [.data, .data], laidTests := true, laidLooks := .later }
def WidthRangesCardSaid : Prop := Claim7.holds Tryd.pinned (.plain (OpenSpec.ofChange widthRangesSpec)) widthRangesCard

/-- THE TIED CARD OF 'placardlaw02.WidthSums'. -/
def widthSumsCard : Claim7 := { stood := { row := widthSumsRow, standIns := [], harness := (true, "1b82767c4c2a38b35fead8b81f6a4612a4a31db306d2d36796affe921c8fa029"), looks := false }, kinds := [], alts := [], laidByText := true, laidKinds := [.data, .data], laidTests := true, laidLooks := .later }
def WidthSumsCardSaid : Prop := Claim7.holds Tryd.pinned (.plain (OpenSpec.ofChange widthSumsSpec)) widthSumsCard

/-- THE TIED CARD OF 'placardlaw02.WidthYields'. -/
def widthYieldsCard : Claim7 := { stood := { row := widthYieldsRow, standIns := [], harness := (true, "1b82767c4c2a38b35fead8b81f6a4612a4a31db306d2d36796affe921c8fa029"), looks := false }, kinds := [], alts := [], laidByText := true, laidKinds := [.data, .data], laidTests := true, laidLooks := .later }
def WidthYieldsCardSaid : Prop := Claim7.holds Tryd.pinned (.plain (OpenSpec.ofChange widthYieldsSpec)) widthYieldsCard

/-- THE TIED CARD OF 'placardlaw03.ClusterCuts'. -/
def clusterCutsCard : Claim7 := { stood := { row := clusterCutsRow, standIns := [], harness := (true, "1b82767c4c2a38b35fead8b81f6a4612a4a31db306d2d36796affe921c8fa029"), looks := false }, kinds := [], alts := [], laidByText := true, laidKinds := [.data, .data], laidTests := true, laidLooks := .later }
def ClusterCutsCardSaid : Prop := Claim7.holds Tryd.pinned (.plain (OpenSpec.ofChange clusterCutsSpec)) clusterCutsCard

/-- THE TIED CARD OF 'placardlaw03.ClusterCleans'. -/
def clusterCleansCard : Claim7 := { stood := { row := clusterCleansRow, standIns := [], harness := (true, "1b82767c4c2a38b35fead8b81f6a4612a4a31db306d2d36796affe921c8fa029"), looks := false }, kinds := [], alts := [], laidByText := true, laidKinds := [.data, .data], laidTests := true, laidLooks := .later }
def ClusterCleansCardSaid : Prop := Claim7.holds Tryd.pinned (.plain (OpenSpec.ofChange clusterCleansSpec)) clusterCleansCard

/-- THE TIED CARD OF 'placardlaw03.ClusterFits'. -/
def clusterFitsCard : Claim7 := { stood := { row := clusterFitsRow, standIns := [], harness := (true, "1b82767c4c2a38b35fead8b81f6a4612a4a31db306d2d36796affe921c8fa029"), looks := false }, kinds := [], alts := [], laidByText := true, laidKinds := [.data, .data], laidTests := true, laidLooks := .later }
def ClusterFitsCardSaid : Prop := Claim7.holds Tryd.pinned (.plain (OpenSpec.ofChange clusterFitsSpec)) clusterFitsCard

/-- THE TIED CARD OF 'placardlaw03.ClusterJoins'. -/
def clusterJoinsCard : Claim7 := { stood := { row := clusterJoinsRow, standIns := [], harness := (true, "1b82767c4c2a38b35fead8b81f6a4612a4a31db306d2d36796affe921c8fa029"), looks := false }, kinds := [], alts := [], laidByText := true, laidKinds := [.data, .data], laidTests := true, laidLooks := .later }
def ClusterJoinsCardSaid : Prop := Claim7.holds Tryd.pinned (.plain (OpenSpec.ofChange clusterJoinsSpec)) clusterJoinsCard

/-- THE SECOND FORM's CARD OF 'placardlaw02.WidthOf'. -/
def widthOfUptoCard : Claim7 := { stood := { row := widthOfUptoRow, standIns := [], harness := (true, "1b82767c4c2a38b35fead8b81f6a4612a4a31db306d2d36796affe921c8fa029"), looks := false }, kinds := [], alts := [], laidByText := true, laidKinds := [.data, .data], laidTests := true, laidLooks := .later }
def WidthOfUptoCardSaid : Prop := Claim7.holds Tryd.pinned (.plain (OpenSpec.upto widthOfSpec)) widthOfUptoCard

/-- THE SECOND FORM's CARD OF 'placardlaw02.WidthRanges'. -/
def widthRangesUptoCard : Claim7 := { stood := { row := widthRangesUptoRow, standIns := [], harness := (true, "1b82767c4c2a38b35fead8b81f6a4612a4a31db306d2d36796affe921c8fa029"), looks := false }, kinds := [], alts := [], laidByText := true, laidKinds := [.data, .data], laidTests := true, laidLooks := .later }
def WidthRangesUptoCardSaid : Prop := Claim7.holds Tryd.pinned (.plain (OpenSpec.upto widthRangesSpec)) widthRangesUptoCard

/-- THE SECOND FORM's CARD OF 'placardlaw02.WidthSums'. -/
def widthSumsUptoCard : Claim7 := { stood := { row := widthSumsUptoRow, standIns := [], harness := (true, "1b82767c4c2a38b35fead8b81f6a4612a4a31db306d2d36796affe921c8fa029"), looks := false }, kinds := [], alts := [], laidByText := true, laidKinds := [.data, .data], laidTests := true, laidLooks := .later }
def WidthSumsUptoCardSaid : Prop := Claim7.holds Tryd.pinned (.plain (OpenSpec.upto widthSumsSpec)) widthSumsUptoCard

/-- THE SECOND FORM's CARD OF 'placardlaw02.WidthYields'. -/
def widthYieldsUptoCard : Claim7 := { stood := { row := widthYieldsUptoRow, standIns := [], harness := (true, "1b82767c4c2a38b35fead8b81f6a4612a4a31db306d2d36796affe921c8fa029"), looks := false }, kinds := [], alts := [], laidByText := true, laidKinds := [.data, .data], laidTests := true, laidLooks := .later }
def WidthYieldsUptoCardSaid : Prop := Claim7.holds Tryd.pinned (.plain (OpenSpec.upto widthYieldsSpec)) widthYieldsUptoCard

/-- THE SECOND FORM's CARD OF 'placardlaw03.ClusterCuts'. -/
def clusterCutsUptoCard : Claim7 := { stood := { row := clusterCutsUptoRow, standIns := [], harness := (true, "1b82767c4c2a38b35fead8b81f6a4612a4a31db306d2d36796affe921c8fa029"), looks := false }, kinds := [], alts := [], laidByText := true, laidKinds := [.data, .data], laidTests := true, laidLooks := .later }
def ClusterCutsUptoCardSaid : Prop := Claim7.holds Tryd.pinned (.plain (OpenSpec.upto clusterCutsSpec)) clusterCutsUptoCard

/-- THE SECOND FORM's CARD OF 'placardlaw03.ClusterCleans'. -/
def clusterCleansUptoCard : Claim7 := { stood := { row := clusterCleansUptoRow, standIns := [], harness := (true, "1b82767c4c2a38b35fead8b81f6a4612a4a31db306d2d36796affe921c8fa029"), looks := false }, kinds := [], alts := [], laidByText := true, laidKinds := [.data, .data], laidTests := true, laidLooks := .later }
def ClusterCleansUptoCardSaid : Prop := Claim7.holds Tryd.pinned (.plain (OpenSpec.upto clusterCleansSpec)) clusterCleansUptoCard

/-- THE SECOND FORM's CARD OF 'placardlaw03.ClusterFits'. -/
def clusterFitsUptoCard : Claim7 := { stood := { row := clusterFitsUptoRow, standIns := [], harness := (true, "1b82767c4c2a38b35fead8b81f6a4612a4a31db306d2d36796affe921c8fa029"), looks := false }, kinds := [], alts := [], laidByText := true, laidKinds := [.data, .data], laidTests := true, laidLooks := .later }
def ClusterFitsUptoCardSaid : Prop := Claim7.holds Tryd.pinned (.plain (OpenSpec.upto clusterFitsSpec)) clusterFitsUptoCard

/-- THE SECOND FORM's CARD OF 'placardlaw03.ClusterJoins'. -/
def clusterJoinsUptoCard : Claim7 := { stood := { row := clusterJoinsUptoRow, standIns := [], harness := (true, "1b82767c4c2a38b35fead8b81f6a4612a4a31db306d2d36796affe921c8fa029"), looks := false }, kinds := [], alts := [], laidByText := true, laidKinds := [.data, .data], laidTests := true, laidLooks := .later }
def ClusterJoinsUptoCardSaid : Prop := Claim7.holds Tryd.pinned (.plain (OpenSpec.upto clusterJoinsSpec)) clusterJoinsUptoCard
end Rows
end Go.Proofs.YtmgakdbcgdhpaaaDoor
