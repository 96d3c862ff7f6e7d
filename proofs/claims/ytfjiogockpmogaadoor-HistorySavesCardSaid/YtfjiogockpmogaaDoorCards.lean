/-
  DERIVED. GIVEN WITH THE SEED: THE CARDS: each row of YtfjiogockpmogaaDoorRows.lean that lists a variable, with what it lists TIED to the program's text (the seventh form; the later family's looks); each row that meets fmt, with fmt's text TOLD by the authors' own Lean function (tested against real Go, not proved from fmt's source: count such statements apart). THE CARD IS WHAT COUNTS. Prove the row's statement (the work); the ties are given (YtfjiogockpmogaaDoorTie.lean); close each card by the builder's one call (the guide's Derived/Test/ToyasCard.lean, 'card_holds'). Laid BY PROGRAM, IN A SANDBOX (cutbox-door.mjs). By AI agents, Wed Nov 11 2026. No macro, syntax, notation, axiom, sorry.
-/
import Derived.Test.YtfjiogockpmogaaDoorRows
import GoSem.ClaimSeven
namespace Go.Proofs.YtfjiogockpmogaaDoor
namespace Rows

/-- THE TIED CARD OF 'placardlaw14.HistoryRuns'. -/
def historyRunsCard : Claim7 := { stood := { row := historyRunsRow, standIns := [], harness := (true, "d4362ac85af84611150615ecafe51dd9a523bbec9f350e7543b48612a7084f0b"), looks := false }, kinds := [], alts := [], laidByText := true, laidKinds := [.data, .data], laidTests := true, laidLooks := .later }
def HistoryRunsCardSaid : Prop := Claim7.holds Tryd.pinned (.plain (OpenSpec.ofChange historyRunsSpec)) historyRunsCard

/-- THE TIED CARD OF 'placardlaw14.HistoryFinds'. -/
def historyFindsCard : Claim7 := { stood := { row := historyFindsRow, standIns := [], harness := (true, "d4362ac85af84611150615ecafe51dd9a523bbec9f350e7543b48612a7084f0b"), looks := false }, kinds := [], alts := [], laidByText := true, laidKinds := [.data, .data], laidTests := true, laidLooks := .later }
def HistoryFindsCardSaid : Prop := Claim7.holds Tryd.pinned (.plain (OpenSpec.ofChange historyFindsSpec)) historyFindsCard

/-- THE TIED CARD OF 'placardlaw14.HistorySaves'. -/
def historySavesCard : Claim7 := { stood := { row := historySavesRow, standIns := [], harness := (true, "d4362ac85af84611150615ecafe51dd9a523bbec9f350e7543b48612a7084f0b"), looks := false }, kinds := [], alts := [], laidByText := true, laidKinds := [.data, .data], laidTests := true, laidLooks := .later }
def HistorySavesCardSaid : Prop := Claim7.holds Tryd.pinned (.plain (OpenSpec.ofChange historySavesSpec)) historySavesCard

/-- THE SECOND FORM's CARD OF 'placardlaw14.HistoryRuns'. -/
def historyRunsUptoCard : Claim7 := { stood := { row := historyRunsUptoRow, standIns := [], harness := (true, "d4362ac85af84611150615ecafe51dd9a523bbec9f350e7543b48612a7084f0b"), looks := false }, kinds := [], alts := [], laidByText := true, laidKinds := [.data, .data], laidTests := true, laidLooks := .later }
def HistoryRunsUptoCardSaid : Prop := Claim7.holds Tryd.pinned (.plain (OpenSpec.upto historyRunsSpec)) historyRunsUptoCard

/-- THE SECOND FORM's CARD OF 'placardlaw14.HistoryFinds'. -/
def historyFindsUptoCard : Claim7 := { stood := { row := historyFindsUptoRow, standIns := [], harness := (true, "d4362ac85af84611150615ecafe51dd9a523bbec9f350e7543b48612a7084f0b"), looks := false }, kinds := [], alts := [], laidByText := true, laidKinds := [.data, .data], laidTests := true, laidLooks := .later }
def HistoryFindsUptoCardSaid : Prop := Claim7.holds Tryd.pinned (.plain (OpenSpec.upto historyFindsSpec)) historyFindsUptoCard

/-- THE SECOND FORM's CARD OF 'placardlaw14.HistorySaves'. -/
def historySavesUptoCard : Claim7 := { stood := { row := historySavesUptoRow, standIns := [], harness := (true, "d4362ac85af84611150615ecafe51dd9a523bbec9f350e7543b48612a7084f0b"), looks := false }, kinds := [], alts := [], laidByText := true, laidKinds := [.data, .data], laidTests := true, laidLooks := .later }
def HistorySavesUptoCardSaid : Prop := Claim7.holds Tryd.pinned (.plain (OpenSpec.upto historySavesSpec)) historySavesUptoCard
end Rows
end Go.Proofs.YtfjiogockpmogaaDoor
