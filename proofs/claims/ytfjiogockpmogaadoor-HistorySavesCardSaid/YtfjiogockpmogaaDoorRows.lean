/-
  NARROWER THAN 'FOR EVERY INPUT', by the rows' own cells (each row's printed sentence says how): HistoryRuns: laid · HistoryFinds: laid · HistorySaves: laid.
  DERIVED. THE GIVEN ROWS OF THIS SEAT. 3 by the template 'for every input the law returns true; each argument reads behind the call as it read before'; 0 by the template 'total and deterministic' (their statements: YtfjiogockpmogaaDoorTotals.lean).
  GIVEN WITH THE SEED: the statements are not yours to turn. If you find one false, say at which input.
  Laid BY PROGRAM, IN A SANDBOX (cutbox-rows.mjs): the forced cells as the released guide's own fill.sh prints them over the translation 4011137ecc33dc35… (all of the seat's roots in one cut). By AI agents, Wed Nov 11 2026. No macro, syntax, notation, axiom, sorry.
-/
import Derived.Test.YtfjiogockpmogaaDoorChecked
import GoSem.Claim
import GoSem.ClaimJoined
import GoSem.ClaimMapViews
import Derived.JoinedTies
import Derived.KernelRfl
namespace Go.Proofs.YtfjiogockpmogaaDoor
/- THE CELL 'sum', in the pinned program and in every row, IS THE sha256 OF THE DUMP (.gsa) THAT YtfjiogockpmogaaDoorProg.lean LOADS. Nothing in Lean hashes anything: it is a label: what it is worth is what the hold of that sum in a sandbox is worth. -/
noncomputable def Tryd.pinned : Pinned := { name := "ytfjiogockpmogaadoor", sum := "4011137ecc33dc356f51fcca8f8a3b7bf46c09c0f855a2fcf576b5e7a3879d63", checked := Tryd.checked }
namespace Rows
def none {H : Type} : Left H := { results := [], args := [] }

/- WHAT THE LISTED PACKAGE-LEVEL VARIABLES READ AS WHEN THE CALL BEGINS. Each datum BY PROGRAM (the guide's laid-datum.mjs) off the statement by which the dump's own 'gosem.cut.vars' lays the variable. In a bare row this is a premise. The card (YtfjiogockpmogaaDoorCards.lean) ties it to the program's text. -/
def laid_placard_width_marks {H : Type} : DataW H := .agg [.lit (.int .i32 768), .lit (.int .i32 879), .lit (.int .i32 1155), .lit (.int .i32 1161), .lit (.int .i32 1425), .lit (.int .i32 1469), .lit (.int .i32 1471), .lit (.int .i32 1471), .lit (.int .i32 1473), .lit (.int .i32 1474), .lit (.int .i32 1476), .lit (.int .i32 1477), .lit (.int .i32 1479), .lit (.int .i32 1479), .lit (.int .i32 1552), .lit (.int .i32 1562), .lit (.int .i32 1611), .lit (.int .i32 1631), .lit (.int .i32 1648), .lit (.int .i32 1648), .lit (.int .i32 1750), .lit (.int .i32 1756), .lit (.int .i32 1759), .lit (.int .i32 1764), .lit (.int .i32 1767), .lit (.int .i32 1768), .lit (.int .i32 1770), .lit (.int .i32 1773), .lit (.int .i32 3633), .lit (.int .i32 3633), .lit (.int .i32 3636), .lit (.int .i32 3642), .lit (.int .i32 3655), .lit (.int .i32 3662), .lit (.int .i32 6832), .lit (.int .i32 6911), .lit (.int .i32 7616), .lit (.int .i32 7679), .lit (.int .i32 8203), .lit (.int .i32 8207), .lit (.int .i32 8288), .lit (.int .i32 8292), .lit (.int .i32 8400), .lit (.int .i32 8432), .lit (.int .i32 12330), .lit (.int .i32 12333), .lit (.int .i32 12441), .lit (.int .i32 12442), .lit (.int .i32 65024), .lit (.int .i32 65039), .lit (.int .i32 65056), .lit (.int .i32 65071), .lit (.int .i32 65279), .lit (.int .i32 65279), .lit (.int .i32 917760), .lit (.int .i32 917999)]
def laid_placard_width_wides {H : Type} : DataW H := .agg [.lit (.int .i32 4352), .lit (.int .i32 4447), .lit (.int .i32 8986), .lit (.int .i32 8987), .lit (.int .i32 9001), .lit (.int .i32 9002), .lit (.int .i32 9193), .lit (.int .i32 9196), .lit (.int .i32 9200), .lit (.int .i32 9200), .lit (.int .i32 9203), .lit (.int .i32 9203), .lit (.int .i32 9725), .lit (.int .i32 9726), .lit (.int .i32 9748), .lit (.int .i32 9749), .lit (.int .i32 9800), .lit (.int .i32 9811), .lit (.int .i32 9855), .lit (.int .i32 9855), .lit (.int .i32 9875), .lit (.int .i32 9875), .lit (.int .i32 9889), .lit (.int .i32 9889), .lit (.int .i32 9898), .lit (.int .i32 9899), .lit (.int .i32 9917), .lit (.int .i32 9918), .lit (.int .i32 9924), .lit (.int .i32 9925), .lit (.int .i32 9934), .lit (.int .i32 9934), .lit (.int .i32 9940), .lit (.int .i32 9940), .lit (.int .i32 9962), .lit (.int .i32 9962), .lit (.int .i32 9970), .lit (.int .i32 9971), .lit (.int .i32 9973), .lit (.int .i32 9973), .lit (.int .i32 9978), .lit (.int .i32 9978), .lit (.int .i32 9981), .lit (.int .i32 9981), .lit (.int .i32 9989), .lit (.int .i32 9989), .lit (.int .i32 9994), .lit (.int .i32 9995), .lit (.int .i32 10024), .lit (.int .i32 10024), .lit (.int .i32 10060), .lit (.int .i32 10060), .lit (.int .i32 10062), .lit (.int .i32 10062), .lit (.int .i32 10067), .lit (.int .i32 10069), .lit (.int .i32 10071), .lit (.int .i32 10071), .lit (.int .i32 10133), .lit (.int .i32 10135), .lit (.int .i32 10160), .lit (.int .i32 10160), .lit (.int .i32 10175), .lit (.int .i32 10175), .lit (.int .i32 11035), .lit (.int .i32 11036), .lit (.int .i32 11088), .lit (.int .i32 11088), .lit (.int .i32 11093), .lit (.int .i32 11093), .lit (.int .i32 11904), .lit (.int .i32 12350), .lit (.int .i32 12353), .lit (.int .i32 19903), .lit (.int .i32 19968), .lit (.int .i32 42191), .lit (.int .i32 43360), .lit (.int .i32 43391), .lit (.int .i32 44032), .lit (.int .i32 55203), .lit (.int .i32 63744), .lit (.int .i32 64255), .lit (.int .i32 65040), .lit (.int .i32 65049), .lit (.int .i32 65072), .lit (.int .i32 65135), .lit (.int .i32 65281), .lit (.int .i32 65376), .lit (.int .i32 65504), .lit (.int .i32 65510), .lit (.int .i32 127744), .lit (.int .i32 128591), .lit (.int .i32 128640), .lit (.int .i32 128767), .lit (.int .i32 129280), .lit (.int .i32 129535), .lit (.int .i32 129648), .lit (.int .i32 129791), .lit (.int .i32 131072), .lit (.int .i32 196605), .lit (.int .i32 196608), .lit (.int .i32 262141)]

/-- 'placardlaw14.HistoryRuns': WHATEVER THE INPUT: true; the input reads as it did. -/
def historyRunsSpec : ChangeSpec := { name := "historyRuns", fn := fun _ => fun
  | [d1, d2, d3, d4] => { results := [.lit (.bool true)], args := [d1, d2, d3, d4] }
  | _ => none }
def historyRunsRow : OpenClaim := { program := "ytfjiogockpmogaadoor", sum := "4011137ecc33dc356f51fcca8f8a3b7bf46c09c0f855a2fcf576b5e7a3879d63", func := "placard/placardlaw14.HistoryRuns", spec := "historyRuns", inPlace := ["internal/abi.NoEscape"], unfollowed := true, recurses := true, named := ["placard/width.marks", "placard/width.wides"], apart := false, laid := [("placard/width.marks", laid_placard_width_marks), ("placard/width.wides", laid_placard_width_wides)] }
def HistoryRunsSaid : Prop := historyRunsRow.holds Tryd.pinned (OpenSpec.ofChange historyRunsSpec)

/-- ITS FALSE NEIGHBOUR: 'it returns false'. Refute it at one input. -/
def historyRunsWrong : ChangeSpec := { name := "historyRuns", fn := fun _ => fun
  | [d1, d2, d3, d4] => { results := [.lit (.bool false)], args := [d1, d2, d3, d4] }
  | _ => none }
def HistoryRunsWrongFalsely : Prop := historyRunsRow.holds Tryd.pinned (OpenSpec.ofChange historyRunsWrong)

/-- 'placardlaw14.HistoryFinds': WHATEVER THE INPUT: true; the input reads as it did. -/
def historyFindsSpec : ChangeSpec := { name := "historyFinds", fn := fun _ => fun
  | [d1, d2, d3] => { results := [.lit (.bool true)], args := [d1, d2, d3] }
  | _ => none }
def historyFindsRow : OpenClaim := { program := "ytfjiogockpmogaadoor", sum := "4011137ecc33dc356f51fcca8f8a3b7bf46c09c0f855a2fcf576b5e7a3879d63", func := "placard/placardlaw14.HistoryFinds", spec := "historyFinds", inPlace := ["internal/bytealg.IndexByteString", "internal/bytealg.IndexString", "internal/abi.NoEscape"], unfollowed := true, recurses := true, named := ["placard/width.marks", "placard/width.wides", "internal/bytealg.MaxLen"], apart := false, laid := [("placard/width.marks", laid_placard_width_marks), ("placard/width.wides", laid_placard_width_wides)] }
def HistoryFindsSaid : Prop := historyFindsRow.holds Tryd.pinned (OpenSpec.ofChange historyFindsSpec)

/-- ITS FALSE NEIGHBOUR: 'it returns false'. Refute it at one input. -/
def historyFindsWrong : ChangeSpec := { name := "historyFinds", fn := fun _ => fun
  | [d1, d2, d3] => { results := [.lit (.bool false)], args := [d1, d2, d3] }
  | _ => none }
def HistoryFindsWrongFalsely : Prop := historyFindsRow.holds Tryd.pinned (OpenSpec.ofChange historyFindsWrong)

/-- 'placardlaw14.HistorySaves': WHATEVER THE INPUT: true; the input reads as it did. -/
def historySavesSpec : ChangeSpec := { name := "historySaves", fn := fun _ => fun
  | [d1, d2, d3] => { results := [.lit (.bool true)], args := [d1, d2, d3] }
  | _ => none }
def historySavesRow : OpenClaim := { program := "ytfjiogockpmogaadoor", sum := "4011137ecc33dc356f51fcca8f8a3b7bf46c09c0f855a2fcf576b5e7a3879d63", func := "placard/placardlaw14.HistorySaves", spec := "historySaves", inPlace := ["internal/bytealg.IndexByteString", "internal/abi.NoEscape"], unfollowed := true, recurses := true, named := ["placard/width.marks", "placard/width.wides"], apart := false, laid := [("placard/width.marks", laid_placard_width_marks), ("placard/width.wides", laid_placard_width_wides)] }
def HistorySavesSaid : Prop := historySavesRow.holds Tryd.pinned (OpenSpec.ofChange historySavesSpec)

/-- ITS FALSE NEIGHBOUR: 'it returns false'. Refute it at one input. -/
def historySavesWrong : ChangeSpec := { name := "historySaves", fn := fun _ => fun
  | [d1, d2, d3] => { results := [.lit (.bool false)], args := [d1, d2, d3] }
  | _ => none }
def HistorySavesWrongFalsely : Prop := historySavesRow.holds Tryd.pinned (OpenSpec.ofChange historySavesWrong)

/- THE SECOND FORM. 'bulk': how many values and letters a reading holds, each counted each time it is reached (what is shared counts as often as it is met; a slice's spare places count too). A statement '..UptoSaid' is the law's where the arguments, and the package variables that the reading takes, are together of bulk at most 1048576: NARROWER than '..Said'. Prove '..Said' where nothing that the law and all that it calls make is longer than what came in: it says more and counts as full. Else prove '..UptoSaid'. A law counts once. -/
mutual
def uptoBulk {H : Type} : DataW H → Nat
  | .lit (.string bytes) => bytes.length + 1
  | .lit _ => 1
  | .nil => 1
  | .ptr d => uptoBulk d + 1
  | .slice elems spare => uptoBulkAll elems + uptoBulkAll spare + 1
  | .agg parts => uptoBulkAll parts + 1
  | .iface _ d => uptoBulk d + 1
  | .map entries => uptoBulkEntries entries + 1
  | .held _ => 1
def uptoBulkAll {H : Type} : List (DataW H) → Nat
  | [] => 0
  | d :: r => uptoBulk d + uptoBulkAll r
def uptoBulkEntries {H : Type} : List (Lit × DataW H) → Nat
  | [] => 0
  | x :: r => uptoBulkEntry x + uptoBulkEntries r
def uptoBulkEntry {H : Type} : Lit × DataW H → Nat
  | (.string bytes, d) => bytes.length + uptoBulk d + 1
  | (_, d) => uptoBulk d + 1
 end
def uptoSmall : (H : Type) → List (DataW H) → Bool := fun _ ds => decide (uptoBulkAll ds ≤ 1048576)
def OpenSpec.upto (s : _root_.Go.ChangeSpec) : _root_.Go.OpenSpec := { _root_.Go.OpenSpec.ofChange s with cond := some uptoSmall }

/-- 'placardlaw14.HistoryRuns', WHERE WHAT IT READS IS OF BULK AT MOST 1048576: true; the input reads as it did. -/
def historyRunsUptoRow : OpenClaim := { program := "ytfjiogockpmogaadoor", sum := "4011137ecc33dc356f51fcca8f8a3b7bf46c09c0f855a2fcf576b5e7a3879d63", func := "placard/placardlaw14.HistoryRuns", spec := "historyRuns", inPlace := ["internal/abi.NoEscape"], unfollowed := true, recurses := true, named := ["placard/width.marks", "placard/width.wides"], apart := false, laid := [("placard/width.marks", laid_placard_width_marks), ("placard/width.wides", laid_placard_width_wides)], narrowed := true }
def HistoryRunsUptoSaid : Prop := historyRunsUptoRow.holds Tryd.pinned (OpenSpec.upto historyRunsSpec)

/-- 'placardlaw14.HistoryFinds', WHERE WHAT IT READS IS OF BULK AT MOST 1048576: true; the input reads as it did. -/
def historyFindsUptoRow : OpenClaim := { program := "ytfjiogockpmogaadoor", sum := "4011137ecc33dc356f51fcca8f8a3b7bf46c09c0f855a2fcf576b5e7a3879d63", func := "placard/placardlaw14.HistoryFinds", spec := "historyFinds", inPlace := ["internal/bytealg.IndexByteString", "internal/bytealg.IndexString", "internal/abi.NoEscape"], unfollowed := true, recurses := true, named := ["placard/width.marks", "placard/width.wides", "internal/bytealg.MaxLen"], apart := false, laid := [("placard/width.marks", laid_placard_width_marks), ("placard/width.wides", laid_placard_width_wides)], narrowed := true }
def HistoryFindsUptoSaid : Prop := historyFindsUptoRow.holds Tryd.pinned (OpenSpec.upto historyFindsSpec)

/-- 'placardlaw14.HistorySaves', WHERE WHAT IT READS IS OF BULK AT MOST 1048576: true; the input reads as it did. -/
def historySavesUptoRow : OpenClaim := { program := "ytfjiogockpmogaadoor", sum := "4011137ecc33dc356f51fcca8f8a3b7bf46c09c0f855a2fcf576b5e7a3879d63", func := "placard/placardlaw14.HistorySaves", spec := "historySaves", inPlace := ["internal/bytealg.IndexByteString", "internal/abi.NoEscape"], unfollowed := true, recurses := true, named := ["placard/width.marks", "placard/width.wides"], apart := false, laid := [("placard/width.marks", laid_placard_width_marks), ("placard/width.wides", laid_placard_width_wides)], narrowed := true }
def HistorySavesUptoSaid : Prop := historySavesUptoRow.holds Tryd.pinned (OpenSpec.upto historySavesSpec)

end Rows
end Go.Proofs.YtfjiogockpmogaaDoor
