/-
  NARROWER THAN 'FOR EVERY INPUT', by the rows' own cells (each row's printed sentence says how): GridRuns: laid · GridPuts: laid · GridYields: laid · GridNobody: laid.
  DERIVED. THE GIVEN ROWS OF THIS SEAT. 4 by the template 'for every input the law returns true; each argument reads behind the call as it read before'; 0 by the template 'total and deterministic' (their statements: YtijbimofigkdkaaDoorTotals.lean).
  GIVEN WITH THE SEED: the statements are not yours to turn. If you find one false, say at which input.
  Laid BY PROGRAM, IN A SANDBOX (cutbox-rows.mjs): the forced cells as the released guide's own fill.sh prints them over the translation baf61ff9f42fb5f1… (all of the seat's roots in one cut). By AI agents, Wed Nov 11 2026. No macro, syntax, notation, axiom, sorry.
-/
import Derived.Test.YtijbimofigkdkaaDoorChecked
import GoSem.PinnedTables
import GoSem.Claim
import GoSem.ClaimJoined
import GoSem.ClaimMapViews
import Derived.JoinedTies
import Derived.KernelRfl
namespace Go.Proofs.YtijbimofigkdkaaDoor
/- THE CELL 'sum', in the pinned program and in every row, IS THE sha256 OF THE DUMP (.gsa) THAT YtijbimofigkdkaaDoorProg.lean LOADS. Nothing in Lean hashes anything: it is a label: what it is worth is what the hold of that sum in a sandbox is worth. -/
noncomputable def Tryd.pinned : Pinned := { name := "ytijbimofigkdkaadoor", sum := "baf61ff9f42fb5f1220392188c5d1be9636d044dd0396f2ca446252e1823649e", checked := Tryd.checked }
namespace Rows
def none {H : Type} : Left H := { results := [], args := [] }

/- WHAT THE LISTED PACKAGE-LEVEL VARIABLES READ AS WHEN THE CALL BEGINS. Each datum BY PROGRAM (the guide's laid-datum.mjs) off the statement by which the dump's own 'gosem.cut.vars' lays the variable. In a bare row this is a premise. The card (YtijbimofigkdkaaDoorCards.lean) ties it to the program's text. -/
def laid_unicode_utf8_acceptRanges {H : Type} : DataW H := .agg [.agg [.lit (.int .u8 128), .lit (.int .u8 191)], .agg [.lit (.int .u8 160), .lit (.int .u8 191)], .agg [.lit (.int .u8 128), .lit (.int .u8 159)], .agg [.lit (.int .u8 144), .lit (.int .u8 191)], .agg [.lit (.int .u8 128), .lit (.int .u8 143)], .agg [.lit (.int .u8 0), .lit (.int .u8 0)], .agg [.lit (.int .u8 0), .lit (.int .u8 0)], .agg [.lit (.int .u8 0), .lit (.int .u8 0)], .agg [.lit (.int .u8 0), .lit (.int .u8 0)], .agg [.lit (.int .u8 0), .lit (.int .u8 0)], .agg [.lit (.int .u8 0), .lit (.int .u8 0)], .agg [.lit (.int .u8 0), .lit (.int .u8 0)], .agg [.lit (.int .u8 0), .lit (.int .u8 0)], .agg [.lit (.int .u8 0), .lit (.int .u8 0)], .agg [.lit (.int .u8 0), .lit (.int .u8 0)], .agg [.lit (.int .u8 0), .lit (.int .u8 0)]]
def laid_placard_grid_blank {H : Type} : DataW H := .agg [.lit (.string [32]), .lit (.int .i64 1), .agg [.lit (.bool false), .lit (.bool false), .lit (.bool false), .lit (.int .i64 0), .lit (.int .i64 0)]]
/-- One of Go's own tables, pinned by name: the form's constant. -/
def laid_unicode_utf8_first : DataW Unit := Go.Pinned.utf8First

/-- 'placardlaw04.GridRuns': WHATEVER THE INPUT: true; the input reads as it did. -/
def gridRunsSpec : ChangeSpec := { name := "gridRuns", fn := fun _ => fun
  | [d1, d2, d3] => { results := [.lit (.bool true)], args := [d1, d2, d3] }
  | _ => none }
def gridRunsRow : OpenClaim := { program := "ytijbimofigkdkaadoor", sum := "baf61ff9f42fb5f1220392188c5d1be9636d044dd0396f2ca446252e1823649e", func := "placard/placardlaw04.GridRuns", spec := "gridRuns", inPlace := ["internal/abi.NoEscape", "internal/bytealg.IndexByteString", "internal/bytealg.IndexString"], unfollowed := true, recurses := true, named := ["placard/grid.blank", "unicode/utf8.first", "unicode/utf8.acceptRanges", "internal/bytealg.MaxLen"], apart := false, laid := [("unicode/utf8.acceptRanges", laid_unicode_utf8_acceptRanges), ("placard/grid.blank", laid_placard_grid_blank), ("unicode/utf8.first", laid_unicode_utf8_first)] }
def GridRunsSaid : Prop := gridRunsRow.holds Tryd.pinned (OpenSpec.ofChange gridRunsSpec)

/-- ITS FALSE NEIGHBOUR: 'it returns false'. Refute it at one input. -/
def gridRunsWrong : ChangeSpec := { name := "gridRuns", fn := fun _ => fun
  | [d1, d2, d3] => { results := [.lit (.bool false)], args := [d1, d2, d3] }
  | _ => none }
def GridRunsWrongFalsely : Prop := gridRunsRow.holds Tryd.pinned (OpenSpec.ofChange gridRunsWrong)

/-- 'placardlaw04.GridPuts': WHATEVER THE INPUT: true; the input reads as it did. -/
def gridPutsSpec : ChangeSpec := { name := "gridPuts", fn := fun _ => fun
  | [d1, d2] => { results := [.lit (.bool true)], args := [d1, d2] }
  | _ => none }
def gridPutsRow : OpenClaim := { program := "ytijbimofigkdkaadoor", sum := "baf61ff9f42fb5f1220392188c5d1be9636d044dd0396f2ca446252e1823649e", func := "placard/placardlaw04.GridPuts", spec := "gridPuts", inPlace := ["internal/abi.NoEscape", "internal/bytealg.IndexByteString", "internal/bytealg.IndexString"], unfollowed := true, recurses := true, named := ["placard/grid.blank", "unicode/utf8.first", "unicode/utf8.acceptRanges", "internal/bytealg.MaxLen"], apart := false, laid := [("unicode/utf8.acceptRanges", laid_unicode_utf8_acceptRanges), ("placard/grid.blank", laid_placard_grid_blank), ("unicode/utf8.first", laid_unicode_utf8_first)] }
def GridPutsSaid : Prop := gridPutsRow.holds Tryd.pinned (OpenSpec.ofChange gridPutsSpec)

/-- ITS FALSE NEIGHBOUR: 'it returns false'. Refute it at one input. -/
def gridPutsWrong : ChangeSpec := { name := "gridPuts", fn := fun _ => fun
  | [d1, d2] => { results := [.lit (.bool false)], args := [d1, d2] }
  | _ => none }
def GridPutsWrongFalsely : Prop := gridPutsRow.holds Tryd.pinned (OpenSpec.ofChange gridPutsWrong)

/-- 'placardlaw04.GridYields': WHATEVER THE INPUT: true; the input reads as it did. -/
def gridYieldsSpec : ChangeSpec := { name := "gridYields", fn := fun _ => fun
  | [d1, d2] => { results := [.lit (.bool true)], args := [d1, d2] }
  | _ => none }
def gridYieldsRow : OpenClaim := { program := "ytijbimofigkdkaadoor", sum := "baf61ff9f42fb5f1220392188c5d1be9636d044dd0396f2ca446252e1823649e", func := "placard/placardlaw04.GridYields", spec := "gridYields", inPlace := ["internal/abi.NoEscape", "internal/bytealg.IndexByteString", "internal/bytealg.IndexString"], unfollowed := true, recurses := true, named := ["placard/grid.blank", "unicode/utf8.first", "unicode/utf8.acceptRanges", "internal/bytealg.MaxLen"], apart := false, laid := [("unicode/utf8.acceptRanges", laid_unicode_utf8_acceptRanges), ("placard/grid.blank", laid_placard_grid_blank), ("unicode/utf8.first", laid_unicode_utf8_first)] }
def GridYieldsSaid : Prop := gridYieldsRow.holds Tryd.pinned (OpenSpec.ofChange gridYieldsSpec)

/-- ITS FALSE NEIGHBOUR: 'it returns false'. Refute it at one input. -/
def gridYieldsWrong : ChangeSpec := { name := "gridYields", fn := fun _ => fun
  | [d1, d2] => { results := [.lit (.bool false)], args := [d1, d2] }
  | _ => none }
def GridYieldsWrongFalsely : Prop := gridYieldsRow.holds Tryd.pinned (OpenSpec.ofChange gridYieldsWrong)

/-- 'placardlaw04.GridNobody': WHATEVER THE INPUT: true; the input reads as it did. -/
def gridNobodySpec : ChangeSpec := { name := "gridNobody", fn := fun _ => fun
  | [d] => { results := [.lit (.bool true)], args := [d] }
  | _ => none }
def gridNobodyRow : OpenClaim := { program := "ytijbimofigkdkaadoor", sum := "baf61ff9f42fb5f1220392188c5d1be9636d044dd0396f2ca446252e1823649e", func := "placard/placardlaw04.GridNobody", spec := "gridNobody", inPlace := ["internal/abi.NoEscape", "internal/bytealg.IndexByteString", "internal/bytealg.IndexString"], unfollowed := true, recurses := true, named := ["placard/grid.blank", "unicode/utf8.first", "unicode/utf8.acceptRanges", "internal/bytealg.MaxLen"], apart := false, laid := [("unicode/utf8.acceptRanges", laid_unicode_utf8_acceptRanges), ("placard/grid.blank", laid_placard_grid_blank), ("unicode/utf8.first", laid_unicode_utf8_first)] }
def GridNobodySaid : Prop := gridNobodyRow.holds Tryd.pinned (OpenSpec.ofChange gridNobodySpec)

/-- ITS FALSE NEIGHBOUR: 'it returns false'. Refute it at one input. -/
def gridNobodyWrong : ChangeSpec := { name := "gridNobody", fn := fun _ => fun
  | [d] => { results := [.lit (.bool false)], args := [d] }
  | _ => none }
def GridNobodyWrongFalsely : Prop := gridNobodyRow.holds Tryd.pinned (OpenSpec.ofChange gridNobodyWrong)

/- THE SECOND FORM. 'bulk': how many values and letters a reading holds, each counted each time it is reached (what is shared counts as often as it is met; a slice's spare places count too). A statement '..UptoSaid' is the law's where the arguments, and the package variables that the reading takes, are together of bulk at most 1048576: NARROWER than '..Said'. Prove '..Said' where nothing that the law and all that it calls make is longer than what came in: it says more and counts as full. Else prove '..UptoSaid'. A law counts once. -/
mutual
def uptoBulk {H : Type} : DataW H → Nat
  | .lit (.string bytes) => bytes.length + 1
  | .lit _ => 1
  | .nil => 1
  | .ptr d => uptoBulk d + 1
  | .slice elems spare => uptoBulkAll elems + uptoBulkAll spare + 1
  | .agg parts => uptoBulkAll parts + 1
  | .iface _ d => uptoBulk d + 1
  | .map entries => uptoBulkEntries entries + 1
  | .held _ => 1
def uptoBulkAll {H : Type} : List (DataW H) → Nat
  | [] => 0
  | d :: r => uptoBulk d + uptoBulkAll r
def uptoBulkEntries {H : Type} : List (Lit × DataW H) → Nat
  | [] => 0
  | x :: r => uptoBulkEntry x + uptoBulkEntries r
def uptoBulkEntry {H : Type} : Lit × DataW H → Nat
  | (.string bytes, d) => bytes.length + uptoBulk d + 1
  | (_, d) => uptoBulk d + 1
 end
def uptoSmall : (H : Type) → List (DataW H) → Bool := fun _ ds => decide (uptoBulkAll ds ≤ 1048576)
def OpenSpec.upto (s : _root_.Go.ChangeSpec) : _root_.Go.OpenSpec := { _root_.Go.OpenSpec.ofChange s with cond := some uptoSmall }

/-- 'placardlaw04.GridRuns', WHERE WHAT IT READS IS OF BULK AT MOST 1048576: true; the input reads as it did. -/
def gridRunsUptoRow : OpenClaim := { program := "ytijbimofigkdkaadoor", sum := "baf61ff9f42fb5f1220392188c5d1be9636d044dd0396f2ca446252e1823649e", func := "placard/placardlaw04.GridRuns", spec := "gridRuns", inPlace := ["internal/abi.NoEscape", "internal/bytealg.IndexByteString", "internal/bytealg.IndexString"], unfollowed := true, recurses := true, named := ["placard/grid.blank", "unicode/utf8.first", "unicode/utf8.acceptRanges", "internal/bytealg.MaxLen"], apart := false, laid := [("unicode/utf8.acceptRanges", laid_unicode_utf8_acceptRanges), ("placard/grid.blank", laid_placard_grid_blank), ("unicode/utf8.first", laid_unicode_utf8_first)], narrowed := true }
def GridRunsUptoSaid : Prop := gridRunsUptoRow.holds Tryd.pinned (OpenSpec.upto gridRunsSpec)

/-- 'placardlaw04.GridPuts', WHERE WHAT IT READS IS OF BULK AT MOST 1048576: true; the input reads as it did. -/
def gridPutsUptoRow : OpenClaim := { program := "ytijbimofigkdkaadoor", sum := "baf61ff9f42fb5f1220392188c5d1be9636d044dd0396f2ca446252e1823649e", func := "placard/placardlaw04.GridPuts", spec := "gridPuts", inPlace := ["internal/abi.NoEscape", "internal/bytealg.IndexByteString", "internal/bytealg.IndexString"], unfollowed := true, recurses := true, named := ["placard/grid.blank", "unicode/utf8.first", "unicode/utf8.acceptRanges", "internal/bytealg.MaxLen"], apart := false, laid := [("unicode/utf8.acceptRanges", laid_unicode_utf8_acceptRanges), ("placard/grid.blank", laid_placard_grid_blank), ("unicode/utf8.first", laid_unicode_utf8_first)], narrowed := true }
def GridPutsUptoSaid : Prop := gridPutsUptoRow.holds Tryd.pinned (OpenSpec.upto gridPutsSpec)

/-- 'placardlaw04.GridYields', WHERE WHAT IT READS IS OF BULK AT MOST 1048576: true; the input reads as it did. -/
def gridYieldsUptoRow : OpenClaim := { program := "ytijbimofigkdkaadoor", sum := "baf61ff9f42fb5f1220392188c5d1be9636d044dd0396f2ca446252e1823649e", func := "placard/placardlaw04.GridYields", spec := "gridYields", inPlace := ["internal/abi.NoEscape", "internal/bytealg.IndexByteString", "internal/bytealg.IndexString"], unfollowed := true, recurses := true, named := ["placard/grid.blank", "unicode/utf8.first", "unicode/utf8.acceptRanges", "internal/bytealg.MaxLen"], apart := false, laid := [("unicode/utf8.acceptRanges", laid_unicode_utf8_acceptRanges), ("placard/grid.blank", laid_placard_grid_blank), ("unicode/utf8.first", laid_unicode_utf8_first)], narrowed := true }
def GridYieldsUptoSaid : Prop := gridYieldsUptoRow.holds Tryd.pinned (OpenSpec.upto gridYieldsSpec)

/-- 'placardlaw04.GridNobody', WHERE WHAT IT READS IS OF BULK AT MOST 1048576: true; the input reads as it did. -/
def gridNobodyUptoRow : OpenClaim := { program := "ytijbimofigkdkaadoor", sum := "baf61ff9f42fb5f1220392188c5d1be9636d044dd0396f2ca446252e1823649e", func := "placard/placardlaw04.GridNobody", spec := "gridNobody", inPlace := ["internal/abi.NoEscape", "internal/bytealg.IndexByteString", "internal/bytealg.IndexString"], unfollowed := true, recurses := true, named := ["placard/grid.blank", "unicode/utf8.first", "unicode/utf8.acceptRanges", "internal/bytealg.MaxLen"], apart := false, laid := [("unicode/utf8.acceptRanges", laid_unicode_utf8_acceptRanges), ("placard/grid.blank", laid_placard_grid_blank), ("unicode/utf8.first", laid_unicode_utf8_first)], narrowed := true }
def GridNobodyUptoSaid : Prop := gridNobodyUptoRow.holds Tryd.pinned (OpenSpec.upto gridNobodySpec)

end Rows
end Go.Proofs.YtijbimofigkdkaaDoor
