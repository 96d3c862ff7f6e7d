/-
  No cell of these rows narrows 'for every input' (looked for: loops, veiled, ifaces, maps, wideKeys, modest, calm, conditions, laid).
  DERIVED. THE GIVEN ROWS OF THIS SEAT. 6 by the template 'for every input the law returns true; each argument reads behind the call as it read before'; 0 by the template 'total and deterministic' (their statements: YtdodogehlnchlaaTotals.lean).
  GIVEN WITH THE SEED: the statements are not yours to turn. If you find one false, say at which input.
  Laid BY PROGRAM, IN A SANDBOX (cutbox-rows.mjs): the forced cells as the released guide's own fill.sh prints them over the translation 6faa514ccd26fb80… (all of the seat's roots in one cut). By AI agents, Wed Nov 11 2026. No macro, syntax, notation, axiom, sorry.
-/
import Derived.Test.YtdodogehlnchlaaChecked
import GoSem.Claim
import GoSem.ClaimJoined
import GoSem.ClaimMapViews
import Derived.JoinedTies
import Derived.KernelRfl
namespace Go.Proofs.Ytdodogehlnchlaa
/- THE CELL 'sum', in the pinned program and in every row, IS THE sha256 OF THE DUMP (.gsa) THAT YtdodogehlnchlaaProg.lean LOADS. Nothing in Lean hashes anything: it is a label: what it is worth is what the hold of that sum in a sandbox is worth. -/
noncomputable def Try.pinned : Pinned := { name := "ytdodogehlnchlaa", sum := "6faa514ccd26fb808eb222560f7672ba0cd67446c1eb24f639e3ae37bf5d16b2", checked := Try.checked }
namespace Rows
def none {H : Type} : Left H := { results := [], args := [] }

/-- 'placardlaw16.LayoutSizes': WHATEVER THE INPUT: true; the input reads as it did. -/
def layoutSizesSpec : ChangeSpec := { name := "layoutSizes", fn := fun _ => fun
  | [d1, d2, d3] => { results := [.lit (.bool true)], args := [d1, d2, d3] }
  | _ => none }
def layoutSizesRow : OpenClaim := { program := "ytdodogehlnchlaa", sum := "6faa514ccd26fb808eb222560f7672ba0cd67446c1eb24f639e3ae37bf5d16b2", func := "placard/placardlaw16.LayoutSizes", spec := "layoutSizes", unfollowed := true, recurses := true, apart := false }
def LayoutSizesSaid : Prop := layoutSizesRow.holds Try.pinned (OpenSpec.ofChange layoutSizesSpec)

/-- ITS FALSE NEIGHBOUR: 'it returns false'. Refute it at one input. -/
def layoutSizesWrong : ChangeSpec := { name := "layoutSizes", fn := fun _ => fun
  | [d1, d2, d3] => { results := [.lit (.bool false)], args := [d1, d2, d3] }
  | _ => none }
def LayoutSizesWrongFalsely : Prop := layoutSizesRow.holds Try.pinned (OpenSpec.ofChange layoutSizesWrong)

/-- 'placardlaw16.LayoutHolds': WHATEVER THE INPUT: true; the input reads as it did. -/
def layoutHoldsSpec : ChangeSpec := { name := "layoutHolds", fn := fun _ => fun
  | [d1, d2, d3] => { results := [.lit (.bool true)], args := [d1, d2, d3] }
  | _ => none }
def layoutHoldsRow : OpenClaim := { program := "ytdodogehlnchlaa", sum := "6faa514ccd26fb808eb222560f7672ba0cd67446c1eb24f639e3ae37bf5d16b2", func := "placard/placardlaw16.LayoutHolds", spec := "layoutHolds", unfollowed := true, recurses := true, apart := false }
def LayoutHoldsSaid : Prop := layoutHoldsRow.holds Try.pinned (OpenSpec.ofChange layoutHoldsSpec)

/-- ITS FALSE NEIGHBOUR: 'it returns false'. Refute it at one input. -/
def layoutHoldsWrong : ChangeSpec := { name := "layoutHolds", fn := fun _ => fun
  | [d1, d2, d3] => { results := [.lit (.bool false)], args := [d1, d2, d3] }
  | _ => none }
def LayoutHoldsWrongFalsely : Prop := layoutHoldsRow.holds Try.pinned (OpenSpec.ofChange layoutHoldsWrong)

/-- 'placardlaw16.LayoutGrows': WHATEVER THE INPUT: true; the input reads as it did. -/
def layoutGrowsSpec : ChangeSpec := { name := "layoutGrows", fn := fun _ => fun
  | [d1, d2, d3] => { results := [.lit (.bool true)], args := [d1, d2, d3] }
  | _ => none }
def layoutGrowsRow : OpenClaim := { program := "ytdodogehlnchlaa", sum := "6faa514ccd26fb808eb222560f7672ba0cd67446c1eb24f639e3ae37bf5d16b2", func := "placard/placardlaw16.LayoutGrows", spec := "layoutGrows", unfollowed := true, recurses := true, apart := false }
def LayoutGrowsSaid : Prop := layoutGrowsRow.holds Try.pinned (OpenSpec.ofChange layoutGrowsSpec)

/-- ITS FALSE NEIGHBOUR: 'it returns false'. Refute it at one input. -/
def layoutGrowsWrong : ChangeSpec := { name := "layoutGrows", fn := fun _ => fun
  | [d1, d2, d3] => { results := [.lit (.bool false)], args := [d1, d2, d3] }
  | _ => none }
def LayoutGrowsWrongFalsely : Prop := layoutGrowsRow.holds Try.pinned (OpenSpec.ofChange layoutGrowsWrong)

/-- 'placardlaw16.LayoutFair': WHATEVER THE INPUT: true; the input reads as it did. -/
def layoutFairSpec : ChangeSpec := { name := "layoutFair", fn := fun _ => fun
  | [d1, d2, d3] => { results := [.lit (.bool true)], args := [d1, d2, d3] }
  | _ => none }
def layoutFairRow : OpenClaim := { program := "ytdodogehlnchlaa", sum := "6faa514ccd26fb808eb222560f7672ba0cd67446c1eb24f639e3ae37bf5d16b2", func := "placard/placardlaw16.LayoutFair", spec := "layoutFair", unfollowed := true, recurses := true, apart := false }
def LayoutFairSaid : Prop := layoutFairRow.holds Try.pinned (OpenSpec.ofChange layoutFairSpec)

/-- ITS FALSE NEIGHBOUR: 'it returns false'. Refute it at one input. -/
def layoutFairWrong : ChangeSpec := { name := "layoutFair", fn := fun _ => fun
  | [d1, d2, d3] => { results := [.lit (.bool false)], args := [d1, d2, d3] }
  | _ => none }
def LayoutFairWrongFalsely : Prop := layoutFairRow.holds Try.pinned (OpenSpec.ofChange layoutFairWrong)

/-- 'placardlaw16.LayoutPlaces': WHATEVER THE INPUT: true; the input reads as it did. -/
def layoutPlacesSpec : ChangeSpec := { name := "layoutPlaces", fn := fun _ => fun
  | [d1, d2, d3, d4] => { results := [.lit (.bool true)], args := [d1, d2, d3, d4] }
  | _ => none }
def layoutPlacesRow : OpenClaim := { program := "ytdodogehlnchlaa", sum := "6faa514ccd26fb808eb222560f7672ba0cd67446c1eb24f639e3ae37bf5d16b2", func := "placard/placardlaw16.LayoutPlaces", spec := "layoutPlaces", unfollowed := true, recurses := true, apart := false }
def LayoutPlacesSaid : Prop := layoutPlacesRow.holds Try.pinned (OpenSpec.ofChange layoutPlacesSpec)

/-- ITS FALSE NEIGHBOUR: 'it returns false'. Refute it at one input. -/
def layoutPlacesWrong : ChangeSpec := { name := "layoutPlaces", fn := fun _ => fun
  | [d1, d2, d3, d4] => { results := [.lit (.bool false)], args := [d1, d2, d3, d4] }
  | _ => none }
def LayoutPlacesWrongFalsely : Prop := layoutPlacesRow.holds Try.pinned (OpenSpec.ofChange layoutPlacesWrong)

/-- 'placardlaw16.LayoutBoxes': WHATEVER THE INPUT: true; the input reads as it did. -/
def layoutBoxesSpec : ChangeSpec := { name := "layoutBoxes", fn := fun _ => fun
  | [d1, d2, d3, d4, d5, d6] => { results := [.lit (.bool true)], args := [d1, d2, d3, d4, d5, d6] }
  | _ => none }
def layoutBoxesRow : OpenClaim := { program := "ytdodogehlnchlaa", sum := "6faa514ccd26fb808eb222560f7672ba0cd67446c1eb24f639e3ae37bf5d16b2", func := "placard/placardlaw16.LayoutBoxes", spec := "layoutBoxes", unfollowed := true, recurses := true, apart := false }
def LayoutBoxesSaid : Prop := layoutBoxesRow.holds Try.pinned (OpenSpec.ofChange layoutBoxesSpec)

/-- ITS FALSE NEIGHBOUR: 'it returns false'. Refute it at one input. -/
def layoutBoxesWrong : ChangeSpec := { name := "layoutBoxes", fn := fun _ => fun
  | [d1, d2, d3, d4, d5, d6] => { results := [.lit (.bool false)], args := [d1, d2, d3, d4, d5, d6] }
  | _ => none }
def LayoutBoxesWrongFalsely : Prop := layoutBoxesRow.holds Try.pinned (OpenSpec.ofChange layoutBoxesWrong)

/- THE SECOND FORM. 'bulk': how many values and letters a reading holds, each counted each time it is reached (what is shared counts as often as it is met; a slice's spare places count too). A statement '..UptoSaid' is the law's where the arguments, and the package variables that the reading takes, are together of bulk at most 1048576: NARROWER than '..Said'. Prove '..Said' where nothing that the law and all that it calls make is longer than what came in: it says more and counts as full. Else prove '..UptoSaid'. A law counts once. -/
mutual
def uptoBulk {H : Type} : DataW H → Nat
  | .lit (.string bytes) => bytes.length + 1
  | .lit _ => 1
  | .nil => 1
  | .ptr d => uptoBulk d + 1
  | .slice elems spare => uptoBulkAll elems + uptoBulkAll spare + 1
  | .agg parts => uptoBulkAll parts + 1
  | .iface _ d => uptoBulk d + 1
  | .map entries => uptoBulkEntries entries + 1
  | .held _ => 1
def uptoBulkAll {H : Type} : List (DataW H) → Nat
  | [] => 0
  | d :: r => uptoBulk d + uptoBulkAll r
def uptoBulkEntries {H : Type} : List (Lit × DataW H) → Nat
  | [] => 0
  | x :: r => uptoBulkEntry x + uptoBulkEntries r
def uptoBulkEntry {H : Type} : Lit × DataW H → Nat
  | (.string bytes, d) => bytes.length + uptoBulk d + 1
  | (_, d) => uptoBulk d + 1
 end
def uptoSmall : (H : Type) → List (DataW H) → Bool := fun _ ds => decide (uptoBulkAll ds ≤ 1048576)
def OpenSpec.upto (s : _root_.Go.ChangeSpec) : _root_.Go.OpenSpec := { _root_.Go.OpenSpec.ofChange s with cond := some uptoSmall }

/-- 'placardlaw16.LayoutSizes', WHERE WHAT IT READS IS OF BULK AT MOST 1048576: true; the input reads as it did. -/
def layoutSizesUptoRow : OpenClaim := { program := "ytdodogehlnchlaa", sum := "6faa514ccd26fb808eb222560f7672ba0cd67446c1eb24f639e3ae37bf5d16b2", func := "placard/placardlaw16.LayoutSizes", spec := "layoutSizes", unfollowed := true, recurses := true, apart := false, narrowed := true }
def LayoutSizesUptoSaid : Prop := layoutSizesUptoRow.holds Try.pinned (OpenSpec.upto layoutSizesSpec)

/-- 'placardlaw16.LayoutHolds', WHERE WHAT IT READS IS OF BULK AT MOST 1048576: true; the input reads as it did. -/
def layoutHoldsUptoRow : OpenClaim := { program := "ytdodogehlnchlaa", sum := "6faa514ccd26fb808eb222560f7672ba0cd67446c1eb24f639e3ae37bf5d16b2", func := "placard/placardlaw16.LayoutHolds", spec := "layoutHolds", unfollowed := true, recurses := true, apart := false, narrowed := true }
def LayoutHoldsUptoSaid : Prop := layoutHoldsUptoRow.holds Try.pinned (OpenSpec.upto layoutHoldsSpec)

/-- 'placardlaw16.LayoutGrows', WHERE WHAT IT READS IS OF BULK AT MOST 1048576: true; the input reads as it did. -/
def layoutGrowsUptoRow : OpenClaim := { program := "ytdodogehlnchlaa", sum := "6faa514ccd26fb808eb222560f7672ba0cd67446c1eb24f639e3ae37bf5d16b2", func := "placard/placardlaw16.LayoutGrows", spec := "layoutGrows", unfollowed := true, recurses := true, apart := false, narrowed := true }
def LayoutGrowsUptoSaid : Prop := layoutGrowsUptoRow.holds Try.pinned (OpenSpec.upto layoutGrowsSpec)

/-- 'placardlaw16.LayoutFair', WHERE WHAT IT READS IS OF BULK AT MOST 1048576: true; the input reads as it did. -/
def layoutFairUptoRow : OpenClaim := { program := "ytdodogehlnchlaa", sum := "6faa514ccd26fb808eb222560f7672ba0cd67446c1eb24f639e3ae37bf5d16b2", func := "placard/placardlaw16.LayoutFair", spec := "layoutFair", unfollowed := true, recurses := true, apart := false, narrowed := true }
def LayoutFairUptoSaid : Prop := layoutFairUptoRow.holds Try.pinned (OpenSpec.upto layoutFairSpec)

/-- 'placardlaw16.LayoutPlaces', WHERE WHAT IT READS IS OF BULK AT MOST 1048576: true; the input reads as it did. -/
def layoutPlacesUptoRow : OpenClaim := { program := "ytdodogehlnchlaa", sum := "6faa514ccd26fb808eb222560f7672ba0cd67446c1eb24f639e3ae37bf5d16b2", func := "placard/placardlaw16.LayoutPlaces", spec := "layoutPlaces", unfollowed := true, recurses := true, apart := false, narrowed := true }
def LayoutPlacesUptoSaid : Prop := layoutPlacesUptoRow.holds Try.pinned (OpenSpec.upto layoutPlacesSpec)

/-- 'placardlaw16.LayoutBoxes', WHERE WHAT IT READS IS OF BULK AT MOST 1048576: true; the input reads as it did. -/
def layoutBoxesUptoRow : OpenClaim := { program := "ytdodogehlnchlaa", sum := "6faa514ccd26fb808eb222560f7672ba0cd67446c1eb24f639e3ae37bf5d16b2", func := "placard/placardlaw16.LayoutBoxes", spec := "layoutBoxes", unfollowed := true, recurses := true, apart := false, narrowed := true }
def LayoutBoxesUptoSaid : Prop := layoutBoxesUptoRow.holds Try.pinned (OpenSpec.upto layoutBoxesSpec)

end Rows
end Go.Proofs.Ytdodogehlnchlaa
