/-
  The law LayoutBoxes, whole.
-/
import Derived.Test.YtdodogehlnchlaaLyBLl
import Derived.Test.YtdodogehlnchlaaLyBLc
import Derived.Test.YtdodogehlnchlaaLyBCl
import Derived.Test.YtdodogehlnchlaaLyBCc
namespace Go.Proofs.Ytdodogehlnchlaa
open Go.RowKit Go.Shelf Go.Sort
set_option linter.unusedVariables false

theorem layoutBoxes_walk (ww hh gap : Int) (Ar Ac : Option Addr) (n0 m0 cr cc : Nat) (Pr Pc : Nat → Pt) (x : Int) (lo : 0 ≤ x) (hi : x ≤ 255) (w : World) (hnr : n0 ≤ cr) (hnc : m0 ≤ cc)
    (hS : Sl w w.heap.size Ar (ptB Pr n0)) (hT : Sl w w.heap.size Ac (ptB Pc m0)) :
    Calls Try.prog 8 #[.int .i64 ww, .int .i64 hh, .int .i64 gap, .slice Ar n0 cr, .slice Ac m0 cc, .int .u8 x] w fun e w' => e = .returned (.bool true) ∧ Below w.heap.size w w' := by
  obtain ⟨s, rfl⟩ : ∃ s : Nat, x = s := ⟨x.toNat, by omega⟩
  by_cases h1 : n0 ≤ 12
  · by_cases h2 : m0 ≤ 12
    · exact layoutBoxes_Ll ww hh gap Ar Ac n0 m0 cr cc Pr Pc s w (by omega) hnr hnc h1 h2 hS hT
    · exact layoutBoxes_Lc ww hh gap Ar Ac n0 m0 cr cc Pr Pc s w (by omega) hnr hnc h1 (by omega) hS hT
  · by_cases h2 : m0 ≤ 12
    · exact layoutBoxes_Cl ww hh gap Ar Ac n0 m0 cr cc Pr Pc s w (by omega) hnr hnc (by omega) h2 hS hT
    · exact layoutBoxes_Cc ww hh gap Ar Ac n0 m0 cr cc Pr Pc s w (by omega) hnr hnc (by omega) (by omega) hS hT
end Go.Proofs.Ytdodogehlnchlaa
