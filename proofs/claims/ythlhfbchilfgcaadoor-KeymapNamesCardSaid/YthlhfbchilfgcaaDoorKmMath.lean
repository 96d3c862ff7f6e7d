/-
  Key bindings as plain mathematics: keys, the tables of names, words and usual bindings; what the usual map reads as.
-/
import Derived.Test.YthlhfbchilfgcaaDoorMemC
import Derived.Test.YthlhfbchilfgcaaDoorU8
import Derived.Maps.OwnSet
import Derived.Maps.OwnOps
import Derived.Lib.FieldsLaws
import Derived.Lib.LaidTab
import Derived.Lib.SmallJoins
import Derived.Deep.RegionHeld3
import Derived.Deep.DeepCutAuto
import Derived.BigRegion
import Derived.Deep.QuietTactic
import Derived.BigQuiet
namespace Go.Proofs.YthlhfbchilfgcaaDoor
open Go.RowKit Go.Maps
set_option linter.unusedVariables false
set_option linter.unusedSimpArgs false

/-- a key: code, text, number, and whether Alt, Shift, Ctl are held -/
structure Kv where
  c : Int
  s : List UInt8
  n : Int
  a : Bool
  h : Bool
  t : Bool
  deriving DecidableEq
def Kv.no : Kv := ⟨0, [], 0, false, false, false⟩
def Kv.cells (k : Kv) : List Value := [.int .i64 k.c, .string ⟨k.s.toArray⟩, .int .i64 k.n, .bool k.a, .bool k.h, .bool k.t]
theorem kv_size : (Tryd.prog.info? 24).map (·.size) = some 6 := by kernel_rfl
def Kv.agg (k : Kv) : Value := .agg k.cells.toArray
theorem Kv.len (k : Kv) : k.cells.length = 6 := rfl
theorem kbel (w : World) (o : Obj) : Below w.heap.size w (w.alloc o) := (Below.refl _ _).alloc (Nat.le_refl _) _
theorem kstep {w w1 w2 : World} (h : Below w.heap.size w w1) (h2 : Below w1.heap.size w1 w2) : Below w.heap.size w w2 := h.trans (h2.mono h.size)
theorem cell_lt' {w : World} {b o : Nat} {v : Value} (h : w.cell? ⟨b, o, none⟩ = some v) : b < w.heap.size := by
  rcases Nat.lt_or_ge b w.heap.size with h' | h'
  · exact h'
  · simp [World.cell?, Array.getElem?_eq_none h'] at h
theorem cat_arr (a b : List UInt8) : (⟨a.toArray⟩ : ByteArray) ++ ⟨b.toArray⟩ = ⟨(a ++ b).toArray⟩ := by
  apply ByteArray.ext
  simp [ByteArray.data_append]
/-- a byte is one of the listed, or none of them -/
theorem u8_of (c : UInt8) (n : Nat) (hn : n < 256) : ((c.toNat : Int) = n ↔ c = UInt8.ofNat n) := by
  constructor
  · intro e
    apply UInt8.toNat_inj.1
    rw [UInt8.toNat_ofNat']
    omega
  · rintro rfl
    rw [UInt8.toNat_ofNat']
    omega
def nameT : List (List UInt8) := [[], [116, 101, 120, 116], [101, 110, 116, 101, 114], [116, 97, 98], [98, 97, 99, 107, 116, 97, 98], [101, 115, 99, 97, 112, 101], [98, 97, 99, 107, 115, 112, 97, 99, 101], [100, 101, 108, 101, 116, 101], [117, 112], [100, 111, 119, 110], [108, 101, 102, 116], [114, 105, 103, 104, 116], [104, 111, 109, 101], [101, 110, 100], [112, 97, 103, 101, 117, 112], [112, 97, 103, 101, 100, 111, 119, 110], [112, 97, 115, 116, 101]]
def wordT : List (List UInt8) := [[], [108, 101, 102, 116], [114, 105, 103, 104, 116], [119, 111, 114, 100, 108, 101, 102, 116], [119, 111, 114, 100, 114, 105, 103, 104, 116], [104, 111, 109, 101], [101, 110, 100], [101, 114, 97, 115, 101, 98, 97, 99, 107], [101, 114, 97, 115, 101, 104, 101, 114, 101], [107, 105, 108, 108, 101, 110, 100], [107, 105, 108, 108, 104, 111, 109, 101], [107, 105, 108, 108, 119, 111, 114, 100], [107, 105, 108, 108, 98, 97, 99, 107], [121, 97, 110, 107], [121, 97, 110, 107, 112, 111, 112], [117, 110, 100, 111], [115, 119, 97, 112], [99, 108, 101, 97, 114], [111, 108, 100, 101, 114], [110, 101, 119, 101, 114]]
def usualT : List (List UInt8) := [[], [108, 101, 102, 116, 32, 99, 116, 114, 108, 45, 98], [114, 105, 103, 104, 116, 32, 99, 116, 114, 108, 45, 102], [97, 108, 116, 45, 108, 101, 102, 116, 32, 97, 108, 116, 45, 116, 101, 120, 116, 46, 98, 32, 99, 116, 108, 45, 108, 101, 102, 116], [97, 108, 116, 45, 114, 105, 103, 104, 116, 32, 97, 108, 116, 45, 116, 101, 120, 116, 46, 102, 32, 99, 116, 108, 45, 114, 105, 103, 104, 116], [104, 111, 109, 101, 32, 99, 116, 114, 108, 45, 97], [101, 110, 100, 32, 99, 116, 114, 108, 45, 101], [98, 97, 99, 107, 115, 112, 97, 99, 101, 32, 99, 116, 114, 108, 45, 104], [100, 101, 108, 101, 116, 101, 32, 99, 116, 114, 108, 45, 100], [99, 116, 114, 108, 45, 107], [99, 116, 114, 108, 45, 117], [97, 108, 116, 45, 116, 101, 120, 116, 46, 100], [99, 116, 114, 108, 45, 119, 32, 97, 108, 116, 45, 98, 97, 99, 107, 115, 112, 97, 99, 101], [99, 116, 114, 108, 45, 121], [97, 108, 116, 45, 116, 101, 120, 116, 46, 121], [99, 116, 114, 108, 45, 95], [99, 116, 114, 108, 45, 116], [99, 116, 114, 108, 45, 108], [117, 112, 32, 99, 116, 114, 108, 45, 112], [100, 111, 119, 110, 32, 99, 116, 114, 108, 45, 110]]
/-- a table of texts lies in memory -/
def StrT (w : World) (g : Nat) (T : List (List UInt8)) : Prop := ∀ i, i < T.length → w.cell? ⟨g, i, none⟩ = some (.string ⟨(T.getD i []).toArray⟩)
theorem StrT.same {w w' : World} {g : Nat} {T : List (List UInt8)} (h : StrT w g T) (hs : w'.heap[g]? = w.heap[g]?) : StrT w' g T := fun i hi => (World.cell?_of_block (w := w) (a := ⟨g, i, none⟩) hs).trans (h i hi)
theorem StrT.below {w w' : World} {g B : Nat} {T : List (List UInt8)} (h : StrT w g T) (h0 : 0 < T.length) (hb : Below B w w') (hB : w.heap.size ≤ B) : StrT w' g T := h.same (hb.block _ (by have := cell_lt' (h 0 h0); omega))
/-- what all laws need of memory: the tables of names, words, usual bindings, and of white space -/
structure KmT (w : World) : Prop where
  nm : StrT w 2 nameT
  wd : StrT w 1 wordT
  us : StrT w 0 usualT
  sp : Lib.TabIs Tryd.prog w "strings.asciiSpace" .u8 Lib.asciiSpaceTab
theorem KmT.below {w w' : World} {B : Nat} (h : KmT w) (hb : Below B w w') (hB : w.heap.size ≤ B) : KmT w' :=
  ⟨h.nm.below (by decide) hb hB, h.wd.below (by decide) hb hB, h.us.below (by decide) hb hB, Go.Joins.tab_stays (by kernel_rfl : Tryd.prog.globalNamed "strings.asciiSpace" = some 3) h.sp hb hB⟩

def fldU (i : Nat) : List (List UInt8) := Lib.fields (usualT.getD i [])
def UDj (D : DataW Unit) (i : Nat) (l : List (List UInt8)) : DataW Unit := l.foldl (fun D f => D.put (.string f) (.lit (.int .i64 i))) D
def UD : Nat → DataW Unit
  | 0 => .map []
  | i + 1 => UDj (UD i) i (fldU i)
theorem fld_ascii : ∀ l ∈ usualT, ∀ b ∈ l, b.toNat < 128 := by decide
theorem fld_len : ∀ i, i < 20 → (fldU i).length ≤ 3 ∧ ∀ f ∈ fldU i, f.length ≤ 20 := by decide +kernel
theorem ud_up : Maps.has (UD 20) (.string [117, 112]) = true ∧ (UD 20).atKey (.string [117, 112]) (.lit (.int .i64 0)) = .lit (.int .i64 18) := ⟨by kernel_rfl, by kernel_rfl⟩

/-- may a text be that of a Ctrl key? -/
def isC8 (c : UInt8) : Bool := c == 64 || c == 91 || c == 92 || c == 93 || c == 94 || c == 95 || (97 ≤ c && c ≤ 122)
def vText (k : Kv) : Bool :=
  if k.c = 1 ∨ k.c = 16 then decide (k.s.length ≤ 65536) else if k.c = 17 then (match k.s with
    | [b] => isC8 b
    | _ => false) else decide (1 ≤ k.c ∧ k.c ≤ 18 ∧ k.s = [])
def vNum (k : Kv) : Bool := if k.c = 18 then decide (1 ≤ k.n ∧ k.n ≤ 12) else decide (k.n = 0)
def chk (k : Kv) : Bool := vText k && vNum k
/-- a key's name without modifiers, functions aside -/
def baseN (k : Kv) : List UInt8 := if k.c = 1 ∧ k.a = true then [116, 101, 120, 116, 46] ++ k.s else if k.c = 17 then [99, 116, 114, 108, 45] ++ k.s else nameT.getD k.c.toNat []
def nameK (k : Kv) : List UInt8 :=
  (if k.a = true then [97, 108, 116, 45] else []) ++ ((if k.t = true then [99, 116, 108, 45] else []) ++ ((if k.h = true then [115, 104, 105, 102, 116, 45] else []) ++ baseN k))
end Go.Proofs.YthlhfbchilfgcaaDoor
