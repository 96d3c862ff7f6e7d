/-
  Contracts of the library's functions, laid at this program by the shelf's own laws.
  A grid of the program as it lies in memory; walks of made, Size, has, Cell.
  Walks: blankAt, Put.
  Walks: slices.Repeat at a cell, blankRows, New.
  Walks: strings.Builder's copyCheck and WriteString.
  Walk: Text.
  Cells compared: '==' at a cell; walks of the reference's SameCells and of slices.Equal.
  Walks: Join, Erase.
  Walks: slices.Clone at cells, Row; Text of no row.
  Walk: Scroll.
-/
import Derived.Shelf.Strings.Builder1
import Derived.Shelf.Strings.Trim
import Derived.Shelf.Bits.Mul64
import Derived.Test.YtfmkeeaenjeneaaGreatDoorProg
import Derived.Test.YtfmkeeaenjeneaaGreatDoorGfA
import Derived.Test.YtfmkeeaenjeneaaGreatDoorRows
import Derived.LaidEqlPtr
import Derived.Lib.Builder
import Derived.Deep.QuietTactic
import Derived.BigQuiet
import Derived.Lib.AppendStr
import Derived.Laws.StructEq
import Derived.Deep.RegionHeld3
import Derived.Deep.DeepCutAuto
import Derived.BigRegion
namespace Go.Proofs.YtfmkeeaenjeneaaGreatDoor
open Go.Shelf
def sh_lays169_ren : Go.Shelf.Ren := ⟨fun | 169 => 68 | n => n, fun | 70 => 110 | 9 => 9 | 0 => 0 | 72 => 112 | 37 => 32 | 127 => 144 | 3 => 3 | 5 => 5 | n => n, fun | n => n⟩
theorem sh_lays169 : Go.Proofs.Lays.n169 Tryz.prog sh_lays169_ren := {
  mixed := by kernel_rfl
  f169 := Tryz.func68.trans (congrArg some (by kernel_rfl))
  t0 := Tryz.underlying0
  a0 := Tryz.isAgg0
  z0 := Tryz.sizeOf0
  v0 := Tryz.zeroValue0
  t3 := Tryz.underlying3
  a3 := Tryz.isAgg3
  z3 := Tryz.sizeOf3
  v3 := Tryz.zeroValue3
  t9 := Tryz.underlying9
  a9 := Tryz.isAgg9
  z9 := Tryz.sizeOf9
  v9 := Tryz.zeroValue9
  t37 := Tryz.underlying32
  a37 := Tryz.isAgg32
  z37 := Tryz.sizeOf32
  v37 := Tryz.zeroValue32
  t70 := Tryz.underlying110
  a70 := Tryz.isAgg110
  z70 := Tryz.sizeOf110
  v70 := Tryz.zeroValue110
  t72 := Tryz.underlying112
  a72 := Tryz.isAgg112
  z72 := Tryz.sizeOf112
  v72 := Tryz.zeroValue112
  t127 := Tryz.underlying144
  a127 := Tryz.isAgg144
  z127 := Tryz.sizeOf144
  v127 := Tryz.zeroValue144 }
theorem sh_Builder_Extra_169 : Builder.Extra Tryz.prog sh_lays169_ren := {
  sizeBuilder := by kernel_rfl
  liesBuilder := by kernel_rfl
  t5 := Tryz.underlying5
  a5 := Tryz.isAgg5
  z5 := Tryz.sizeOf5
  v5 := Tryz.zeroValue5
  infoByte := by kernel_rfl
  cellsByte := by kernel_rfl
  sizeByte := by kernel_rfl
  neB5 := by decide }
open Go.RowKit in
/-- (*strings.Builder).String: "String returns the accumulated string.": WHATEVER THE BUILDER HOLDS. (LAID: no walk: one application.) -/
theorem sh_Builder_String_any (B b : Nat) (l : List UInt8) (w : World) (h : Lib.IsBuilder 112 5 B b (Lib.byteCells l) w) (hBw : B ≤ w.heap.size) :
    Calls Tryz.prog 68 #[.pointer (some ⟨b, 0, none⟩)] w fun e w' => e = .returned (.string ⟨l.toArray⟩) ∧ Below B w w' := Any.Builder_String_any sh_lays169 sh_Builder_Extra_169 B b l w h hBw
def sh_lays162_ren : Go.Shelf.Ren := ⟨fun | 162 => 67 | 232 => 92 | 227 => 93 | 234 => 94 | 236 => 95 | 228 => 131 | 271 => 132 | 151 => 133 | 120 => 148 | 197 => 149 | 152 => 150 | 260 => 153 | 137 => 154 | 119 => 155 | 224 => 156 | 225 => 157 | 217 => 159 | 266 => 160 | n => n, fun | 9 => 9 | 4 => 4 | 3 => 3 | 5 => 5 | 117 => 140 | 116 => 139 | 0 => 0 | 124 => 143 | 21 => 21 | 105 => 182 | 46 => 134 | 119 => 203 | 139 => 206 | 138 => 205 | n => n, fun | 3 => 3 | 4 => 4 | n => n⟩
theorem sh_lays162 : Go.Proofs.Lays.n162 Tryz.prog sh_lays162_ren := {
  mixed := by kernel_rfl
  f119 := Tryz.func155.trans (congrArg some (by kernel_rfl))
  f120 := Tryz.func148.trans (congrArg some (by kernel_rfl))
  f137 := Tryz.func154.trans (congrArg some (by kernel_rfl))
  f151 := Tryz.func133.trans (congrArg some (by kernel_rfl))
  f152 := Tryz.func150.trans (congrArg some (by kernel_rfl))
  f162 := Tryz.func67.trans (congrArg some (by kernel_rfl))
  f197 := Tryz.func149.trans (congrArg some (by kernel_rfl))
  f217 := Tryz.func159.trans (congrArg some (by kernel_rfl))
  f224 := Tryz.func156.trans (congrArg some (by kernel_rfl))
  f225 := Tryz.func157.trans (congrArg some (by kernel_rfl))
  f227 := Tryz.func93.trans (congrArg some (by kernel_rfl))
  f228 := Tryz.func131.trans (congrArg some (by kernel_rfl))
  f232 := Tryz.func92.trans (congrArg some (by kernel_rfl))
  f234 := Tryz.func94.trans (congrArg some (by kernel_rfl))
  f236 := Tryz.func95.trans (congrArg some (by kernel_rfl))
  f260 := Tryz.func153.trans (congrArg some (by kernel_rfl))
  f266 := Tryz.func160.trans (congrArg some (by kernel_rfl))
  f271 := Tryz.func132.trans (congrArg some (by kernel_rfl))
  t0 := Tryz.underlying0
  a0 := Tryz.isAgg0
  z0 := Tryz.sizeOf0
  v0 := Tryz.zeroValue0
  t3 := Tryz.underlying3
  a3 := Tryz.isAgg3
  z3 := Tryz.sizeOf3
  v3 := Tryz.zeroValue3
  t4 := Tryz.underlying4
  a4 := Tryz.isAgg4
  z4 := Tryz.sizeOf4
  v4 := Tryz.zeroValue4
  t5 := Tryz.underlying5
  a5 := Tryz.isAgg5
  z5 := Tryz.sizeOf5
  v5 := Tryz.zeroValue5
  t9 := Tryz.underlying9
  a9 := Tryz.isAgg9
  z9 := Tryz.sizeOf9
  v9 := Tryz.zeroValue9
  t21 := Tryz.underlying21
  a21 := Tryz.isAgg21
  z21 := Tryz.sizeOf21
  v21 := Tryz.zeroValue21
  t46 := Tryz.underlying134
  a46 := Tryz.isAgg134
  z46 := Tryz.sizeOf134
  v46 := Tryz.zeroValue134
  t105 := Tryz.underlying182
  a105 := Tryz.isAgg182
  z105 := Tryz.sizeOf182
  v105 := Tryz.zeroValue182
  t116 := Tryz.underlying139
  a116 := Tryz.isAgg139
  z116 := Tryz.sizeOf139
  t117 := Tryz.underlying140
  a117 := Tryz.isAgg140
  z117 := Tryz.sizeOf140
  v117 := Tryz.zeroValue140
  t119 := Tryz.underlying203
  a119 := Tryz.isAgg203
  z119 := Tryz.sizeOf203
  t124 := Tryz.underlying143
  a124 := Tryz.isAgg143
  z124 := Tryz.sizeOf143
  v124 := Tryz.zeroValue143
  t138 := Tryz.underlying205
  a138 := Tryz.isAgg205
  z138 := Tryz.sizeOf205
  v138 := Tryz.zeroValue205
  t139 := Tryz.underlying206
  a139 := Tryz.isAgg206
  z139 := Tryz.sizeOf206
  v139 := Tryz.zeroValue206
  g3 := by kernel_rfl
  g4 := by kernel_rfl }
open Go.RowKit in
/-- strings.TrimRight: "TrimRight returns a slice of the string s, with all trailing Unicode code points contained in cutset removed.": AT A cutset OF ONE ASCII BYTE. The world is as it was. (LAID: no walk: one application.) -/
theorem sh_strings_TrimRight_one (s : ByteArray) (c : UInt8) (hc : c.toNat < 128) (w : World) (hs : s.size ≤ 9223372036854775807) :
    Calls Tryz.prog 67 #[.string s, .string ⟨#[c]⟩] w fun e w' => e = .returned (.string ⟨(Lib.trimRightB s.data.toList c).toArray⟩) ∧ w' = w := Any.strings_TrimRight_one sh_lays162 s c hc w hs
def sh_lays212_ren : Go.Shelf.Ren := ⟨fun | 212 => 90 | 263 => 128 | 264 => 129 | n => n, fun | 46 => 134 | 51 => 173 | 146 => 174 | 53 => 176 | 148 => 177 | n => n, fun | n => n⟩
theorem sh_lays212 : Go.Proofs.Lays.n212 Tryz.prog sh_lays212_ren := {
  mixed := by kernel_rfl
  f212 := Tryz.func90.trans (congrArg some (by kernel_rfl))
  f263 := Tryz.func128.trans (congrArg some (by kernel_rfl))
  f264 := Tryz.func129.trans (congrArg some (by kernel_rfl))
  t46 := Tryz.underlying134
  a46 := Tryz.isAgg134
  z46 := Tryz.sizeOf134
  v46 := Tryz.zeroValue134
  t51 := Tryz.underlying173
  a51 := Tryz.isAgg173
  z51 := Tryz.sizeOf173
  v51 := Tryz.zeroValue173
  t53 := Tryz.underlying176
  a53 := Tryz.isAgg176
  z53 := Tryz.sizeOf176
  v53 := Tryz.zeroValue176
  t146 := Tryz.underlying174
  a146 := Tryz.isAgg174
  z146 := Tryz.sizeOf174
  v146 := Tryz.zeroValue174
  t148 := Tryz.underlying177
  a148 := Tryz.isAgg177
  z148 := Tryz.sizeOf177
  v148 := Tryz.zeroValue177 }
open Go.RowKit Go.Lib in
/-- math/bits.Mul: "Mul returns the full-width product of x and y": on a machine of 64 bits: Mul64's. (LAID: no walk: one application.) -/
theorem sh_bits_Mul (x y : Nat) (hx : x < 18446744073709551616) (hy : y < 18446744073709551616) (w : World) :
    Calls Tryz.prog 90 #[.int .u64 x, .int .u64 y] w fun e w' => e = .returned (.tuple #[.int .u64 ((x * y / 18446744073709551616 : Nat) : Int), .int .u64 ((x * y % 18446744073709551616 : Nat) : Int)]) ∧ w' = w := Any.bits_Mul sh_lays212 x y hx hy w
end Go.Proofs.YtfmkeeaenjeneaaGreatDoor

namespace Go.Proofs.YtfmkeeaenjeneaaGreatDoor
open Go.RowKit
set_option linter.unusedVariables false
set_option linter.unusedSimpArgs false

theorem cl_size : (Tryz.prog.info? 83).map (·.size) = some 7 := by kernel_rfl
theorem sl_size : (Tryz.prog.info? 78).map (·.size) = some 1 := by kernel_rfl
theorem cl_info : (Tryz.prog.info? 83).map (fun i => (i.zero, i.size, i.bytes)) = some (some (.agg czero.cells.toArray), 7, 48) := by kernel_rfl
theorem row_info : (Tryz.prog.info? 78).map (fun i => (i.zero, i.size, i.bytes)) = some (some (.slice none 0 0), 1, 24) := by kernel_rfl

/-- a row's slice, as a value -/
def rowV (W b : Nat) : Value := .slice (some ⟨b, 0, none⟩) W W
/-- The blocks of a grid. -/
def GrOwn (g rb : Nat) (bs : List Nat) (k : Nat) : Prop := k = g ∨ k = rb ∨ k ∈ bs

/-- A grid at block g, of W columns, that shows the rows L; its blocks are from lo on. -/
structure GrAt (w : World) (lo g rb : Nat) (bs : List Nat) (W : Nat) (L : List (List Cl)) : Prop where
  head : Blk w g 91 [.pointer (some ⟨g, 0, none⟩), .slice (some ⟨rb, 0, none⟩) L.length L.length]
  rows : Blk w rb 78 (bs.map (rowV W))
  len : bs.length = L.length
  nd : bs.Nodup
  row : ∀ (i b : Nat), bs[i]? = some b → ∃ l, L[i]? = some l ∧ l.length = W ∧ Wf l ∧ Blk w b 83 (rc l)
  lo : ∀ k, GrOwn g rb bs k → lo ≤ k
  w1 : 1 ≤ W
  w5 : W ≤ 500
  h1 : 1 ≤ L.length
  h5 : L.length ≤ 500

namespace GrAt
variable {w w' : World} {lo g rb W : Nat} {bs : List Nat} {L : List (List Cl)}
theorem own_lt (h : GrAt w lo g rb bs W L) (k : Nat) (hk : GrOwn g rb bs k) : k < w.heap.size := by
  rcases hk with rfl | rfl | hk
  · exact h.head.lt
  · exact h.rows.lt
  · obtain ⟨i, hi⟩ := List.getElem?_of_mem hk
    obtain ⟨l, _, _, _, hb⟩ := h.row i k hi
    exact hb.lt
theorem keep {S : Nat → Prop} (h : GrAt w lo g rb bs W L) (hc : Chg S w w') (hn : ∀ k, GrOwn g rb bs k → ¬ S k) : GrAt w' lo g rb bs W L :=
  ⟨h.head.chg hc (hn _ (.inl rfl)), h.rows.chg hc (hn _ (.inr (.inl rfl))), h.len, h.nd, fun i b hb => by
    obtain ⟨l, h1, h2, h3, h4⟩ := h.row i b hb
    exact ⟨l, h1, h2, h3, h4.chg hc (hn _ (.inr (.inr (List.mem_of_getElem? hb))))⟩, h.lo, h.w1, h.w5, h.h1, h.h5⟩
theorem below (h : GrAt w lo g rb bs W L) (hb : Below w.heap.size w w') : GrAt w' lo g rb bs W L := h.keep (Chg.of_below (S := noB) hb) (fun _ _ h => h)
theorem drewN (h : GrAt w lo g rb bs W L) (n : Nat) : GrAt (w.drewN n) lo g rb bs W L := h.keep ((Chg.refl noB w).drewN n) (fun _ _ h => h)
/-- the row's slice and its cells -/
theorem at_ (h : GrAt w lo g rb bs W L) {i : Nat} (hi : i < L.length) : ∃ b l, bs[i]? = some b ∧ L[i]? = some l ∧ w.cell? ⟨rb, i, none⟩ = some (rowV W b) ∧ l.length = W ∧ Wf l ∧ Blk w b 83 (rc l) := by
  have hb : i < bs.length := by rw [h.len]; exact hi
  have hbi : bs[i]? = some bs[i] := List.getElem?_eq_getElem hb
  obtain ⟨l, h1, h2, h3, h4⟩ := h.row i _ hbi
  refine ⟨_, l, hbi, h1, ?_, h2, h3, h4⟩
  rw [h.rows.cell, List.getElem?_map, hbi]
  rfl
/-- A row is written anew. -/
theorem set (h : GrAt w lo g rb bs W L) {row b : Nat} (hbi : bs[row]? = some b) (hc : Chg (one b) w w') {l : List Cl} (hl : l.length = W) (hf : Wf l) (hb : Blk w' b 83 (rc l)) : GrAt w' lo g rb bs W (L.set row l) := by
  obtain ⟨l0, _, _, _, hb0⟩ := h.row row b hbi
  have hrow : row < bs.length := (List.getElem?_eq_some_iff.1 hbi).1
  refine ⟨?_, h.rows.chg hc (fun e => h.rows.ne_ hb0 (by decide) e), by rw [List.length_set]; exact h.len, h.nd, fun i c hci => ?_, h.lo, h.w1, h.w5, by rw [List.length_set]; exact h.h1, by rw [List.length_set]; exact h.h5⟩
  · rw [List.length_set]
    exact h.head.chg hc (fun e => h.head.ne_ hb0 (by decide) e)
  · by_cases hi : i = row
    · subst hi
      rw [hbi] at hci
      injection hci with hci
      subst hci
      exact ⟨l, List.getElem?_set_self (by rw [← h.len]; exact hrow), hl, hf, hb⟩
    · obtain ⟨l1, h1, h2, h3, h4⟩ := h.row i c hci
      refine ⟨l1, by rw [List.getElem?_set_ne (by omega)]; exact h1, h2, h3, h4.chg hc (fun e => ?_)⟩
      have e' : c = b := e
      subst e'
      have := (List.getElem?_inj (List.getElem?_eq_some_iff.1 hci).1 h.nd).1 (hci.trans hbi.symm)
      exact hi this
theorem ptr (h : GrAt w lo g rb bs W L) : w.cell? ⟨g, 0, none⟩ = some (.pointer (some ⟨g, 0, none⟩)) := h.head.cell 0
theorem rws (h : GrAt w lo g rb bs W L) : w.cell? ⟨g, 1, none⟩ = some (.slice (some ⟨rb, 0, none⟩) L.length L.length) := h.head.cell 1
end GrAt

theorem ptr_info : (Tryz.prog.info? 91).isSome = true := by kernel_rfl
theorem run_eql_self (a : Addr) (w : World) : Sem.run Tryz.prog (binOp .eql 52 (.pointer (some a)) (.pointer (some a))) w = .ok (.bool true) w := by
  obtain ⟨j, hj⟩ := Option.isSome_iff_exists.1 ptr_info
  have h : ∀ d : Nat, (Op.equalIn (d + 1) 52 (.pointer (some a)) (.pointer (some a))).run Tryz.prog w = .ok true w := fun d => by
    simp [Op.equalIn, run_underlying Tryz.underlying52, sizeOf, typeInfo, hj, run_sameAddr_same]
  simp only [binOp]
  simp [Op.equal, Op.maxDepth, h 9999]

theorem run_eql_none (a : Addr) (w : World) : Sem.run Tryz.prog (binOp .eql 52 (.pointer none) (.pointer (some a))) w = .ok (.bool false) w := by
  have h : ∀ d : Nat, (Op.equalIn (d + 1) 52 (.pointer none) (.pointer (some a))).run Tryz.prog w = .ok false w := fun d => by
    simp [Op.equalIn, run_underlying Tryz.underlying52]
  simp only [binOp]
  simp [Op.equal, Op.maxDepth, h 9999]

set_option maxHeartbeats 400000 in
theorem made_yes (g : Nat) (w : World) (hp : w.cell? ⟨g, 0, none⟩ = some (.pointer (some ⟨g, 0, none⟩))) :
    Calls Tryz.prog 59 #[.pointer (some ⟨g, 0, none⟩)] w fun e w' => e = .returned (.bool true) ∧ w = w' := by
  have he := run_eql_self ⟨g, 0, none⟩
  go_enter Tryz.func59, Tryz.ntmps59
  go_wp2
  go_ret
  exact ⟨rfl, rfl⟩
set_option maxHeartbeats 400000 in
theorem made_nil (w : World) : Calls Tryz.prog 59 #[.pointer none] w fun e w' => e = .returned (.bool false) ∧ w = w' := by
  go_enter Tryz.func59, Tryz.ntmps59
  go_wp2
  go_ret
  exact ⟨rfl, rfl⟩
set_option maxHeartbeats 400000 in
theorem made_no (g : Nat) (w : World) (hp : w.cell? ⟨g, 0, none⟩ = some (.pointer none)) :
    Calls Tryz.prog 59 #[.pointer (some ⟨g, 0, none⟩)] w fun e w' => e = .returned (.bool false) ∧ w = w' := by
  have he := run_eql_none ⟨g, 0, none⟩
  go_enter Tryz.func59, Tryz.ntmps59
  go_wp2
  go_ret
  exact ⟨rfl, rfl⟩

set_option maxHeartbeats 400000 in
theorem size_any {w : World} {lo g rb W : Nat} {bs : List Nat} {L : List (List Cl)} (h : GrAt w lo g rb bs W L) :
    Calls Tryz.prog 33 #[.pointer (some ⟨g, 0, none⟩)] w fun e w' => e = .returned (.tuple #[.int .i64 W, .int .i64 L.length]) ∧ ∃ n, w' = w.drewN n := by
  obtain ⟨b, l, _, _, hr, _⟩ := h.at_ (i := 0) h.h1
  have hp := h.ptr
  have hs := h.rws
  have h1 := h.h1
  unfold rowV at hr
  clear h
  go_enter Tryz.func33, Tryz.ntmps33
  go_wp2_with (go_at_call 59; refine (made_yes g w hp).mono ?_; rintro e w' ⟨rfl, rfl⟩)
  go_quiet (fail)
  go_wp2
  go_ret2
  exact ⟨rfl, _, rfl⟩
/-- An invalid grid. -/
def GrNo (w : World) (p : Option Addr) : Prop := p = none ∨ ∃ g, p = some ⟨g, 0, none⟩ ∧ w.cell? ⟨g, 0, none⟩ = some (.pointer none)
theorem made_not {w : World} {p : Option Addr} (h : GrNo w p) : Calls Tryz.prog 59 #[.pointer p] w fun e w' => e = .returned (.bool false) ∧ w = w' := by
  rcases h with rfl | ⟨g, rfl, hp⟩
  · exact made_nil w
  · exact made_no g w hp
set_option maxHeartbeats 400000 in
theorem size_not {w : World} {p : Option Addr} (h : GrNo w p) :
    Calls Tryz.prog 33 #[.pointer p] w fun e w' => e = .returned (.tuple #[.int .i64 0, .int .i64 0]) ∧ w = w' := by
  have H := Lib.hid h
  clear h
  go_enter Tryz.func33, Tryz.ntmps33
  go_wp2_with (go_at_call 59; refine (made_not H.out).mono ?_; rintro e w' ⟨rfl, rfl⟩)
  go_ret2
  exact ⟨rfl, rfl⟩

/-- is there such a position? -/
def inB (row col : Int) (W H : Nat) : Bool := decide (0 ≤ row ∧ row < H ∧ 0 ≤ col ∧ col < W)
set_option maxHeartbeats 400000 in
theorem has_any {w : World} {lo g rb W : Nat} {bs : List Nat} {L : List (List Cl)} (h : GrAt w lo g rb bs W L) (row col : Int) :
    Calls Tryz.prog 60 #[.pointer (some ⟨g, 0, none⟩), .int .i64 row, .int .i64 col] w fun e w' => e = .returned (.bool (inB row col W L.length)) ∧ ∃ n, w' = w.drewN n := by
  have H := Lib.hid h
  clear h
  go_enter Tryz.func60, Tryz.ntmps60
  go_wp2_with (go_at_call 33; refine (size_any H.out).mono ?_; rintro e w' ⟨rfl, n, rfl⟩)
  all_goals
    go_ret
    exact ⟨ret_bool (by unfold inB; rw [Bool.eq_iff_iff]; simp; omega), _, rfl⟩
set_option maxHeartbeats 400000 in
theorem has_not {w : World} {p : Option Addr} (h : GrNo w p) (row col : Int) :
    Calls Tryz.prog 60 #[.pointer p, .int .i64 row, .int .i64 col] w fun e w' => e = .returned (.bool false) ∧ w = w' := by
  have H := Lib.hid h
  clear h
  go_enter Tryz.func60, Tryz.ntmps60
  go_wp2_with (go_at_call 33; refine (size_not H.out).mono ?_; rintro e w' ⟨rfl, rfl⟩)
  all_goals
    go_ret
    exact ⟨ret_bool (by simp; try omega), rfl⟩

theorem getD_eq {tmps : Array Value} {a : Nat} {v : Value} (h : tmps.getD a undef = v) : tmps[a]?.getD undef = v := by simpa using h
theorem below_drewN (w : World) (n : Nat) : Below w.heap.size w (w.drewN n) := (Chg.refl noB w).drewN n |>.none_below
theorem has_bel {w : World} {lo g rb W : Nat} {bs : List Nat} {L : List (List Cl)} (h : GrAt w lo g rb bs W L) (row col : Int) :
    Calls Tryz.prog 60 #[.pointer (some ⟨g, 0, none⟩), .int .i64 row, .int .i64 col] w fun e w' => e = .returned (.bool (inB row col W L.length)) ∧ Below w.heap.size w w' :=
  (has_any h row col).mono fun e w' ⟨he, n, hn⟩ => ⟨he, hn ▸ below_drewN w n⟩
/-- A struct that a function hands back beside a value. -/
theorem results_ct {fn : Func} {tmps : Array Value} {a t b : Nat} {ad : Nat} {cs : List Value} {v : Value} {w : World} {d : TypeDesc} (hf : fn.results = #[.cell a t, .tmp b]) (ha : tmps.getD a undef = .pointer (some ⟨ad, 0, none⟩)) (hb : tmps.getD b undef = v)
    (hc : w.rangeAt ad 0 cs) (hu : Tryz.prog.underlying t = some d) (hd : d.isRow = true) (hi : (Tryz.prog.info? t).map (·.size) = some cs.length) : (results fn tmps).run Tryz.prog w = .ok (.tuple #[.agg cs.toArray, v]) w := by
  have hl := run_loadVar_mid (P := Tryz.prog) w ad 0 t cs d hc hu hd hi
  have ha' := getD_eq ha
  have hb' := getD_eq hb
  unfold results
  simp [hf, ha', hb', asAddr, hl]
/-- A struct that a function hands back. -/
theorem results_c {fn : Func} {tmps : Array Value} {a t : Nat} {ad : Nat} {cs : List Value} {w : World} {d : TypeDesc} (hf : fn.results = #[.cell a t]) (ha : tmps.getD a undef = .pointer (some ⟨ad, 0, none⟩))
    (hc : w.rangeAt ad 0 cs) (hu : Tryz.prog.underlying t = some d) (hd : d.isRow = true) (hi : (Tryz.prog.info? t).map (·.size) = some cs.length) : (results fn tmps).run Tryz.prog w = .ok (.agg cs.toArray) w := by
  have hl := run_loadVar_mid (P := Tryz.prog) w ad 0 t cs d hc hu hd hi
  have ha' := getD_eq ha
  unfold results
  simp [hf, ha', asAddr, hl]
/-- A struct that a function hands back beside two values. -/
theorem results_ctt {fn : Func} {tmps : Array Value} {a t b c : Nat} {ad : Nat} {cs : List Value} {v u : Value} {w : World} {d : TypeDesc} (hf : fn.results = #[.cell a t, .tmp b, .tmp c]) (ha : tmps.getD a undef = .pointer (some ⟨ad, 0, none⟩)) (hb : tmps.getD b undef = v) (hc' : tmps.getD c undef = u)
    (hc : w.rangeAt ad 0 cs) (hu : Tryz.prog.underlying t = some d) (hd : d.isRow = true) (hi : (Tryz.prog.info? t).map (·.size) = some cs.length) : (results fn tmps).run Tryz.prog w = .ok (.tuple #[.agg cs.toArray, v, u]) w := by
  have hl := run_loadVar_mid (P := Tryz.prog) w ad 0 t cs d hc hu hd hi
  have ha' := getD_eq ha
  have hb' := getD_eq hb
  have hc'' := getD_eq hc'
  unfold results
  simp [hf, ha', hb', hc'', asAddr, hl]

/-- what Cell comes to -/
def cellB (L : List (List Cl)) (row col : Int) : Cl × Bool := if 0 ≤ row ∧ 0 ≤ col then (match L[row.toNat]? with | none => (czero, false) | some l => match l[col.toNat]? with | none => (czero, false) | some c => (c, true)) else (czero, false)
theorem Cl.range (c : Cl) {w : World} {b : Nat} {l : List Cl} {k : Nat} {t : TypeId} (hb : Blk w b t (rc l)) (hk : l[k]? = some c) : w.rangeAt b (k * 7) c.cells := hb.range _ _ fun j v hv => rc_get hk hv

set_option maxRecDepth 100000 in
set_option maxHeartbeats 1000000 in
theorem cell_yes {w : World} {lo g rb W : Nat} {bs : List Nat} {L : List (List Cl)} (h : GrAt w lo g rb bs W L) (row col : Nat) (hr : row < L.length) (hc : col < W) (l : List Cl) (c : Cl) (hl : L[row]? = some l) (hcl : l[col]? = some c) :
    Calls Tryz.prog 63 #[.pointer (some ⟨g, 0, none⟩), .int .i64 row, .int .i64 col] w fun e w' => e = .returned (.tuple #[.agg c.cells.toArray, .bool true]) ∧ Below w.heap.size w w' := by
  have hw5 := h.w5
  have hh5 := h.h5
  have H := Lib.hid h
  have hin : inB row col W L.length = true := by unfold inB; simp; omega
  have HIN := Lib.hid hin
  have hri : (row : Int) < L.length := by omega
  have hci : (col : Int) < W := by omega
  have HL := Lib.hid hl
  have HC := Lib.hid hcl
  clear h hin hl hcl
  go_enter Tryz.func63, Tryz.ntmps63
  go_wp2_with (first
    | (go_at_call 60; refine (has_bel (H.out.below ((Below.refl _ _).alloc (Nat.le_refl _) _)) row col).mono ?_; rintro e w1 ⟨rfl, hb1⟩; rw [HIN.out]; have H1 := Lib.hid ((H.out.below ((Below.refl _ _).alloc (Nat.le_refl _) _)).below hb1); obtain ⟨b, l', hbi, hl', hrv, hlen, hwf, hb⟩ := H1.out.at_ hr; obtain rfl : l' = l := (by have := HL.out; rw [this] at hl'; injection hl' with hl'; exact hl'.symm); have hs := H1.out.rws; have HB := Lib.hid hb; unfold rowV at hrv; have HN := Lib.hid ((Blk.new w 83 czero.cells).below hb1 (by simp)); clear hl' hlen hwf hbi hb)
    | ((with_reducible refine at_dst 23 ?_); refine wpList_load_mid rfl _ _ rfl b (col * 7) rfl c.cells _ (c.range HB.out HC.out) Tryz.underlying83 rfl cl_size ?_)
    | ((with_reducible refine at_store 6 ?_); refine wpList_store_blk rfl _ _ _ rfl rfl w.heap.size 0 _ czero.cells c.cells rfl rfl HN.out (by simp [Cl.len]) cl_size c.one ?_; intro w2 hn2 hg2))
  have hc2 : Blk w2 w.heap.size 83 c.cells := hn2
  refine bodyPost_ret (results_ct rfl rfl rfl (hc2.range 0 c.cells (fun j v hv => by simpa using hv)) Tryz.underlying83 rfl cl_size) rfl ⟨rfl, ?_⟩
  exact (((Below.refl _ _).alloc (Nat.le_refl _) _).trans (hb1.mono (by simp))).grown hg2 (by have := hb1.size; simp at this; omega) (fun k hk => by injection hk with hk; omega)
set_option maxHeartbeats 1000000 in
theorem cell_no {w : World} {p : Option Addr} (row col : Int) (hh : ∀ w', Below w.heap.size w w' → Calls Tryz.prog 60 #[.pointer p, .int .i64 row, .int .i64 col] w' fun e w'' => e = .returned (.bool false) ∧ Below w'.heap.size w' w'') :
    Calls Tryz.prog 63 #[.pointer p, .int .i64 row, .int .i64 col] w fun e w' => e = .returned (.tuple #[.agg czero.cells.toArray, .bool false]) ∧ Below w.heap.size w w' := by
  have HH := Lib.hid hh
  clear hh
  go_enter Tryz.func63, Tryz.ntmps63
  go_wp2_with (first
    | (go_at_call 60; refine (HH.out _ ((Below.refl _ _).alloc (Nat.le_refl _) _)).mono ?_; rintro e w1 ⟨rfl, hb1⟩; have HN := Lib.hid ((Blk.new w 83 czero.cells).below hb1 (by simp)))
    | ((with_reducible refine at_store 6 ?_); refine wpList_store_blk rfl _ _ _ rfl rfl w.heap.size 0 _ czero.cells czero.cells rfl rfl HN.out (by simp [Cl.len]) cl_size czero.one ?_; intro w2 hn2 hg2))
  have hc2 : Blk w2 w.heap.size 83 czero.cells := hn2
  refine bodyPost_ret (results_ct rfl rfl rfl (hc2.range 0 czero.cells (fun j v hv => by simpa using hv)) Tryz.underlying83 rfl cl_size) rfl ⟨rfl, ?_⟩
  exact (((Below.refl _ _).alloc (Nat.le_refl _) _).trans (hb1.mono (by simp))).grown hg2 (by have := hb1.size; simp at this; omega) (fun k hk => by injection hk with hk; omega)

theorem GrNo.below {w w' : World} {p : Option Addr} (h : GrNo w p) (hb : Below w.heap.size w w') : GrNo w' p := by
  rcases h with h | ⟨g, h1, h2⟩
  · exact .inl h
  · exact .inr ⟨g, h1, (hb.cell (p := ⟨g, 0, none⟩) (World.block_lt_of_cell? w _ h2)).trans h2⟩
theorem cell_not {w : World} {p : Option Addr} (h : GrNo w p) (row col : Int) :
    Calls Tryz.prog 63 #[.pointer p, .int .i64 row, .int .i64 col] w fun e w' => e = .returned (.tuple #[.agg czero.cells.toArray, .bool false]) ∧ Below w.heap.size w w' :=
  cell_no row col fun w' hb => (has_not (h.below hb) row col).mono fun e w'' ⟨he, hw⟩ => ⟨he, hw ▸ Below.refl _ _⟩
theorem GrAt.some_at {w : World} {lo g rb W : Nat} {bs : List Nat} {L : List (List Cl)} (h : GrAt w lo g rb bs W L) {row : Nat} {l : List Cl} (hl : L[row]? = some l) : l.length = W ∧ Wf l := by
  have hr : row < L.length := (List.getElem?_eq_some_iff.1 hl).1
  obtain ⟨b, l', _, h1, _, h2, h3, _⟩ := h.at_ hr
  rw [hl] at h1
  injection h1 with h1
  subst h1
  exact ⟨h2, h3⟩
theorem cell_any {w : World} {lo g rb W : Nat} {bs : List Nat} {L : List (List Cl)} (h : GrAt w lo g rb bs W L) (row col : Int) :
    Calls Tryz.prog 63 #[.pointer (some ⟨g, 0, none⟩), .int .i64 row, .int .i64 col] w fun e w' => e = .returned (.tuple #[.agg (cellB L row col).1.cells.toArray, .bool (cellB L row col).2]) ∧ Below w.heap.size w w' := by
  by_cases hin : inB row col W L.length = true
  · obtain ⟨h0, h1, h2, h3⟩ : 0 ≤ row ∧ row < L.length ∧ 0 ≤ col ∧ col < W := by simpa [inB] using hin
    obtain ⟨r, rfl⟩ := Int.eq_ofNat_of_zero_le h0
    obtain ⟨c, rfl⟩ := Int.eq_ofNat_of_zero_le h2
    have hl : L[r]? = some (L[r]'(by omega)) := List.getElem?_eq_getElem (by omega)
    obtain ⟨hlen, _⟩ := h.some_at hl
    have hc : (L[r]'(by omega))[c]? = some ((L[r]'(by omega))[c]'(by omega)) := List.getElem?_eq_getElem (by omega)
    have e : cellB L r c = ((L[r]'(by omega))[c]'(by omega), true) := by
      unfold cellB
      rw [if_pos ⟨h0, h2⟩, Int.toNat_natCast, Int.toNat_natCast, hl]
      simp only
      rw [hc]
    rw [e]
    exact cell_yes h r c (by omega) (by omega) _ _ hl hc
  · have hin' : inB row col W L.length = false := by simpa using hin
    have e : cellB L row col = (czero, false) := by
      unfold cellB
      split
      · next h02 =>
        split
        · rfl
        · next l hl =>
          have hlen := (h.some_at hl).1
          have hr : row.toNat < L.length := (List.getElem?_eq_some_iff.1 hl).1
          split
          · rfl
          · next c hc =>
            have hcl : col.toNat < l.length := (List.getElem?_eq_some_iff.1 hc).1
            exfalso
            apply hin
            simp [inB]
            omega
      · rfl
    rw [e]
    exact cell_no row col fun w' hb => (has_bel (h.below hb) row col).mono fun e w'' ⟨he, hw⟩ => ⟨by rw [← hin']; exact he, hw⟩

/-- The program's own blank lies where the program's text lays it. -/
def BlankT (w : World) : Prop := w.rangeAt 0 0 bl.cells ∧ 0 < w.heap.size
theorem BlankT.chg {S : Nat → Prop} {w w' : World} (h : BlankT w) (hc : Chg S w w') (hn : ¬ S 0) : BlankT w' :=
  ⟨fun j v hv => hc.cell (p := ⟨0, 0 + j, none⟩) (h.1 j v hv) hn, Nat.lt_of_lt_of_le h.2 hc.size⟩
theorem BlankT.below {B : Nat} {w w' : World} (h : BlankT w) (hb : Below B w w') (hB : 0 < B) : BlankT w' :=
  ⟨fun j v hv => (hb.cell (p := ⟨0, 0 + j, none⟩) hB).trans (h.1 j v hv), Nat.lt_of_lt_of_le h.2 hb.size⟩
theorem BlankT.bel {w w' : World} (h : BlankT w) (hb : Below w.heap.size w w') : BlankT w' := h.below hb h.2
theorem BlankT.grown {w w' : World} {b : Nat} (h : BlankT w) (hg : w.grownBy w' (some b)) (hb : b ≠ 0) : BlankT w' :=
  h.chg ((Chg.refl (one b) w).grown hg (fun k hk => .inl (by injection hk with hk; exact hk.symm))) (fun e => hb e.symm)
end Go.Proofs.YtfmkeeaenjeneaaGreatDoor

namespace Go.Proofs.YtfmkeeaenjeneaaGreatDoor
open Go.RowKit
set_option linter.unusedVariables false
set_option linter.unusedSimpArgs false

theorem goInt_cell {l : List Cl} {k : Nat} {c : Cl} (h : l[k]? = some c) {w : World} {b : Nat} {t : TypeId} (hb : Blk w b t (rc l)) : w.cell? ⟨b, k * 7 + 1, none⟩ = some (.int .i64 c.w) := by
  rw [hb.cell]
  exact rc_get h (j := 1) rfl

set_option maxHeartbeats 1000000 in
theorem blankAt_any (b : Nat) (l : List Cl) (n k : Nat) (hn : l.length = n) (hl : Wf l) (hk : k < n) (h5 : n ≤ 500) (w : World) (hb : Blk w b 83 (rc l)) (hB : BlankT w) (hne : b ≠ 0) :
    Calls Tryz.prog 137 #[.slice (some ⟨b, 0, none⟩) n n, .int .i64 k] w fun e w' => e = .returned (.tuple #[]) ∧ Blk w' b 83 (rc (blankM l k)) ∧ w.grownBy w' (some b) := by
  have hki : (k : Int) < n := by omega
  have hc : l[k]? = some (l[k]'(by omega)) := List.getElem?_eq_getElem (by omega)
  generalize l[k]'(by omega) = c at hc
  have hcell := goInt_cell hc hb
  have hw := hl.w k c hc
  have hrl := rc_length l
  have HB := Lib.hid hb
  have HT := Lib.hid hB
  have HNE := Lib.hid hne
  have hM : blankM l k = (if c.w = 2 then l.set (k + 1) bl else if c.w = 0 then l.set (k - 1) bl else l).set k bl := by unfold blankM; rw [hc]
  rcases hw with h0 | h1 | h2
  · obtain ⟨j, d, rfl, hd, _⟩ := hl.tail k c hc h0
    rw [h0] at hcell
    rw [hM, h0, if_neg (by omega), if_pos rfl, show j + 1 - 1 = j by omega]
    have hsp : splice (rc l) (j * 7) bl.cells = rc (l.set j bl) := rc_splice l j bl (by omega)
    have hsp2 : splice (rc (l.set j bl)) ((j + 1) * 7) bl.cells = rc ((l.set j bl).set (j + 1) bl) := rc_splice _ _ bl (by simp; omega)
    have hrl2 := rc_length (l.set j bl)
    have hls : (l.set j bl).length = n := by simp [hn]
    have HSP := Lib.hid hsp
    have HSP2 := Lib.hid hsp2
    have HRL := Lib.hid hrl
    have HRL2 := Lib.hid hrl2
    have HN := Lib.hid hn
    have HLS := Lib.hid hls
    clear hb hB hne hM hsp hsp2 hrl hrl2 hc hl h0 hd hn hls
    have hjj : ((j + 1 : Nat) : Int) - 1 = (j : Int) := by omega
    go_enter Tryz.func137, Tryz.ntmps137
    go_wp2_with (first
      | ((with_reducible refine at_dst 21 ?_); refine wpList_load_mid rfl _ _ rfl 0 0 rfl bl.cells _ HT.out.1 Tryz.underlying83 rfl cl_size ?_)
      | ((with_reducible refine at_store 22 ?_); refine wpList_store_blk rfl _ _ _ rfl rfl b (j * 7) _ (rc l) bl.cells rfl rfl HB.out (by have := HRL.out; have := HN.out; rw [Cl.len]; omega) cl_size bl.one ?_; intro w2 hn2 hg2; rw [HSP.out] at hn2; have HT2 := Lib.hid (HT.out.grown hg2 HNE.out); have HB2 := Lib.hid hn2; clear hn2)
      | ((with_reducible refine at_dst 25 ?_); refine wpList_load_mid rfl _ _ rfl 0 0 rfl bl.cells _ HT2.out.1 Tryz.underlying83 rfl cl_size ?_)
      | ((with_reducible refine at_store 26 ?_); refine wpList_store_blk rfl _ _ _ rfl rfl b ((j + 1) * 7) _ (rc (l.set j bl)) bl.cells rfl rfl HB2.out (by have := HRL2.out; have := HLS.out; rw [Cl.len]; omega) cl_size bl.one ?_; intro w3 hn3 hg3))
    rw [HSP2.out] at hn3
    exact bodyPost_end (results_none rfl _ _ _) rfl ⟨rfl, hn3, grown_trans hg2 hg3⟩
  · rw [h1] at hcell
    rw [hM, h1, if_neg (by omega), if_neg (by omega)]
    have hsp : splice (rc l) (k * 7) bl.cells = rc (l.set k bl) := rc_splice l k bl (by omega)
    have HSP := Lib.hid hsp
    have HRL := Lib.hid hrl
    have HN := Lib.hid hn
    clear hb hB hne hM hsp hrl hc hl h1 hn
    go_enter Tryz.func137, Tryz.ntmps137
    go_wp2_with (first
      | ((with_reducible refine at_dst 25 ?_); refine wpList_load_mid rfl _ _ rfl 0 0 rfl bl.cells _ HT.out.1 Tryz.underlying83 rfl cl_size ?_)
      | ((with_reducible refine at_store 26 ?_); refine wpList_store_blk rfl _ _ _ rfl rfl b (k * 7) _ (rc l) bl.cells rfl rfl HB.out (by have := HRL.out; have := HN.out; rw [Cl.len]; omega) cl_size bl.one ?_; intro w3 hn3 hg3))
    rw [HSP.out] at hn3
    exact bodyPost_end (results_none rfl _ _ _) rfl ⟨rfl, hn3, hg3⟩
  · have hk1 : k + 1 < n := by have := (List.getElem?_eq_some_iff.1 (hl.wide k c hc h2)).1; omega
    rw [h2] at hcell
    rw [hM, h2, if_pos rfl]
    have hsp : splice (rc l) ((k + 1) * 7) bl.cells = rc (l.set (k + 1) bl) := rc_splice l (k + 1) bl (by omega)
    have hsp2 : splice (rc (l.set (k + 1) bl)) (k * 7) bl.cells = rc ((l.set (k + 1) bl).set k bl) := rc_splice _ _ bl (by simp; omega)
    have hrl2 := rc_length (l.set (k + 1) bl)
    have hls : (l.set (k + 1) bl).length = n := by simp [hn]
    have HSP := Lib.hid hsp
    have HSP2 := Lib.hid hsp2
    have HRL := Lib.hid hrl
    have HRL2 := Lib.hid hrl2
    have HN := Lib.hid hn
    have HLS := Lib.hid hls
    clear hb hB hne hM hsp hsp2 hrl hrl2 hc hl h2 hn hls
    have hk1i : (k : Int) + 1 < n := by omega
    go_enter Tryz.func137, Tryz.ntmps137
    go_wp2_with (first
      | ((with_reducible refine at_dst 14 ?_); refine wpList_load_mid rfl _ _ rfl 0 0 rfl bl.cells _ HT.out.1 Tryz.underlying83 rfl cl_size ?_)
      | ((with_reducible refine at_store 15 ?_); refine wpList_store_blk rfl _ _ _ rfl rfl b ((k + 1) * 7) _ (rc l) bl.cells rfl rfl HB.out (by have := HRL.out; have := HN.out; rw [Cl.len]; omega) cl_size bl.one ?_; intro w2 hn2 hg2; rw [HSP.out] at hn2; have HT2 := Lib.hid (HT.out.grown hg2 HNE.out); have HB2 := Lib.hid hn2; clear hn2)
      | ((with_reducible refine at_dst 25 ?_); refine wpList_load_mid rfl _ _ rfl 0 0 rfl bl.cells _ HT2.out.1 Tryz.underlying83 rfl cl_size ?_)
      | ((with_reducible refine at_store 26 ?_); refine wpList_store_blk rfl _ _ _ rfl rfl b (k * 7) _ (rc (l.set (k + 1) bl)) bl.cells rfl rfl HB2.out (by have := HRL2.out; have := HLS.out; rw [Cl.len]; omega) cl_size bl.one ?_; intro w3 hn3 hg3))
    rw [HSP2.out] at hn3
    exact bodyPost_end (results_none rfl _ _ _) rfl ⟨rfl, hn3, grown_trans hg2 hg3⟩

def putR (l : List Cl) (col : Nat) (s : List UInt8) (m : Nat) (y : Sty) : List Cl :=
  if m = 2 then ((eraseM l col 2).set col ⟨s, 2, y⟩).set (col + 1) (tail_ y) else (eraseM l col 1).set col ⟨s, 1, y⟩
theorem putR_length (l : List Cl) (col : Nat) (s : List UInt8) (m : Nat) (y : Sty) : (putR l col s m y).length = l.length := by
  unfold putR
  split <;> simp [eraseM_length]
theorem Wf.put {l : List Cl} (hl : Wf l) {col m : Nat} {s : List UInt8} {y : Sty} (hm : m = 1 ∨ m = 2) (hc : col + m ≤ l.length) (hs : s ≠ []) (h64 : s.length ≤ 64) : Wf (putR l col s m y) := by
  unfold putR
  rcases hm with rfl | rfl
  · rw [if_neg (by omega)]
    exact (hl.erase col 1).set1 ⟨bl, blankM_self hl (by omega), rfl⟩ rfl hs h64
  · rw [if_pos rfl]
    refine (hl.erase col 2).set2 ?_ ⟨bl, blankM_self (hl.blank col) (by rw [blankM_length]; omega), rfl⟩ hs h64
    have hc1 : (blankM l col)[col + 1]? = some ((blankM l col)[col + 1]'(by rw [blankM_length]; omega)) := List.getElem?_eq_getElem _
    have hself := blankM_self hl (k := col) (by omega)
    show ∃ d, (blankM (blankM l col) (col + 1))[col]? = some d ∧ d.w = 1
    rw [blankM_get (hl.blank col) hc1, if_neg (by omega), if_neg (by omega)]
    split
    · exact ⟨bl, rfl, rfl⟩
    · exact ⟨bl, hself, rfl⟩

theorem sty_size : (Tryz.prog.info? 31).map (·.size) = some 5 := by kernel_rfl
theorem Sty.one (y : Sty) : ∀ v ∈ y.cells, v.oneCell' = true := by
  intro v hv
  simp [Sty.cells] at hv
  rcases hv with rfl | rfl | rfl | rfl | rfl <;> rfl

set_option maxRecDepth 100000 in
set_option maxHeartbeats 4000000 in
theorem put_ok {w : World} {lo g rb W : Nat} {bs : List Nat} {L : List (List Cl)} (h : GrAt w lo g rb bs W L) (hT : BlankT w) (hlo : 0 < lo) (row col m : Nat) (s : List UInt8) (y : Sty) (l : List Cl) (hl : L[row]? = some l) (hm : m = 1 ∨ m = 2) (hc : col + m ≤ W) (hs : s ≠ []) (h64 : s.length ≤ 64) :
    Calls Tryz.prog 110 #[.pointer (some ⟨g, 0, none⟩), .int .i64 row, .int .i64 col, .string ⟨s.toArray⟩, .int .i64 m, .agg y.cells.toArray] w fun e w' => e = .returned (.int .i64 0) ∧
      GrAt w' lo g rb bs W (L.set row (putR l col s m y)) ∧ Chg (GrOwn g rb bs) w w' := by
  have hr : row < L.length := (List.getElem?_eq_some_iff.1 hl).1
  obtain ⟨hlen, hwf⟩ := h.some_at hl
  have hw5 := h.w5
  have hh5 := h.h5
  have HIN := Lib.hid (show inB row col W L.length = true by unfold inB; simp; omega)
  have HIN2 := Lib.hid (show inB row ((col : Int) + m - 1) W L.length = true by unfold inB; simp; omega)
  have hsz : (⟨s.toArray⟩ : ByteArray).size = s.length := by show s.toArray.size = _; simp
  have HSZ := Lib.hid hsz
  have hri : (row : Int) < L.length := by omega
  have H := Lib.hid h
  have HT := Lib.hid hT
  have HL := Lib.hid hl
  have HLEN := Lib.hid hlen
  have HWF := Lib.hid hwf
  clear h hT hl hlen hwf hsz
  have hcb : (col : Int) < 500 := by omega
  have hse : s.isEmpty = false := by cases s with
    | nil => exact absurd rfl hs
    | cons _ _ => rfl
  have hs64 : decide (64 < (s.length : Int)) = false := by simp; omega
  have hbel0 : Below w.heap.size w (w.alloc (.cells y.cells.toArray 31)) := (Below.refl _ _).alloc (Nat.le_refl _) _
  have H0 := Lib.hid (H.out.below hbel0)
  have HY0 := Lib.hid (Blk.new w 31 y.cells)
  have HZ0 := Lib.hid hbel0
  have HSS := Lib.hid hs
  clear hs hbel0
  rcases hm with rfl | rfl
  · have hc1 : (col : Int) + 1 - 1 = (col : Int) := by omega
    go_enter Tryz.func110, Tryz.ntmps110
    go_wp2_with (first
      | (go_at_call 59; refine (made_yes g _ H0.out.ptr).mono ?_; rintro e w' ⟨rfl, rfl⟩))
    refine (has_bel H0.out row col).mono ?_
    rintro e w1 ⟨rfl, hb1⟩
    rw [HIN.out]
    have H1 := Lib.hid (H0.out.below hb1)
    have HB1 := Lib.hid hb1
    clear hb1
    go_wp2_with (fail)
    refine (has_bel H1.out row _).mono ?_
    rintro e w2 ⟨rfl, hb2⟩
    have hi2 := HIN2.out
    simp only [Int.natCast_one, hc1] at hi2
    rw [hi2]
    have H2 := Lib.hid (H1.out.below hb2)
    have HB2 := Lib.hid (HB1.out.trans (hb2.mono HB1.out.size))
    have hs2 := H2.out.rws
    obtain ⟨b, l', hbi, hl', hrv, hlen', hwf', hb⟩ := H2.out.at_ hr
    obtain rfl : l' = l := by have := HL.out; rw [this] at hl'; injection hl' with hl'; exact hl'.symm
    unfold rowV at hrv
    have HB := Lib.hid hb
    have HBI := Lib.hid hbi
    have HT2 := Lib.hid ((HT.out.bel HZ0.out).bel HB2.out)
    have hbne : b ≠ 0 := by have := H2.out.lo b (.inr (.inr (List.mem_of_getElem? hbi))); omega
    have HBN := Lib.hid hbne
    clear hb2 hi2 hl' hlen' hwf' hb hbi hbne
    go_wp2
    go_loopw [59] (fun v59 wr => ∃ k : Nat, v59 = .int .i64 k ∧ k ≤ 1 ∧ Blk wr b 83 (rc (eraseM l' col k)) ∧ Chg (one b) w2 wr) (fun v59 _ => 1 - (intOf v59).toNat)
    case atStart => exact ⟨0, rfl, by omega, HB.out, Chg.refl _ _⟩
    case round =>
      obtain ⟨k, rfl, hk, hbk, hck⟩ := hrel
      have HBK := Lib.hid hbk
      have HCK := Lib.hid hck
      clear hbk hck
      by_cases hlt : k < 1
      · have hlti : (k : Int) < 1 := by omega
        have HTr := Lib.hid (HT2.out.chg HCK.out (fun e => HBN.out e.symm))
        go_wp2_with (fail)
        rw [show (col : Int) + (k : Int) = ((col + k : Nat) : Int) by omega]
        refine (blankAt_any b (eraseM l' col k) W (col + k) (by rw [eraseM_length]; exact HLEN.out) (HWF.out.erase col k) (by omega) (by omega) wr HBK.out HTr.out HBN.out).mono ?_
        rintro e w4 ⟨rfl, hb4, hg4⟩
        rw [← eraseM_snoc] at hb4
        have HB4 := Lib.hid hb4
        have HG4 := Lib.hid hg4
        clear hb4 hg4
        go_wp2
        go_roundw
        case rel => exact ⟨k + 1, by go_num, by omega, HB4.out, HCK.out.trans (chg_of_grown HG4.out) (fun _ h => .inl h)⟩
        case measure => simp [intOf]; omega
      · have hlti : ¬ (k : Int) < 1 := by omega
        obtain rfl : k = 1 := by omega
        have hYr : Blk wr w.heap.size 31 y.cells := ((HY0.out.below HB2.out (by simp)).chg HCK.out (fun e => by have := H0.out.own_lt b (.inr (.inr (List.mem_of_getElem? HBI.out))); have e' : w.heap.size = b := e; have := H.out.own_lt b (.inr (.inr (List.mem_of_getElem? HBI.out))); omega))
        have HYR := Lib.hid hYr
        have hel : (eraseM l' col 1).length = W := by rw [eraseM_length]; exact HLEN.out
        have HEL := Lib.hid hel
        have hrl := rc_length (eraseM l' col 1)
        rw [hel] at hrl
        have HRL := Lib.hid hrl
        have hci : (col : Int) < W := by omega
        clear hYr hel hrl
        have hsp : splice (rc (eraseM l' col 1)) (col * 7) (Cl.mk s 1 y).cells = rc (putR l' col s 1 y) := by unfold putR; rw [if_neg (by omega)]; exact rc_splice _ _ _ (by rw [HEL.out]; omega)
        have HSP := Lib.hid hsp
        clear hsp
        go_wp2_with (first
          | ((with_reducible refine at_dst 72 ?_); refine wpList_load_mid rfl _ _ rfl w.heap.size 0 rfl [.bool y.b, .bool y.u, .bool y.i, .int .i64 y.f, .int .i64 y.g] _ (HYR.out.range 0 y.cells (fun j v hv => by simpa using hv)) Tryz.underlying31 rfl sty_size ?_)
          | ((with_reducible refine at_store 74 ?_); refine wpList_store_blk rfl _ _ _ rfl rfl b (col * 7) _ (rc (eraseM l' col 1)) (Cl.mk s 1 y).cells rfl rfl HBK.out (by have := HRL.out; rw [Cl.len]; omega) cl_size (Cl.one _) ?_; intro w5 hn5 hg5))
        go_ret
        rw [HSP.out] at hn5
        have hch : Chg (one b) w2 w5 := HCK.out.trans (chg_of_grown hg5) (fun _ h => .inl h)
        refine ⟨rfl, H2.out.set HBI.out hch (by rw [putR_length]; exact HLEN.out) (HWF.out.put (by omega) (by rw [HLEN.out]; omega) HSS.out h64) hn5, ?_⟩
        exact (Chg.of_below (S := GrOwn g rb bs) HZ0.out).trans ((Chg.of_below (S := GrOwn g rb bs) HB2.out).trans hch (fun j e => .inl (by have e' : j = b := e; subst e'; exact .inr (.inr (List.mem_of_getElem? HBI.out))))) (fun _ h => .inl h)
  · have hc1 : (col : Int) + 2 - 1 = (col : Int) + 1 := by omega
    go_enter Tryz.func110, Tryz.ntmps110
    go_wp2_with (first
      | (go_at_call 59; refine (made_yes g _ H0.out.ptr).mono ?_; rintro e w' ⟨rfl, rfl⟩))
    refine (has_bel H0.out row col).mono ?_
    rintro e w1 ⟨rfl, hb1⟩
    rw [HIN.out]
    have H1 := Lib.hid (H0.out.below hb1)
    have HB1 := Lib.hid hb1
    clear hb1
    go_wp2_with (fail)
    refine (has_bel H1.out row _).mono ?_
    rintro e w2 ⟨rfl, hb2⟩
    have hi2 := HIN2.out
    simp only [Int.cast_ofNat_Int, hc1] at hi2
    rw [hi2]
    have H2 := Lib.hid (H1.out.below hb2)
    have HB2 := Lib.hid (HB1.out.trans (hb2.mono HB1.out.size))
    have hs2 := H2.out.rws
    obtain ⟨b, l', hbi, hl', hrv, hlen', hwf', hb⟩ := H2.out.at_ hr
    obtain rfl : l' = l := by have := HL.out; rw [this] at hl'; injection hl' with hl'; exact hl'.symm
    unfold rowV at hrv
    have HB := Lib.hid hb
    have HBI := Lib.hid hbi
    have HT2 := Lib.hid ((HT.out.bel HZ0.out).bel HB2.out)
    have hbne : b ≠ 0 := by have := H2.out.lo b (.inr (.inr (List.mem_of_getElem? hbi))); omega
    have HBN := Lib.hid hbne
    clear hb2 hi2 hl' hlen' hwf' hb hbi hbne
    go_wp2
    go_loopw [59] (fun v59 wr => ∃ k : Nat, v59 = .int .i64 k ∧ k ≤ 2 ∧ Blk wr b 83 (rc (eraseM l' col k)) ∧ Chg (one b) w2 wr) (fun v59 _ => 2 - (intOf v59).toNat)
    case atStart => exact ⟨0, rfl, by omega, HB.out, Chg.refl _ _⟩
    case round =>
      obtain ⟨k, rfl, hk, hbk, hck⟩ := hrel
      have HBK := Lib.hid hbk
      have HCK := Lib.hid hck
      clear hbk hck
      by_cases hlt : k < 2
      · have hlti : (k : Int) < 2 := by omega
        have HTr := Lib.hid (HT2.out.chg HCK.out (fun e => HBN.out e.symm))
        go_wp2_with (fail)
        rw [show (col : Int) + (k : Int) = ((col + k : Nat) : Int) by omega]
        refine (blankAt_any b (eraseM l' col k) W (col + k) (by rw [eraseM_length]; exact HLEN.out) (HWF.out.erase col k) (by omega) (by omega) wr HBK.out HTr.out HBN.out).mono ?_
        rintro e w4 ⟨rfl, hb4, hg4⟩
        rw [← eraseM_snoc] at hb4
        have HB4 := Lib.hid hb4
        have HG4 := Lib.hid hg4
        clear hb4 hg4
        go_wp2
        go_roundw
        case rel => exact ⟨k + 1, by go_num, by omega, HB4.out, HCK.out.trans (chg_of_grown HG4.out) (fun _ h => .inl h)⟩
        case measure => simp [intOf]; omega
      · have hlti : ¬ (k : Int) < 2 := by omega
        obtain rfl : k = 2 := by omega
        have hYr : Blk wr w.heap.size 31 y.cells := ((HY0.out.below HB2.out (by simp)).chg HCK.out (fun e => by have := H0.out.own_lt b (.inr (.inr (List.mem_of_getElem? HBI.out))); have e' : w.heap.size = b := e; have := H.out.own_lt b (.inr (.inr (List.mem_of_getElem? HBI.out))); omega))
        have HYR := Lib.hid hYr
        have hel : (eraseM l' col 2).length = W := by rw [eraseM_length]; exact HLEN.out
        have HEL := Lib.hid hel
        have hrl := rc_length (eraseM l' col 2)
        rw [hel] at hrl
        have HRL := Lib.hid hrl
        have hci : (col : Int) < W := by omega
        clear hYr hel hrl
        have hsp : splice (rc (eraseM l' col 2)) (col * 7) (Cl.mk s 2 y).cells = rc ((eraseM l' col 2).set col ⟨s, 2, y⟩) := rc_splice _ _ _ (by rw [HEL.out]; omega)
        have hsp2 : splice (rc ((eraseM l' col 2).set col ⟨s, 2, y⟩)) ((col + 1) * 7) (tail_ y).cells = rc (putR l' col s 2 y) := by unfold putR; rw [if_pos rfl]; exact rc_splice _ _ _ (by rw [List.length_set, HEL.out]; omega)
        have HSP := Lib.hid hsp
        have HSP2 := Lib.hid hsp2
        have hrl2 := rc_length ((eraseM l' col 2).set col ⟨s, 2, y⟩)
        rw [List.length_set, HEL.out] at hrl2
        have HRL2 := Lib.hid hrl2
        have hc1i : (col : Int) + 1 < W := by omega
        have hyb : b ≠ w.heap.size := fun e => by have := H.out.own_lt b (.inr (.inr (List.mem_of_getElem? HBI.out))); omega
        have HYB := Lib.hid hyb
        clear hsp hsp2 hrl2 hyb
        go_wp2_with (first
          | ((with_reducible refine at_dst 72 ?_); refine wpList_load_mid rfl _ _ rfl w.heap.size 0 rfl [.bool y.b, .bool y.u, .bool y.i, .int .i64 y.f, .int .i64 y.g] _ (HYR.out.range 0 y.cells (fun j v hv => by simpa using hv)) Tryz.underlying31 rfl sty_size ?_)
          | ((with_reducible refine at_store 74 ?_); refine wpList_store_blk rfl _ _ _ rfl rfl b (col * 7) _ (rc (eraseM l' col 2)) (Cl.mk s 2 y).cells rfl rfl HBK.out (by have := HRL.out; rw [Cl.len]; omega) cl_size (Cl.one _) ?_; intro w4 hn4 hg4; rw [HSP.out] at hn4; have HN4 := Lib.hid hn4; have HY4 := Lib.hid (HYR.out.chg (chg_of_grown hg4) (fun e => HYB.out e.symm)); clear hn4)
          | ((with_reducible refine at_dst 80 ?_); refine wpList_load_mid rfl _ _ rfl w.heap.size 0 rfl [.bool y.b, .bool y.u, .bool y.i, .int .i64 y.f, .int .i64 y.g] _ (HY4.out.range 0 y.cells (fun j v hv => by simpa using hv)) Tryz.underlying31 rfl sty_size ?_)
          | ((with_reducible refine at_store 82 ?_); refine wpList_store_blk rfl _ _ _ rfl rfl b ((col + 1) * 7) _ (rc ((eraseM l' col 2).set col ⟨s, 2, y⟩)) (tail_ y).cells rfl rfl HN4.out (by have := HRL2.out; rw [Cl.len]; omega) cl_size (Cl.one _) ?_; intro w5 hn5 hg5'; have hg5 := grown_trans hg4 hg5'))
        go_ret
        rw [HSP2.out] at hn5
        have hch : Chg (one b) w2 w5 := HCK.out.trans (chg_of_grown hg5) (fun _ h => .inl h)
        refine ⟨rfl, H2.out.set HBI.out hch (by rw [putR_length]; exact HLEN.out) (HWF.out.put (by omega) (by rw [HLEN.out]; omega) HSS.out h64) hn5, ?_⟩
        exact (Chg.of_below (S := GrOwn g rb bs) HZ0.out).trans ((Chg.of_below (S := GrOwn g rb bs) HB2.out).trans hch (fun j e => .inl (by have e' : j = b := e; subst e'; exact .inr (.inr (List.mem_of_getElem? HBI.out))))) (fun _ h => .inl h)

/-- what Put comes to -/
def putM (W : Nat) (L : List (List Cl)) (row col : Int) (s : List UInt8) (m : Int) (y : Sty) : List (List Cl) × Int :=
  if s = [] ∨ 64 < s.length ∨ (m ≠ 1 ∧ m ≠ 2) then (L, 1)
  else if inB row col W L.length = false ∨ inB row (col + m - 1) W L.length = false then (L, 5)
  else (L.set row.toNat (putR (L.getD row.toNat []) col.toNat s m.toNat y), 0)

set_option maxRecDepth 100000 in
set_option maxHeartbeats 1000000 in
theorem put_not {w : World} {p : Option Addr} (h : GrNo w p) (row col : Int) (s : ByteArray) (m : Int) (y : Sty) :
    Calls Tryz.prog 110 #[.pointer p, .int .i64 row, .int .i64 col, .string s, .int .i64 m, .agg y.cells.toArray] w fun e w' => e = .returned (.int .i64 4) ∧ Below w.heap.size w w' := by
  have H := Lib.hid (h.below ((Below.refl _ _).alloc (Nat.le_refl _) (.cells y.cells.toArray 31)))
  clear h
  go_enter Tryz.func110, Tryz.ntmps110
  go_wp2_with (go_at_call 59; refine (made_not H.out).mono ?_; rintro e w' ⟨rfl, rfl⟩)
  go_ret
  exact ⟨rfl, (Below.refl _ _).alloc (Nat.le_refl _) _⟩

set_option maxRecDepth 100000 in
set_option maxHeartbeats 4000000 in
theorem put_arg {w : World} (g : Nat) (hp : w.cell? ⟨g, 0, none⟩ = some (.pointer (some ⟨g, 0, none⟩))) (row col : Int) (s : List UInt8) (m : Int) (y : Sty) (hs : s.length ≤ 1000000) (hbad : s = [] ∨ 64 < s.length ∨ (m ≠ 1 ∧ m ≠ 2)) :
    Calls Tryz.prog 110 #[.pointer (some ⟨g, 0, none⟩), .int .i64 row, .int .i64 col, .string ⟨s.toArray⟩, .int .i64 m, .agg y.cells.toArray] w fun e w' => e = .returned (.int .i64 1) ∧ Below w.heap.size w w' := by
  have hp' := Lib.hid ((((Below.refl _ _).alloc (Nat.le_refl _) (.cells y.cells.toArray 31)).cell (p := ⟨g, 0, none⟩) (World.block_lt_of_cell? w _ hp)).trans hp)
  clear hp
  have hsz : (⟨s.toArray⟩ : ByteArray).size = s.length := by show s.toArray.size = _; simp
  have HSZ := Lib.hid hsz
  clear hsz
  by_cases h1 : s = []
  · subst h1
    go_enter Tryz.func110, Tryz.ntmps110
    go_wp2_with (go_at_call 59; refine (made_yes g _ hp'.out).mono ?_; rintro e w' ⟨rfl, rfl⟩)
    all_goals
      go_ret
      exact ⟨rfl, (Below.refl _ _).alloc (Nat.le_refl _) _⟩
  · have hse : s.isEmpty = false := by cases s with
      | nil => exact absurd rfl h1
      | cons _ _ => rfl
    by_cases h2 : 64 < s.length
    · have h64 : decide (64 < (s.length : Int)) = true := by simp; omega
      clear h1 hbad h2
      go_enter Tryz.func110, Tryz.ntmps110
      go_wp2_with (go_at_call 59; refine (made_yes g _ hp'.out).mono ?_; rintro e w' ⟨rfl, rfl⟩)
      all_goals
        go_ret
        exact ⟨rfl, (Below.refl _ _).alloc (Nat.le_refl _) _⟩
    · have h64 : decide (64 < (s.length : Int)) = false := by simp; omega
      obtain ⟨hm1, hm2⟩ : m ≠ 1 ∧ m ≠ 2 := by
        rcases hbad with h | h | h
        · exact absurd h h1
        · exact absurd h h2
        · exact h
      have hm1' : (m != 1) = true := by simp [hm1]
      have hm2' : (m != 2) = true := by simp [hm2]
      clear h1 hbad h2 hm1 hm2
      go_enter Tryz.func110, Tryz.ntmps110
      go_wp2_with (go_at_call 59; refine (made_yes g _ hp'.out).mono ?_; rintro e w' ⟨rfl, rfl⟩)
      all_goals
        go_ret
        exact ⟨rfl, (Below.refl _ _).alloc (Nat.le_refl _) _⟩

set_option maxRecDepth 100000 in
set_option maxHeartbeats 4000000 in
theorem put_range {w : World} {lo g rb W : Nat} {bs : List Nat} {L : List (List Cl)} (h : GrAt w lo g rb bs W L) (row col : Int) (s : List UInt8) (m : Int) (y : Sty) (hs : s ≠ []) (h64 : s.length ≤ 64) (hm : m = 1 ∨ m = 2)
    (hbad : inB row col W L.length = false ∨ inB row (col + m - 1) W L.length = false) :
    Calls Tryz.prog 110 #[.pointer (some ⟨g, 0, none⟩), .int .i64 row, .int .i64 col, .string ⟨s.toArray⟩, .int .i64 m, .agg y.cells.toArray] w fun e w' => e = .returned (.int .i64 5) ∧ Below w.heap.size w w' := by
  have hsz : (⟨s.toArray⟩ : ByteArray).size = s.length := by show s.toArray.size = _; simp
  have HSZ := Lib.hid hsz
  have hse : s.isEmpty = false := by cases s with
    | nil => exact absurd rfl hs
    | cons _ _ => rfl
  have hs64 : decide (64 < (s.length : Int)) = false := by simp; omega
  have hbel0 : Below w.heap.size w (w.alloc (.cells y.cells.toArray 31)) := (Below.refl _ _).alloc (Nat.le_refl _) _
  have H0 := Lib.hid (h.below hbel0)
  have HZ0 := Lib.hid hbel0
  have hw5 := h.w5
  clear hs hbel0 hsz h
  by_cases hin : inB row col W L.length = false
  · have HIN := Lib.hid hin
    clear hin hbad
    rcases hm with rfl | rfl
    all_goals
      go_enter Tryz.func110, Tryz.ntmps110
      go_wp2_with (first
        | (go_at_call 59; refine (made_yes g _ H0.out.ptr).mono ?_; rintro e w' ⟨rfl, rfl⟩)
        | (go_at_call 60; refine (has_bel H0.out row col).mono ?_; rintro e w1 ⟨rfl, hb1⟩; rw [HIN.out]))
      go_ret
      exact ⟨rfl, HZ0.out.trans (hb1.mono HZ0.out.size)⟩
  · have hin1 : inB row col W L.length = true := by simpa using hin
    have hin2 : inB row (col + m - 1) W L.length = false := hbad.resolve_left hin
    obtain ⟨h0, h1, h2, h3⟩ : 0 ≤ row ∧ row < L.length ∧ 0 ≤ col ∧ col < W := by simpa [inB] using hin1
    have hcb : col < 500 := by omega
    have HIN := Lib.hid hin1
    have HIN2 := Lib.hid hin2
    clear hin hin1 hin2 hbad
    rcases hm with rfl | rfl
    all_goals
      go_enter Tryz.func110, Tryz.ntmps110
      go_wp2_with (go_at_call 59; refine (made_yes g _ H0.out.ptr).mono ?_; rintro e w' ⟨rfl, rfl⟩)
      refine (has_bel H0.out row col).mono ?_
      rintro e w1 ⟨rfl, hb1⟩
      rw [HIN.out]
      go_wp2_with (fail)
      refine (has_bel (H0.out.below hb1) row _).mono ?_
      rintro e w2 ⟨rfl, hb2⟩
      have hi2 := HIN2.out
      first | rw [hi2] | (simp only [show col + 1 - 1 = col by omega, show col + 2 - 1 = col + 1 by omega] at hi2; rw [hi2])
      go_wp2
      go_ret
      exact ⟨rfl, HZ0.out.trans ((hb1.trans (hb2.mono hb1.size)).mono HZ0.out.size)⟩

theorem put_any {w : World} {lo g rb W : Nat} {bs : List Nat} {L : List (List Cl)} (h : GrAt w lo g rb bs W L) (hT : BlankT w) (hlo : 0 < lo) (row col : Int) (s : List UInt8) (m : Int) (y : Sty) (hs : s.length ≤ 1000000) :
    Calls Tryz.prog 110 #[.pointer (some ⟨g, 0, none⟩), .int .i64 row, .int .i64 col, .string ⟨s.toArray⟩, .int .i64 m, .agg y.cells.toArray] w fun e w' => e = .returned (.int .i64 (putM W L row col s m y).2) ∧
      GrAt w' lo g rb bs W (putM W L row col s m y).1 ∧ Chg (GrOwn g rb bs) w w' := by
  unfold putM
  by_cases h1 : s = [] ∨ 64 < s.length ∨ (m ≠ 1 ∧ m ≠ 2)
  · rw [if_pos h1]
    exact (put_arg g h.ptr row col s m y hs h1).mono fun e w' ⟨he, hb⟩ => ⟨he, h.below hb, Chg.of_below hb⟩
  · rw [if_neg h1]
    have hs0 : s ≠ [] := fun e => h1 (.inl e)
    have hs64 : s.length ≤ 64 := by
      rcases Nat.lt_or_ge 64 s.length with h' | h'
      · exact absurd (.inr (.inl h')) h1
      · exact h'
    have hm : m = 1 ∨ m = 2 := by
      by_cases a : m = 1
      · exact .inl a
      · by_cases b : m = 2
        · exact .inr b
        · exact absurd (.inr (.inr ⟨a, b⟩)) h1
    by_cases h2 : inB row col W L.length = false ∨ inB row (col + m - 1) W L.length = false
    · rw [if_pos h2]
      exact (put_range h row col s m y hs0 hs64 hm h2).mono fun e w' ⟨he, hb⟩ => ⟨he, h.below hb, Chg.of_below hb⟩
    · rw [if_neg h2]
      have a : inB row col W L.length = true := by simpa using fun e => h2 (.inl e)
      have b : inB row (col + m - 1) W L.length = true := by simpa using fun e => h2 (.inr e)
      obtain ⟨a0, a1, a2, a3⟩ : 0 ≤ row ∧ row < L.length ∧ 0 ≤ col ∧ col < W := by simpa [inB] using a
      obtain ⟨b0, b1, b2, b3⟩ : 0 ≤ row ∧ row < L.length ∧ 0 ≤ col + m - 1 ∧ col + m - 1 < W := by simpa [inB] using b
      obtain ⟨r, rfl⟩ := Int.eq_ofNat_of_zero_le a0
      obtain ⟨c, rfl⟩ := Int.eq_ofNat_of_zero_le a2
      obtain ⟨n, rfl⟩ := Int.eq_ofNat_of_zero_le (show 0 ≤ m by omega)
      have hl : L[r]? = some (L.getD r []) := by
        rw [List.getElem?_eq_getElem (by omega), List.getD_eq_getElem?_getD, List.getElem?_eq_getElem (by omega)]
        rfl
      exact put_ok h hT hlo r c n s y _ hl (by omega) (by omega) hs0 hs64
end Go.Proofs.YtfmkeeaenjeneaaGreatDoor

namespace Go.Proofs.YtfmkeeaenjeneaaGreatDoor
open Go.RowKit
set_option linter.unusedVariables false
set_option linter.unusedSimpArgs false

theorem made_cells (n : Nat) : (madeCells czero.cells.toArray (n * 7)).toList = rc (List.replicate n czero) := by
  apply List.ext_getElem?
  intro i
  by_cases hi : i < n * 7
  · have hd : i = i / 7 * 7 + i % 7 := by omega
    have hq : (List.replicate n czero)[i / 7]? = some czero := by rw [List.getElem?_replicate, if_pos (by omega)]
    have hm : i % 7 < 7 := Nat.mod_lt _ (by omega)
    have hv : czero.cells[i % 7]? = some (czero.cells[i % 7]'(by rw [Cl.len]; exact hm)) := List.getElem?_eq_getElem _
    have h2 := rc_get hq hv
    rw [← hd] at h2
    rw [h2]
    unfold madeCells
    simp [hi]
    have hv2 : czero.cells[i % czero.cells.length]? = some (czero.cells[i % 7]'(by rw [Cl.len]; exact hm)) := hv
    rw [hv2]
    rfl
  · rw [List.getElem?_eq_none (l := rc _) (by rw [rc_length, List.length_replicate]; omega), List.getElem?_eq_none (by simp [madeCells]; omega)]

theorem mul1 (n : Nat) (hn : n ≤ 500) (w : World) : Calls Tryz.prog 90 #[.int .u64 1, .int .u64 n] w fun e w' => e = .returned (.tuple #[.int .u64 0, .int .u64 n]) ∧ w = w' :=
  (sh_bits_Mul 1 n (by omega) (by omega) w).mono fun e w' ⟨he, hw⟩ => by
    refine ⟨?_, hw.symm⟩
    rw [he, Nat.one_mul, Nat.div_eq_of_lt (by omega), Nat.mod_eq_of_lt (by omega)]
    rfl

/-- so many cells filled, the others not yet -/
def fillM (c : Cl) (n k : Nat) : List Cl := List.replicate k c ++ List.replicate (n - k) czero
theorem fillM_length (c : Cl) (n k : Nat) (h : k ≤ n) : (fillM c n k).length = n := by simp [fillM]; omega
theorem fillM_zero (c : Cl) (n : Nat) : fillM c n 0 = List.replicate n czero := by simp [fillM]
theorem fillM_all (c : Cl) (n : Nat) : fillM c n n = List.replicate n c := by simp [fillM]
theorem fillM_splice (c : Cl) (n k d : Nat) (h : k + d ≤ n) : splice (fillM c n k) k (List.replicate d c) = fillM c n (k + d) := by
  unfold splice fillM
  rw [List.take_left' (by simp), List.length_replicate, List.drop_append, List.drop_eq_nil_of_le (by simp), List.nil_append, List.length_replicate, List.drop_replicate, ← List.append_assoc, List.replicate_append_replicate]
  congr 2
  omega

set_option maxRecDepth 100000 in
set_option maxHeartbeats 4000000 in
theorem repeat_any (c : Cl) (n b0 : Nat) (h1 : 1 ≤ n) (h5 : n ≤ 500) (w : World) (hx : Blk w b0 83 c.cells) :
    Calls Tryz.prog 65 #[.slice (some ⟨b0, 0, none⟩) 1 1, .int .i64 n] w fun e w' => e = .returned (.slice (some ⟨w.heap.size, 0, none⟩) n n) ∧
      Blk w' w.heap.size 83 (rc (List.replicate n c)) ∧ Below w.heap.size w w' := by
  obtain ⟨i0, hi0, hz0, hz1, hz2⟩ := info_parts cl_info
  have hni : 1 ≤ (n : Int) := by omega
  have hni5 : (n : Int) ≤ 500 := by omega
  have hnn : ¬ (n : Int) < 0 := by omega
  have hdec : decide (9223372036854775807 < (n : Int)) = false := by simp; omega
  have HI0 := Lib.hid hi0
  have HZ0 := Lib.hid hz0
  have HZ1 := Lib.hid hz1
  have hby : i0.bytes * n ≤ 281474976710656 := by rw [hz2]; omega
  have HBY := Lib.hid hby
  have HX := Lib.hid hx
  have hb0 := hx.lt
  have HM := Lib.hid (made_cells n)
  have HSR : Hid (∀ j v, c.cells[j]? = some v → ((w.alloc (.cells (madeCells czero.cells.toArray (n * 7)) 83))).cell? ((⟨b0, 0, none⟩ : Addr).add j) = some v) := fun j v hv => by
    rw [Addr.add_mid, Nat.zero_add, World.cell?_alloc_lt _ _ _ (by exact hb0)]
    exact (hx.cell j).trans hv
  clear hi0 hz0 hz1 hz2 hby hx
  go_enter Tryz.func65, Tryz.ntmps65
  go_wp2_with (first
    | (go_at_call 90; refine (mul1 n h5 w).mono ?_; rintro e w' ⟨rfl, rfl⟩)
    | ((with_reducible refine at_dst 30 ?_); refine wpList_make_blk rfl _ _ _ rfl 83 i0 _ 7 Tryz.underlying78 HI0.out HZ0.out HZ1.out .i64 .i64 n n n rfl rfl rfl rfl HBY.out (by simp only [maxLen]; omega) ?_; have hB1 : Blk (w.alloc (.cells (madeCells czero.cells.toArray (n * 7)) 83)) w.heap.size 83 (rc (fillM c n 0)) := (by rw [fillM_zero, ← HM.out]; exact Blk.new _ _ _))
    | ((with_reducible refine at_dst 33 ?_); refine wpList_copy_k rfl _ _ _ _ rfl 83 7 Tryz.underlying78 cl_size _ _ n n 1 1 rfl rfl w.heap.size 0 _ _ hB1 c.cells 1 (by show 1 = min 1 n; omega) rfl (fun _ => ⟨rfl, ⟨b0, 0, none⟩, rfl, HSR.out⟩) (by rw [rc_length, fillM_length _ _ _ (by omega), Cl.len]; omega) c.one ?_; intro w2 hn2 hg2))
  have hn2' : Blk w2 w.heap.size 83 (rc (fillM c n 1)) := by
    have e := rc_splice_list (fillM c n 0) (List.replicate 1 c) 0
    rw [fillM_splice c n 0 1 (by omega)] at e
    simp only [List.replicate_one, rc_cons, rc_nil, List.append_nil] at e
    rw [← e]
    exact hn2
  have HB2 := Lib.hid hn2'
  have hbel : Below w.heap.size w w2 := ((Below.refl _ _).alloc (Nat.le_refl _) _).grown hg2 (by simp) (fun k hk => by injection hk with hk; omega)
  have HBE := Lib.hid hbel
  clear hn2 hn2' hg2 hB1 hbel
  go_wp2
  go_loopw [8] (fun v8 wr => ∃ k : Nat, v8 = .int .i64 k ∧ 1 ≤ k ∧ k ≤ n ∧ Blk wr w.heap.size 83 (rc (fillM c n k)) ∧ Below w.heap.size w wr) (fun v8 _ => n - (intOf v8).toNat)
  case atStart => exact ⟨1, rfl, by omega, by omega, HB2.out, HBE.out⟩
  case round =>
    obtain ⟨k, rfl, hk1, hk2, hbk, hck⟩ := hrel
    have HBK := Lib.hid hbk
    have HCK := Lib.hid hck
    clear hbk hck
    by_cases hlt : k < n
    · have hki : (k : Int) < n := by omega
      have hk0 : 0 ≤ (k : Int) := by omega
      have hkn : ¬ n = k := by omega
      obtain ⟨d, hd⟩ : ∃ d, d = min k (n - k) := ⟨_, rfl⟩
      have hdk : d ≤ k ∧ k + d ≤ n ∧ 1 ≤ d := by omega
      have hdi : (k : Int) + (d : Int) ≤ 500 := by omega
      have hdi0 : 0 ≤ (d : Int) := by omega
      have hsrc : ∀ j v, (rc (List.replicate d c))[j]? = some v → wr.cell? ((⟨w.heap.size, 0, none⟩ : Addr).add j) = some v := fun j v hv => by
        rw [Addr.add_mid, Nat.zero_add, HBK.out.cell]
        have : rc (fillM c n k) = rc (List.replicate d c) ++ rc (List.replicate (k - d) c ++ List.replicate (n - k) czero) := by
          rw [← rc_append, ← List.append_assoc, List.replicate_append_replicate, show d + (k - d) = k by omega]
          rfl
        rw [this, List.getElem?_append_left (List.getElem?_eq_some_iff.1 hv).1]
        exact hv
      have HSR2 := Lib.hid hsrc
      have HD := Lib.hid hd
      clear hsrc hd
      have hke : (k : Int) ≤ n := by omega
      have hrl := rc_length (fillM c n k)
      rw [fillM_length c n k hk2] at hrl
      have HRL := Lib.hid hrl
      clear hrl
      go_wp2_with (fail)
      go_region_law (refine step_copy_k rfl (.tmp 41) (.tmp 44) _ _ rfl 83 7 Tryz.underlying78 cl_size (some ⟨w.heap.size, k * 7, none⟩) (some ⟨w.heap.size, 0, none⟩) (n - k) (n - k) k n (by simp [Act.eval, Act.put]) (by simp [Act.eval, Act.put]) w.heap.size (k * 7) _ (rc (fillM c n k)) HBK.out (rc (List.replicate d c)) d (by have := HD.out; show d = min k (n - k); exact this) (by rw [rc_length, List.length_replicate]) (fun _ => ⟨rfl, _, rfl, HSR2.out⟩) (by have := HRL.out; rw [rc_length, List.length_replicate]; omega) (rc_one _) ?_; intro w4 hn4 hg4)
      rw [rc_splice_list, fillM_splice c n k d hdk.2.1] at hn4
      have hbel : Below w.heap.size w w4 := HCK.out.drew.grown hg4 HCK.out.size (fun k hk => by injection hk with hk; omega)
      have HN4 := Lib.hid hn4
      have HB4 := Lib.hid hbel
      clear hn4 hg4 hbel
      simp only [Act.put]
      go_simp
      rw [show IntKind.i64.wrap ((k : Int) + (d : Int)) = (k : Int) + (d : Int) by rw [IntKind.wrap_i64]; omega]
      all_goals
        go_roundw
        case rel =>
          (repeat apply Exists.intro)
          exact ⟨⟨k + d, by go_num, by omega, by omega, HN4.out, HB4.out⟩, rfl⟩
        case measure => simp [intOf]; omega
    · have hki : ¬ (k : Int) < n := by omega
      obtain rfl : k = n := by omega
      go_wp2
      go_ret
      exact ⟨rfl, by rw [← fillM_all]; exact HBK.out, HCK.out⟩

theorem made_one (z : Value) (n : Nat) : (madeCells #[z] (n * 1)).toList = List.replicate n z := by
  apply List.ext_getElem?
  intro i
  by_cases hi : i < n
  · simp [madeCells, hi, List.getElem?_replicate, Nat.mod_one]
  · simp [madeCells, hi, List.getElem?_replicate]

/-- Rows of blanks, newly made. -/
structure RowsNew (w w' : World) (W H : Nat) (bs : List Nat) : Prop where
  len : bs.length = H
  nd : bs.Nodup
  hi : ∀ b ∈ bs, w.heap.size < b
  row : ∀ b ∈ bs, Blk w' b 83 (rc (List.replicate W bl))
  rows : Blk w' w.heap.size 78 (bs.map (rowV W))
  bel : Below w.heap.size w w'

/-- So many of them. -/
structure RowsTo (w wr : World) (W H k : Nat) (bs : List Nat) : Prop where
  len : bs.length = k
  nd : bs.Nodup
  row : ∀ b ∈ bs, w.heap.size < b ∧ Blk wr b 83 (rc (List.replicate W bl))
  rows : Blk wr w.heap.size 78 (bs.map (rowV W) ++ List.replicate (H - k) (.slice none 0 0))
  bel : Below w.heap.size w wr

set_option maxRecDepth 100000 in
set_option maxHeartbeats 4000000 in
theorem blankRows_any (W H : Nat) (w1 : 1 ≤ W) (w5 : W ≤ 500) (h1 : 1 ≤ H) (h5 : H ≤ 500) (w : World) (hT : BlankT w) :
    Calls Tryz.prog 45 #[.int .i64 W, .int .i64 H] w fun e w' => e = .returned (.slice (some ⟨w.heap.size, 0, none⟩) H H) ∧ ∃ bs, RowsNew w w' W H bs := by
  obtain ⟨i0, hi0, hz0, hz1, hz2⟩ := info_parts row_info
  have HI0 := Lib.hid hi0
  have HZ0 := Lib.hid hz0
  have HZ1 := Lib.hid hz1
  have hby : i0.bytes * H ≤ 281474976710656 := by rw [hz2]; omega
  have HBY := Lib.hid hby
  have HT := Lib.hid hT
  have HM := Lib.hid (made_one (.slice none 0 0) H)
  clear hi0 hz0 hz1 hz2 hby hT
  go_enter Tryz.func45, Tryz.ntmps45
  go_wp2_with ((with_reducible refine at_dst 8 ?_); refine wpList_make_blk rfl _ _ _ rfl 78 i0 _ 1 Tryz.underlying88 HI0.out HZ0.out HZ1.out .i64 .i64 H H H rfl rfl rfl rfl HBY.out (by simp only [maxLen]; omega) ?_; have hB1 : Blk (w.alloc (.cells (madeCells #[.slice none 0 0] (H * 1)) 78)) w.heap.size 78 (List.replicate H (.slice none 0 0)) := (by rw [← HM.out]; exact Blk.new _ _ _); have HB1 := Lib.hid hB1; clear hB1)
  go_loopw [11] (fun v11 wr => ∃ (k : Nat) (bs : List Nat), v11 = .int .i64 k ∧ k ≤ H ∧ RowsTo w wr W H k bs) (fun v11 _ => H - (intOf v11).toNat)
  case atStart => exact ⟨0, [], rfl, by omega, ⟨rfl, List.nodup_nil, fun b hb => by simp at hb, by simpa using HB1.out, (Below.refl _ _).alloc (Nat.le_refl _) _⟩⟩
  case round =>
    obtain ⟨k, bs, rfl, hk, hR⟩ := hrel
    have HBL := Lib.hid hR.len
    have HND := Lib.hid hR.nd
    have HROW := Lib.hid hR.row
    have HROWS := Lib.hid hR.rows
    have HBE := Lib.hid hR.bel
    clear hR
    by_cases hlt : k < H
    · have hki : (k : Int) < H := by omega
      have hkk : bs.length = k := HBL.out
      have hlen : (bs.map (rowV W) ++ List.replicate (H - k) (Value.slice none 0 0)).length = H := by simp [hkk]; omega
      have hset : ∀ v, (bs.map (rowV W) ++ List.replicate (H - k) (Value.slice none 0 0)).set k v = bs.map (rowV W) ++ [v] ++ List.replicate (H - (k + 1)) (.slice none 0 0) := fun v => by
        rw [List.set_append_right _ _ (by simp [hkk]), List.length_map, hkk, Nat.sub_self, show H - k = (H - (k + 1)) + 1 by omega, List.replicate_succ, List.set_cons_zero]
        simp
      have HLEN := Lib.hid hlen
      have HSET := Lib.hid hset
      have HTr := Lib.hid (HT.out.below HBE.out HT.out.2)
      clear hkk hlen hset
      go_wp2_with (first
        | ((with_reducible refine at_dst 16 ?_); refine wpList_load_mid rfl _ _ rfl 0 0 rfl [.string ⟨#[32]⟩, .int .i64 1, .bool false, .bool false, .bool false, .int .i64 0, .int .i64 0] _ HTr.out.1 Tryz.underlying83 rfl cl_size ?_)
        | (go_at_call 65; refine (repeat_any bl W wr.heap.size w1 w5 _ (Blk.new wr 83 bl.cells)).mono ?_; rintro e w3 ⟨rfl, hb3, hbel3⟩; have HR3 := Lib.hid ((HROWS.out.alloc _).below hbel3 (HROWS.out.alloc _).lt); have HB3 := Lib.hid hb3; have HBE3 := Lib.hid hbel3; clear hb3 hbel3)
        | ((with_reducible refine at_store 20 ?_); refine wpList_store_cell rfl _ _ _ rfl rfl w.heap.size k _ (bs.map (rowV W) ++ List.replicate (H - k) (.slice none 0 0)) (rowV W (wr.heap.size + 1)) rfl rfl HR3.out (by rw [HLEN.out]; exact hlt) sl_size rfl ?_; intro w4 hn4 hg4))
      rw [HSET.out] at hn4
      have hw4 : RowsTo w w4 W H (k + 1) (bs ++ [wr.heap.size + 1]) := by
        have hsz := HBE.out.size
        have hnw : w.heap.size < wr.heap.size := HROWS.out.lt
        have hb34 : Chg (one w.heap.size) wr w4 := (((Chg.refl _ _).alloc _).trans (Chg.of_below (S := one w.heap.size) HBE3.out) (fun _ h => .inl h)).trans (chg_of_grown hg4) (fun _ h => .inl h)
        have hB3 : Blk w3 (wr.heap.size + 1) 83 (rc (List.replicate W bl)) := by have := HB3.out; simpa using this
        refine ⟨by rw [List.length_append, HBL.out]; rfl, ?_, ?_, ?_, ?_⟩
        · rw [List.nodup_append]
          refine ⟨HND.out, by simp, ?_⟩
          rintro a ha b hb rfl
          simp at hb
          have := (HROW.out a ha).2.lt
          omega
        · intro b hb
          rcases List.mem_append.1 hb with hb | hb
          · exact ⟨(HROW.out b hb).1, (HROW.out b hb).2.chg hb34 (fun e => by have := (HROW.out b hb).1; have e' : b = w.heap.size := e; omega)⟩
          · simp at hb
            subst hb
            exact ⟨by omega, hB3.chg (chg_of_grown hg4) (fun e => by have e' : wr.heap.size + 1 = w.heap.size := e; omega)⟩
        · rw [List.map_append]
          exact hn4
        · exact HBE.out.trans (hb34.below HBE.out.size (fun j e => by have e' : j = w.heap.size := e; omega))
      have HW4 := Lib.hid hw4
      clear hn4 hw4 hg4
      go_wp2
      go_roundw
      case rel => exact ⟨k + 1, _, by go_num, by omega, HW4.out⟩
      case measure => simp [intOf]; omega
    · have hki : ¬ (k : Int) < H := by omega
      obtain rfl : k = H := by omega
      have HROWS' : Hid (Blk wr w.heap.size 78 (bs.map (rowV W))) := by have := HROWS.out; show Blk _ _ _ _; simpa using this
      go_wp2
      go_ret
      exact ⟨rfl, bs, HBL.out, HND.out, fun b hb => (HROW.out b hb).1, fun b hb => (HROW.out b hb).2, HROWS'.out, HBE.out⟩

def sideB (n : Int) : Bool := decide (1 ≤ n ∧ n ≤ 500)
set_option maxHeartbeats 400000 in
theorem side_any (n : Int) (w : World) : Calls Tryz.prog 44 #[.int .i64 n] w fun e w' => e = .returned (.bool (sideB n)) ∧ w = w' := by
  go_enter Tryz.func44, Tryz.ntmps44
  go_wp2
  all_goals
    go_ret
    exact ⟨ret_bool (by unfold sideB; rw [Bool.eq_iff_iff]; simp; try omega), rfl⟩

set_option maxRecDepth 100000 in
set_option maxHeartbeats 1000000 in
theorem new_no (W H : Int) (w : World) (hbad : sideB W = false ∨ sideB H = false) :
    Calls Tryz.prog 19 #[.int .i64 W, .int .i64 H] w fun e w' => e = .returned (.tuple #[.pointer none, .int .i64 40]) ∧ w = w' := by
  by_cases h : sideB W = false
  · have HH := Lib.hid h
    clear h hbad
    go_enter Tryz.func19, Tryz.ntmps19
    go_wp2_with (go_at_call 44; refine (side_any _ _).mono ?_; rintro e w' ⟨rfl, rfl⟩; rw [HH.out])
    go_ret2
    exact ⟨rfl, rfl⟩
  · have HW : Hid (sideB W = true) := by show sideB W = true; simpa using h
    have HH := Lib.hid (hbad.resolve_left h)
    clear h hbad
    go_enter Tryz.func19, Tryz.ntmps19
    go_wp2_with (go_at_call 44; refine (side_any _ _).mono ?_; rintro e w' ⟨rfl, rfl⟩; first | rw [HW.out] | rw [HH.out])
    go_ret2
    exact ⟨rfl, rfl⟩

/-- A grid of blanks. -/
def blankG (W H : Nat) : List (List Cl) := List.replicate H (List.replicate W bl)
set_option maxRecDepth 100000 in
set_option maxHeartbeats 1000000 in
theorem new_ok (W H : Nat) (w1 : 1 ≤ W) (w5 : W ≤ 500) (h1 : 1 ≤ H) (h5 : H ≤ 500) (w : World) (hT : BlankT w) :
    Calls Tryz.prog 19 #[.int .i64 W, .int .i64 H] w fun e w' => ∃ g rb bs, e = .returned (.tuple #[.pointer (some ⟨g, 0, none⟩), .int .i64 0]) ∧ GrAt w' w.heap.size g rb bs W (blankG W H) ∧ Below w.heap.size w w' := by
  have HW : Hid (sideB W = true) := by show sideB W = true; simp [sideB]; omega
  have HH : Hid (sideB H = true) := by show sideB H = true; simp [sideB]; omega
  have HT := Lib.hid hT
  clear hT
  go_enter Tryz.func19, Tryz.ntmps19
  go_wp2_with (first
    | (go_at_call 44; refine (side_any _ _).mono ?_; rintro e w' ⟨rfl, rfl⟩; first | rw [HW.out] | rw [HH.out])
    | (go_at_call 45; refine (blankRows_any W H w1 w5 h1 h5 w HT.out).mono ?_; rintro e w2 ⟨rfl, bs, hR⟩; have HR := Lib.hid hR; have hN : Blk (w2.alloc (.cells #[.pointer none, .slice (some ⟨w.heap.size, 0, none⟩) H H] 91)) w2.heap.size 91 [.pointer none, .slice (some ⟨w.heap.size, 0, none⟩) H H] := Blk.new _ _ _; have HN := Lib.hid hN; clear hR hN)
    | ((with_reducible refine at_store 23 ?_); refine wpList_store_cell rfl _ _ _ rfl rfl w2.heap.size 0 _ [.pointer none, .slice (some ⟨w.heap.size, 0, none⟩) H H] (.pointer (some ⟨w2.heap.size, 0, none⟩)) rfl rfl HN.out (by simp) (by kernel_rfl) rfl ?_; intro w4 hn4 hg4))
  go_ret2
  have hsz := HR.out.bel.size
  have hrl := HR.out.rows.lt
  have hc : Chg (one w2.heap.size) w2 w4 := ((Chg.refl _ _).alloc _).trans (chg_of_grown hg4) (fun _ h => .inl h)
  have hbl : (blankG W H).length = H := by simp [blankG]
  refine ⟨w2.heap.size, w.heap.size, bs, rfl, ⟨?_, HR.out.rows.chg hc (fun e => by have e' : w.heap.size = w2.heap.size := e; omega), by rw [hbl]; exact HR.out.len, HR.out.nd, ?_, ?_, w1, w5, by rw [hbl]; exact h1, by rw [hbl]; exact h5⟩, ?_⟩
  · rw [hbl]
    exact hn4
  · intro i b hb
    have hm := List.mem_of_getElem? hb
    have hi : i < H := by have := (List.getElem?_eq_some_iff.1 hb).1; have := HR.out.len; omega
    refine ⟨List.replicate W bl, by simp [blankG, List.getElem?_replicate, hi], by simp, Wf.blanks W, (HR.out.row b hm).chg hc (fun e => by have := (HR.out.row b hm).lt; have e' : b = w2.heap.size := e; omega)⟩
  · rintro k (rfl | rfl | hk)
    · omega
    · omega
    · have := HR.out.hi k hk; omega
  · exact HR.out.bel.trans (hc.below hsz (fun j e => by have e' : j = w2.heap.size := e; omega))
end Go.Proofs.YtfmkeeaenjeneaaGreatDoor

namespace Go.Proofs.YtfmkeeaenjeneaaGreatDoor
open Go.RowKit
set_option linter.unusedVariables false
set_option linter.unusedSimpArgs false

theorem bld_info : (Tryz.prog.info? 112).map (·.size) = some 2 := by kernel_rfl
theorem byte_info : (Tryz.prog.info? 5).map (fun i => (i.zero, i.size, i.bytes)) = some (some (.int .u8 0), 1, 1) := by kernel_rfl

set_option maxHeartbeats 1000000 in
set_option maxRecDepth 100000 in
theorem check_used (b : Nat) (w : World) (h0 : w.cell? ⟨b, 0, none⟩ = some (.pointer (some ⟨b, 0, none⟩))) :
    Calls Tryz.prog 91 #[.pointer (some ⟨b, 0, none⟩)] w fun e w' => e = .returned (.tuple #[]) ∧ w' = w := by
  obtain ⟨j, hj, _⟩ := Option.map_eq_some_iff.1 bld_info
  go_enter Tryz.func91, Tryz.ntmps91
  go_wp2
  rw [Lib.run_neq_ptr_same w _ Tryz.underlying110 hj]
  go_wp2
  go_end0
  exact ⟨rfl, rfl⟩

set_option maxHeartbeats 1000000 in
set_option maxRecDepth 100000 in
theorem check_fresh (b : Nat) (w : World) (h0 : w.cell? ⟨b, 0, none⟩ = some (.pointer none)) (hsh : w.shape? b = some (112, 2)) (hfz : w.frozen? ⟨b, 0, none⟩ = false) :
    Calls Tryz.prog 91 #[.pointer (some ⟨b, 0, none⟩)] w fun e w' => e = .returned (.tuple #[]) ∧ w' = w.setCell ⟨b, 0, none⟩ (.pointer (some ⟨b, 0, none⟩)) := by
  obtain ⟨j, hj, hjs⟩ := Option.map_eq_some_iff.1 bld_info
  go_enter Tryz.func91, Tryz.ntmps91
  go_wp2
  rw [Lib.run_to_unsafe w ⟨b, 0, none⟩ Tryz.underlying110 Tryz.underlying179 hj (by rw [hjs]; decide) hsh (Nat.zero_lt_succ 1)]
  simp only [Result.andThen]
  rw [Oper.upon_value]
  go_wp2
  rw [run_callFunc_extern Tryz.func130 (by kernel_rfl) (by kernel_rfl) (by kernel_rfl) (e := Extern.AbiNoEscape.same) (by kernel_rfl)]
  rw [Lib.run_noEscape]
  simp only [Result.andThen]
  rw [Oper.upon_value]
  go_wp2
  rw [Lib.run_from_unsafe w ⟨b, 0, none⟩ Tryz.underlying179 Tryz.underlying110 hj hsh (by kernel_rfl)]
  simp only [Result.andThen]
  rw [Oper.upon_value]
  go_wp2
  go_end0
  exact ⟨rfl, rfl⟩

theorem check_any (B b : Nat) (bs : List Value) (w : World) (h : Lib.IsBuilder 112 5 B b bs w) :
    Calls Tryz.prog 91 #[.pointer (some ⟨b, 0, none⟩)] w fun e w' => e = .returned (.tuple #[]) ∧ (Lib.BuilderAt 112 5 B b (.pointer (some ⟨b, 0, none⟩)) bs w' ∧ Below B w w') := by
  rcases h with h | h
  · refine (check_fresh b w h.cell0 h.shape h.frozen0).mono ?_
    rintro e w' ⟨rfl, rfl⟩
    exact ⟨rfl, h.used _, (Below.refl B w).setCell (p := ⟨b, 0, none⟩) h.1 _⟩
  · refine (check_used b w h.cell0).mono ?_
    rintro e w' ⟨rfl, rfl⟩
    exact ⟨rfl, h, Below.refl B _⟩

set_option maxHeartbeats 2000000 in
set_option maxRecDepth 100000 in
theorem wstr_any (B b : Nat) (bs : List Value) (s : ByteArray) (w : World) (h : Lib.IsBuilder 112 5 B b bs w) (hlen : bs.length + s.size ≤ 140737488355328) (hBw : B ≤ w.heap.size) :
    Calls Tryz.prog 66 #[.pointer (some ⟨b, 0, none⟩), .string s] w fun e w' => e = .returned (.tuple #[.int .i64 s.size, .nilIface]) ∧ (Lib.IsBuilder 112 5 B b (bs ++ Lib.strCells s) w' ∧ Below B w w') := by
  obtain ⟨i0, hi, hz0, hz1, hz2⟩ := info_parts byte_info
  go_enter Tryz.func66, Tryz.ntmps66
  go_wp2_with (go_at_call 91; refine (check_any B b bs _ h).mono ?_)
  rintro e w1 ⟨rfl, h1, hb1⟩
  obtain ⟨hB, v, hbk, hown, hne⟩ := h1
  have c0 : w1.cell? ⟨b, 0, none⟩ = some (.pointer (some ⟨b, 0, none⟩)) := by rw [Lib.cell_of_heap hbk]; rfl
  have c1 : w1.cell? ⟨b, 1, none⟩ = some v := by rw [Lib.cell_of_heap hbk]; rfl
  go_wp2_with (at_builtin; refine Lib.wpList_append_own_string _ rfl _ _ 32 9 rfl B 5 i0 Tryz.underlying32 Tryz.underlying9 hi hz0 hz1 hz2 _ _ _ rfl hown s rfl ?c3 ?c4 ?c5 ?_)
  case c3 => unfold maxLen; omega
  case c4 => omega
  case c5 => have := hb1.size; omega
  intro v' w2 hown' hgrow _
  have hlt : b < w1.heap.size := by
    rcases Nat.lt_or_ge b w1.heap.size with h' | h'
    · exact h'
    · simp [Array.getElem?_eq_none h'] at hbk
  have hb2 : w2.heap[b]? = some (.cells #[.pointer (some ⟨b, 0, none⟩), v] 112 (0, 0)) := by
    rw [hgrow.block b hlt (fun e => hne e.symm)]
    exact hbk
  have d0 : w2.cell? ⟨b, 0, none⟩ = some (.pointer (some ⟨b, 0, none⟩)) := by rw [Lib.cell_of_heap hb2]; rfl
  have d1 : w2.cell? ⟨b, 1, none⟩ = some v := by rw [Lib.cell_of_heap hb2]; rfl
  have f1 : w2.frozen? ⟨b, 1, none⟩ = false := Lib.frozen_of_heap hb2 1
  obtain ⟨ao, n', cap, rfl⟩ : ∃ ao n' cap, v' = .slice ao n' cap := by
    rcases hown'.2 with ⟨hv, _⟩ | ⟨g, cap, cur, hv, _⟩
    · exact ⟨_, _, _, hv⟩
    · exact ⟨_, _, _, hv⟩
  go_wp2
  go_ret2
  refine ⟨rfl, .inr ?_, ?_⟩
  · exact Lib.BuilderAt.put (T := 112) (e := 5) hB hb2 (bs' := bs ++ Lib.strCells s) (by simpa [Lib.strCells_length] using hown') (by decide)
  · exact (hb1.grown hgrow (by have := hb1.size; omega) (fun k hk => (hown.lt k hk).1)).setCell (p := ⟨b, 1, none⟩) hB _
end Go.Proofs.YtfmkeeaenjeneaaGreatDoor

namespace Go.Proofs.YtfmkeeaenjeneaaGreatDoor
open Go.RowKit
set_option linter.unusedVariables false
set_option linter.unusedSimpArgs false

theorem IsB.bel {T e : TypeId} {B b : Nat} {bs : List Value} {w w' : World} (h : Lib.IsBuilder T e B b bs w) (hb : Below w.heap.size w w') : Lib.IsBuilder T e B b bs w' := by
  have one : ∀ p, Lib.BuilderAt T e B b p bs w → Lib.BuilderAt T e B b p bs w' := fun p h => by
    obtain ⟨h1, v, h2, h3, h4⟩ := h
    exact ⟨h1, v, (hb.block b (Array.getElem?_eq_some_iff.1 h2).1).trans h2, h3.kept (row := none) (grown_of_below hb) (by cases h : v.ownBlock <;> simp), h4⟩
  rcases h with h | h
  · exact .inl (one _ h)
  · exact .inr (one _ h)

/-- the texts of cells, one behind the other -/
def flatS (l : List Cl) : List UInt8 := l.flatMap (·.s)
theorem flatS_le {l : List Cl} (h : ∀ c ∈ l, c.s.length ≤ 64) : (flatS l).length ≤ l.length * 64 := by
  induction l with
  | nil => simp [flatS]
  | cons c l ih =>
    have := ih (fun d hd => h d (by simp [hd]))
    have := h c (by simp)
    simp only [flatS, List.flatMap_cons, List.length_append, List.length_cons] at *
    omega
theorem flatS_snoc {l : List Cl} {k : Nat} {c : Cl} (h : l[k]? = some c) : flatS (l.take (k + 1)) = flatS (l.take k) ++ c.s := by
  have hk : k < l.length := (List.getElem?_eq_some_iff.1 h).1
  rw [List.take_succ_eq_append_getElem hk]
  rw [List.getElem?_eq_getElem hk] at h
  injection h with h
  rw [h]
  simp [flatS]
def textM (l : List Cl) : List UInt8 := Lib.trimRightB (flatS l) 32
theorem Wf.mem {l : List Cl} (h : Wf l) : ∀ c ∈ l, c.s.length ≤ 64 := fun c hc => by
  obtain ⟨i, hi⟩ := List.getElem?_of_mem hc
  exact h.short i c hi

set_option maxRecDepth 100000 in
set_option maxHeartbeats 4000000 in
theorem text_yes {w : World} {lo g rb W : Nat} {bs : List Nat} {L : List (List Cl)} (h : GrAt w lo g rb bs W L) (row : Nat) (l : List Cl) (hl : L[row]? = some l) :
    Calls Tryz.prog 48 #[.pointer (some ⟨g, 0, none⟩), .int .i64 row] w fun e w' => e = .returned (.string ⟨(textM l).toArray⟩) ∧ Below w.heap.size w w' := by
  have hr : row < L.length := (List.getElem?_eq_some_iff.1 hl).1
  have hw5 := h.w5
  have hw1 := h.w1
  have hh5 := h.h5
  have hri : (row : Int) < L.length := by omega
  obtain ⟨hlen, hwf⟩ := h.some_at hl
  have HIN := Lib.hid (show inB row 0 W L.length = true by unfold inB; simp; omega)
  have HS := Lib.hid (fun k => flatS_le (l := l.take k) (fun c hc => hwf.mem c (List.mem_of_mem_take hc)))
  have HSH := Lib.hid hwf.short
  have H := Lib.hid h
  have HL := Lib.hid hl
  have HLEN := Lib.hid hlen
  clear h hl hlen hwf
  go_enter Tryz.func48, Tryz.ntmps48
  go_wp2_with (fail)
  refine (has_bel H.out row 0).mono ?_
  rintro e w1 ⟨rfl, hb1⟩
  rw [HIN.out]
  have H1 := Lib.hid (H.out.below hb1)
  have HB1 := Lib.hid hb1
  have HA1 : Hid (Below w1.heap.size w1 (w1.alloc (.cells #[.pointer none, .slice none 0 0] 112))) := (Below.refl _ _).alloc (Nat.le_refl _) _
  have HF := Lib.hid (Lib.fresh_isBuilder 112 5 w1)
  have hs1 := (H1.out.below HA1.out).rws
  obtain ⟨b, l', hbi, hl', hrv, hlen', hwf', hb⟩ := (H1.out.below HA1.out).at_ hr
  obtain rfl : l' = l := by have := HL.out; rw [this] at hl'; injection hl' with hl'; exact hl'.symm
  unfold rowV at hrv
  have HBB := Lib.hid (H1.out.own_lt b (.inr (.inr (List.mem_of_getElem? hbi))))
  have HB := Lib.hid hb
  clear hb1 hl' hlen' hwf' hb hbi
  go_wp2_with (fail)
  go_loopw [20] (fun v20 wr => ∃ k : Nat, v20 = .int .i64 k ∧ k ≤ W ∧ Lib.IsBuilder 112 5 w1.heap.size w1.heap.size (Lib.byteCells (flatS (l'.take k))) wr ∧ Below w1.heap.size w1 wr ∧ w1.heap.size + 1 ≤ wr.heap.size) (fun v20 _ => W - (intOf v20).toNat)
  case atStart => exact ⟨0, rfl, by omega, by simpa [flatS, Lib.byteCells] using HF.out, HA1.out, by simp⟩
  case round =>
    obtain ⟨k, rfl, hk, hI, hbel, hsz⟩ := hrel
    have HI := Lib.hid hI
    have HBE := Lib.hid hbel
    clear hI hbel
    by_cases hlt : k < W
    · have hki : (k : Int) < W := by omega
      have hc : l'[k]? = some (l'[k]'(by have := HLEN.out; omega)) := List.getElem?_eq_getElem _
      generalize l'[k]'(by have := HLEN.out; omega) = c at hc
      have hbl : b < w1.heap.size := HBB.out
      have hbr : Blk wr b 83 (rc l') := by
        have e1 := HB.out
        unfold Blk at e1 ⊢
        rw [HBE.out.block b hbl, ← HA1.out.block b hbl]
        exact e1
      have HBR := Lib.hid hbr
      have HC := Lib.hid hc
      have HN := Lib.hid (Blk.new wr 83 czero.cells)
      have hlk : (flatS (l'.take k)).length ≤ 32000 := by
        have h1 := HS.out k
        have h2 : (l'.take k).length ≤ k := List.length_take_le _ _
        omega
      have HLK := Lib.hid hlk
      have HC64 := Lib.hid (HSH.out k c hc)
      have hsz2 : (⟨c.s.toArray⟩ : ByteArray).size = c.s.length := by show c.s.toArray.size = _; simp
      have HSZ2 := Lib.hid hsz2
      have hfs : Lib.byteCells (flatS (l'.take k)) ++ Lib.strCells ⟨c.s.toArray⟩ = Lib.byteCells (flatS (l'.take (k + 1))) := by
        rw [flatS_snoc hc]; simp [Lib.byteCells, Lib.strCells]
      have HFS := Lib.hid hfs
      clear hsz2 hfs
      clear hc hbr hlk hbl
      go_wp2_with (first
        | ((with_reducible refine at_dst 23 ?_); refine wpList_load_mid rfl _ _ rfl b (k * 7) rfl c.cells _ (c.range HBR.out HC.out) Tryz.underlying83 rfl cl_size ?_)
        | ((with_reducible refine at_store 7 ?_); refine wpList_store_blk rfl _ _ _ rfl rfl wr.heap.size 0 _ czero.cells c.cells rfl rfl HN.out (by simp [Cl.len]) cl_size c.one ?_; intro w3 hn3 hg3; have hn3' : Blk w3 wr.heap.size 83 c.cells := hn3; have hcell : w3.cell? ⟨wr.heap.size, 0, none⟩ = some (.string ⟨c.s.toArray⟩) := hn3'.cell 0; have hb3 : Below wr.heap.size wr w3 := ((Below.refl _ _).alloc (Nat.le_refl _) _).grown hg3 (by simp) (fun j hj => by injection hj with hj; omega); have HI3 := Lib.hid (IsB.bel HI.out hb3); have HB3 := Lib.hid hb3; clear hn3 hn3' hg3 hb3)
        | (go_at_call 66; refine (wstr_any w1.heap.size w1.heap.size _ _ w3 HI3.out (by have := HLK.out; have := HC64.out; have := HSZ2.out; simp only [Lib.byteCells, List.length_map]; omega) (by have := HB3.out.size; omega)).mono ?_; rintro e w4 ⟨rfl, hI4, hb4⟩; rw [HFS.out] at hI4; have HI4 := Lib.hid hI4; have HB4 := Lib.hid hb4; clear hI4 hb4))
      go_roundw
      case rel => exact ⟨k + 1, by go_num, by omega, HI4.out, (HBE.out.trans (HB3.out.mono HBE.out.size)).trans HB4.out, by have := HB3.out.size; have := HB4.out.size; omega⟩
      case measure => simp [intOf]; omega
    · have hki : ¬ (k : Int) < W := by omega
      obtain rfl : k = W := by omega
      have HI' : Hid (Lib.IsBuilder 112 5 w1.heap.size w1.heap.size (Lib.byteCells (flatS l')) wr) := by have := HI.out; rw [List.take_of_length_le (by have := HLEN.out; omega)] at this; exact this
      have hfl : (flatS l').length ≤ 32000 := by
        have h1 := HS.out k
        rw [List.take_of_length_le (by have := HLEN.out; omega)] at h1
        have := HLEN.out
        omega
      have hsz3 : (⟨(flatS l').toArray⟩ : ByteArray).size = (flatS l').length := by show (flatS l').toArray.size = _; simp
      have HSZ3 := Lib.hid hsz3
      have HFL := Lib.hid hfl
      clear hfl hsz3
      go_wp2_with (first
        | (go_at_call 68; refine (sh_Builder_String_any w1.heap.size w1.heap.size (flatS l') wr HI'.out (by omega)).mono ?_; rintro e w5 ⟨rfl, hb5⟩)
        | (go_at_call 67; refine (sh_strings_TrimRight_one ⟨(flatS l').toArray⟩ 32 (by decide) w5 (by have := HSZ3.out; have := HFL.out; omega)).mono ?_; rintro e w6 ⟨rfl, rfl⟩))
      go_ret
      exact ⟨rfl, HB1.out.trans ((HBE.out.trans hb5).mono HB1.out.size)⟩
end Go.Proofs.YtfmkeeaenjeneaaGreatDoor

namespace Go.Proofs.YtfmkeeaenjeneaaGreatDoor
open Go.RowKit
set_option linter.unusedVariables false
set_option linter.unusedSimpArgs false

theorem sty_fields : Tryz.prog.underlying 31 = some (.struct (Tryz.prog.fieldsOf 31)) := by kernel_rfl
theorem cl_fields : Tryz.prog.underlying 83 = some (.struct (Tryz.prog.fieldsOf 83)) := by kernel_rfl
theorem sty_stood : Tryz.prog.stoodInHeld 31 = false := by kernel_rfl
theorem cl_stood : Tryz.prog.stoodInHeld 83 = false := by kernel_rfl
theorem cl_guard : Tryz.prog.eqGuardType Tryz.prog.depth 83 = false := by kernel_rfl

theorem run_eq_sty (d : Nat) (b u i b' u' i' : Bool) (f g f' g' : Int) (w : World) :
    (Op.equalIn (d + 2) 31 (.agg #[.bool b, .bool u, .bool i, .int .i64 f, .int .i64 g]) (.agg #[.bool b', .bool u', .bool i', .int .i64 f', .int .i64 g'])).run Tryz.prog w =
      .ok (decide (b = b' ∧ u = u' ∧ i = i' ∧ f = f' ∧ g = g')) w := by
  rw [run_equalIn_agg w (d + 1) 31 _ _ sty_fields sty_stood]
  simp only [Program.fieldsOf, Tryz.underlying31]
  go_simp
  by_cases h1 : b = b' <;> by_cases h2 : u = u' <;> by_cases h3 : i = i' <;> by_cases h4 : f = f' <;> by_cases h5 : g = g' <;> simp [h1, h2, h3, h4, h5]

theorem below_dN {B : Nat} {a b : World} (h : Below B a b) (n : Nat) : Below B a (b.drewN n) := ⟨h.os, h.tape, h.output, h.size, h.block⟩
theorem cl_ext {c d : Cl} : c = d ↔ (c.s = d.s ∧ c.w = d.w ∧ (c.y.b = d.y.b ∧ c.y.u = d.y.u ∧ c.y.i = d.y.i ∧ c.y.f = d.y.f ∧ c.y.g = d.y.g)) := by
  obtain ⟨s, w, ⟨b, u, i, f, g⟩⟩ := c
  obtain ⟨s', w', ⟨b', u', i', f', g'⟩⟩ := d
  simp
theorem run_eq_cl (c d : Cl) (w : World) :
    (Op.equalIn 10000 83 (.agg #[.string ⟨c.s.toArray⟩, .int .i64 c.w, .bool c.y.b, .bool c.y.u, .bool c.y.i, .int .i64 c.y.f, .int .i64 c.y.g]) (.agg #[.string ⟨d.s.toArray⟩, .int .i64 d.w, .bool d.y.b, .bool d.y.u, .bool d.y.i, .int .i64 d.y.f, .int .i64 d.y.g])).run Tryz.prog w =
      .ok (decide (c = d)) w := by
  have e : decide (c = d) = decide (c.s = d.s ∧ c.w = d.w ∧ (c.y.b = d.y.b ∧ c.y.u = d.y.u ∧ c.y.i = d.y.i ∧ c.y.f = d.y.f ∧ c.y.g = d.y.g)) := by
    rw [Bool.eq_iff_iff]; simp only [decide_eq_true_eq]; exact cl_ext
  have hs := run_eq_sty 9997 c.y.b c.y.u c.y.i d.y.b d.y.u d.y.i c.y.f c.y.g d.y.f d.y.g
  rw [e]
  rw [show (10000 : Nat) = 9999 + 1 from rfl, run_equalIn_agg w 9999 83 _ _ cl_fields cl_stood]
  simp only [Program.fieldsOf, Tryz.underlying83]
  go_simp
  by_cases h1 : c.s = d.s <;> by_cases h2 : c.w = d.w <;> by_cases h3 : c.y.b = d.y.b <;> by_cases h4 : c.y.u = d.y.u <;> by_cases h5 : c.y.i = d.y.i <;> by_cases h6 : c.y.f = d.y.f <;> by_cases h7 : c.y.g = d.y.g <;> simp [h1, h2, h3, h4, h5, h6, h7]

set_option maxRecDepth 100000 in
set_option maxHeartbeats 4000000 in
theorem same_any (X Y : List Cl) (n m : Nat) (A B : Option Addr) (ca cb : Nat) (w : World) (hn : n = X.length) (hm : m = Y.length) (h5 : n ≤ 100000) (h6 : m ≤ 100000) (Ba Bb : Nat) (hA : Sl w Ba A (rc X)) (hB : Sl w Bb B (rc Y)) (hBa : Ba ≤ w.heap.size) (hBb : Bb ≤ w.heap.size) :
    Calls Tryz.prog 37 #[.slice A n ca, .slice B m cb] w fun e w' => e = .returned (.bool (decide (X = Y))) ∧ Below w.heap.size w w' := by
  by_cases hlen : n = m
  · subst hlen
    have HN := Lib.hid hn
    have HM := Lib.hid hm
    have HA := Lib.hid (hA.more hBa)
    have HB := Lib.hid (hB.more hBb)
    have HQ := Lib.hid run_eq_cl
    have hg := cl_guard
    clear hA hB hn hm
    go_enter Tryz.func37, Tryz.ntmps37
    go_wp2
    go_loopw [5] (fun i wr => ∃ k : Nat, i = .int .i64 k ∧ k ≤ n ∧ X.take k = Y.take k ∧ Below w.heap.size w wr) (fun i _ => n - (intOf i).toNat)
    case atStart => exact ⟨0, rfl, by omega, by simp, Below.refl _ _⟩
    case round =>
      obtain ⟨k, rfl, hk, ht, hbel⟩ := hrel
      have HT := Lib.hid ht
      have HBE := Lib.hid hbel
      clear ht hbel
      by_cases hlt : k < n
      · have hki : (k : Int) < n := by omega
        have hx : X[k]? = some (X[k]'(by have := HN.out; omega)) := List.getElem?_eq_getElem _
        have hy : Y[k]? = some (Y[k]'(by have := HM.out; omega)) := List.getElem?_eq_getElem _
        have htx : X.take (k + 1) = X.take k ++ [X[k]'(by have := HN.out; omega)] := List.take_succ_eq_append_getElem _
        have hty : Y.take (k + 1) = Y.take k ++ [Y[k]'(by have := HM.out; omega)] := List.take_succ_eq_append_getElem _
        generalize X[k]'(by have := HN.out; omega) = c at hx htx
        generalize Y[k]'(by have := HM.out; omega) = d at hy hty
        obtain ⟨b, off, rfl, hbb, hcx⟩ := HA.out.open_ (by rw [rc_length]; have := HN.out; omega)
        obtain ⟨b', off', rfl, hbb', hcy⟩ := HB.out.open_ (by rw [rc_length]; have := HM.out; omega)
        have fx : ∀ j v, c.cells[j]? = some v → wr.cell? ⟨b, off + k * 7 + j, none⟩ = some v := fun j v hv => by
          rw [Nat.add_assoc]
          exact (HBE.out.cell (p := ⟨b, off + (k * 7 + j), none⟩) hbb).trans (hcx _ v (rc_get hx hv))
        have fy : ∀ j v, d.cells[j]? = some v → wr.cell? ⟨b', off' + k * 7 + j, none⟩ = some v := fun j v hv => by
          rw [Nat.add_assoc]
          exact (HBE.out.cell (p := ⟨b', off' + (k * 7 + j), none⟩) hbb').trans (hcy _ v (rc_get hy hv))
        have x0 := fx 0 _ rfl
        have x1 := fx 1 _ rfl
        have x2 := fx 2 _ rfl
        have x3 := fx 3 _ rfl
        have x4 := fx 4 _ rfl
        have x5 := fx 5 _ rfl
        have x6 := fx 6 _ rfl
        have y0 := fy 0 _ rfl
        have y1 := fy 1 _ rfl
        have y2 := fy 2 _ rfl
        have y3 := fy 3 _ rfl
        have y4 := fy 4 _ rfl
        have y5 := fy 5 _ rfl
        have y6 := fy 6 _ rfl
        simp only [Nat.add_zero] at x0 y0
        have hq := fun w => HQ.out c d w
        have HTX := Lib.hid htx
        have HTY := Lib.hid hty
        have HCX := Lib.hid hx
        have HCY := Lib.hid hy
        clear fx fy hx hy htx hty hcx hcy
        by_cases hcd : c = d
        · have hdd : decide (c = d) = true := by simp [hcd]
          rw [hdd] at hq
          have HCD := Lib.hid hcd
          clear hcd hdd
          go_wp2_with (fail)
          go_quiet (fail)
          go_wp2
          go_roundw
          case rel => exact ⟨k + 1, by go_num, by omega, by rw [HTX.out, HTY.out, HT.out, HCD.out], below_dN HBE.out _⟩
          case measure => simp [intOf]; omega
        · have hdd : decide (c = d) = false := by simp [hcd]
          rw [hdd] at hq
          have HCD := Lib.hid hcd
          clear hcd hdd
          go_wp2_with (fail)
          go_quiet (fail)
          go_wp2
          go_ret
          refine ⟨ret_bool ?_, below_dN HBE.out _⟩
          symm
          rw [decide_eq_false_iff_not]
          intro e
          apply HCD.out
          have e1 := HCX.out
          rw [e, HCY.out] at e1
          injection e1 with e1
          exact e1.symm
      · have hki : ¬ (k : Int) < n := by omega
        obtain rfl : k = n := by omega
        go_wp2
        go_ret
        refine ⟨ret_bool ?_, HBE.out⟩
        symm
        rw [decide_eq_true_iff]
        have := HT.out
        rwa [List.take_of_length_le (by have := HN.out; omega), List.take_of_length_le (by have := HM.out; omega)] at this
  · have hne : decide (X = Y) = false := by
      rw [decide_eq_false_iff_not]
      intro e
      rw [e] at hn
      omega
    rw [hne]
    have hni : ((n : Int) != (m : Int)) = true := by simp; omega
    clear hn hm hA hB
    go_enter Tryz.func37, Tryz.ntmps37
    go_wp2
    go_ret
    exact ⟨rfl, Below.refl _ _⟩
end Go.Proofs.YtfmkeeaenjeneaaGreatDoor

namespace Go.Proofs.YtfmkeeaenjeneaaGreatDoor
open Go.RowKit
set_option linter.unusedVariables false
set_option linter.unusedSimpArgs false

theorem rc_set {l : List Cl} {k j : Nat} {c d : Cl} {v : Value} (h : l[k]? = some c) (hj : j < 7) (hd : d.cells = c.cells.set j v) : (rc l).set (k * 7 + j) v = rc (l.set k d) := by
  induction l generalizing k with
  | nil => simp at h
  | cons x l ih =>
    cases k with
    | zero =>
      simp at h
      subst h
      rw [List.set_cons_zero, rc_cons, rc_cons, hd, show 0 * 7 + j = j by omega, List.set_append_left _ _ (by rw [Cl.len]; exact hj)]
    | succ k =>
      rw [List.set_cons_succ, rc_cons, rc_cons, List.set_append_right _ _ (by rw [Cl.len]; omega), Cl.len, show (k + 1) * 7 + j - 7 = k * 7 + j by omega, ih (by simpa using h)]
theorem rc_set_s {l : List Cl} {k : Nat} {c : Cl} (h : l[k]? = some c) (s : List UInt8) : (rc l).set (k * 7) (.string ⟨s.toArray⟩) = rc (l.set k { c with s := s }) :=
  rc_set (j := 0) h (by omega) rfl

/-- The text of a cell that is no tail grows. -/
theorem Wf.text {l : List Cl} (hl : Wf l) {k : Nat} {c : Cl} (hc : l[k]? = some c) (hw : c.w ≠ 0) {s : List UInt8} (hs : s ≠ []) (h64 : s.length ≤ 64) : Wf (l.set k { c with s := s }) := by
  have hk : k < l.length := (List.getElem?_eq_some_iff.1 hc).1
  have hg : ∀ i : Nat, (l.set k { c with s := s })[i]? = if i = k then some { c with s := s } else l[i]? := fun i => by
    by_cases h : i = k
    · subst h; simp [hk]
    · rw [if_neg h, List.getElem?_set_ne (by omega)]
  refine ⟨?_, ?_, ?_, ?_, ?_⟩
  · intro i d hd
    rw [hg] at hd
    split at hd
    · next h => cases hd; exact hl.w k c hc
    · exact hl.w i d hd
  · intro i d hd h2
    rw [hg] at hd
    split at hd
    · next h =>
      cases hd
      subst h
      have := hl.wide i c hc h2
      rw [hg, if_neg (by omega)]
      exact this
    · have := hl.wide i d hd h2
      rw [hg, if_neg]
      · exact this
      · intro h; subst h; rw [this] at hc; cases hc; exact hw rfl
  · intro i d hd h0
    rw [hg] at hd
    split at hd
    · cases hd; exact absurd h0 hw
    · obtain ⟨j, e, hj, he, hew⟩ := hl.tail i d hd h0
      by_cases hjk : j = k
      · subst hjk
        rw [he] at hc
        cases hc
        exact ⟨j, { c with s := s }, hj, by rw [hg, if_pos rfl], hew⟩
      · exact ⟨j, e, hj, by rw [hg, if_neg hjk]; exact he, hew⟩
  · intro i d hd h0
    rw [hg] at hd
    split at hd
    · cases hd; exact hs
    · exact hl.full i d hd h0
  · intro i d hd
    rw [hg] at hd
    split at hd
    · cases hd; exact h64
    · exact hl.short i d hd

/-- where a text is joined to what stands at a position -/
def joinK (l : List Cl) (col : Nat) : Nat := match l[col]? with | none => col | some c => if c.w = 0 then col - 1 else col
def joinR (l : List Cl) (col : Nat) (s : List UInt8) : List Cl × Bool :=
  match l[joinK l col]? with
  | none => (l, false)
  | some c => if 64 < c.s.length + s.length then (l, false) else (l.set (joinK l col) { c with s := c.s ++ s }, true)
/-- what Join comes to -/
def joinM (W : Nat) (L : List (List Cl)) (row col : Int) (s : List UInt8) : List (List Cl) × Bool × Int :=
  if inB row col W L.length = false then (L, false, 5)
  else (L.set row.toNat (joinR (L.getD row.toNat []) col.toNat s).1, (joinR (L.getD row.toNat []) col.toNat s).2, 0)
theorem joinR_length (l : List Cl) (col : Nat) (s : List UInt8) : (joinR l col s).1.length = l.length := by
  unfold joinR
  split
  · rfl
  · split <;> simp
theorem joinK_get {l : List Cl} (hl : Wf l) {col : Nat} (hc : col < l.length) : ∃ c, l[joinK l col]? = some c ∧ c.w ≠ 0 := by
  have h : l[col]? = some l[col] := List.getElem?_eq_getElem hc
  unfold joinK
  rw [h]
  simp only
  split
  · next h0 =>
    obtain ⟨j, d, hj, hd, hdw⟩ := hl.tail col _ h h0
    rw [hj, show j + 1 - 1 = j by omega]
    exact ⟨d, hd, by omega⟩
  · next h0 => exact ⟨_, h, h0⟩
theorem Wf.join {l : List Cl} (hl : Wf l) (col : Nat) (s : List UInt8) : Wf (joinR l col s).1 := by
  unfold joinR
  split
  · exact hl
  · next c hc =>
    split
    · exact hl
    · next h64 =>
      by_cases hcol : col < l.length
      · obtain ⟨d, hd, hdw⟩ := joinK_get hl hcol
        rw [hc] at hd
        injection hd with hd
        subst hd
        refine hl.text hc hdw ?_ (by rw [List.length_append]; omega)
        have := hl.full _ _ hc hdw
        intro e
        exact this (List.append_eq_nil_iff.1 e).1
      · exfalso
        have : l[col]? = none := List.getElem?_eq_none (by omega)
        unfold joinK at hc
        rw [this] at hc
        simp only at hc
        rw [this] at hc
        cases hc

set_option maxRecDepth 100000 in
set_option maxHeartbeats 4000000 in
theorem join_ok {w : World} {lo g rb W : Nat} {bs : List Nat} {L : List (List Cl)} (h : GrAt w lo g rb bs W L) (row col : Nat) (s : List UInt8) (l : List Cl) (hl : L[row]? = some l) (hc : col < W) (hs : s.length ≤ 1000000) :
    Calls Tryz.prog 113 #[.pointer (some ⟨g, 0, none⟩), .int .i64 row, .int .i64 col, .string ⟨s.toArray⟩] w fun e w' => e = .returned (.tuple #[.bool (joinR l col s).2, .int .i64 0]) ∧
      GrAt w' lo g rb bs W (L.set row (joinR l col s).1) ∧ Chg (GrOwn g rb bs) w w' := by
  have hr : row < L.length := (List.getElem?_eq_some_iff.1 hl).1
  obtain ⟨hlen, hwf⟩ := h.some_at hl
  have hw5 := h.w5
  have hh5 := h.h5
  have HIN := Lib.hid (show inB row col W L.length = true by unfold inB; simp; omega)
  have hsz : (⟨s.toArray⟩ : ByteArray).size = s.length := by show s.toArray.size = _; simp
  have HSZ := Lib.hid hsz
  have hri : (row : Int) < L.length := by omega
  have hci : (col : Int) < W := by omega
  have hcb : (col : Int) < 500 := by omega
  obtain ⟨c, hkc, hcw⟩ := joinK_get hwf (col := col) (by omega)
  have hJ : joinR l col s = if 64 < c.s.length + s.length then (l, false) else (l.set (joinK l col) { c with s := c.s ++ s }, true) := by unfold joinR; rw [hkc]
  have hcol : l[col]? = some (l[col]'(by omega)) := List.getElem?_eq_getElem (by omega)
  have hK : joinK l col = if (l[col]'(by omega)).w = 0 then col - 1 else col := by unfold joinK; rw [hcol]
  have htail := fun h0 => hwf.tail col _ hcol h0
  generalize l[col]'(by omega) = d at hcol hK htail
  have hc64 := hwf.short _ _ hkc
  have hszc : (⟨c.s.toArray⟩ : ByteArray).size = c.s.length := by show c.s.toArray.size = _; simp
  have HSZC := Lib.hid hszc
  have hwj := hwf.join col s
  have hlj : (joinR l col s).1.length = W := by rw [joinR_length]; exact hlen
  obtain ⟨kk, hkk⟩ : ∃ kk, joinK l col = kk := ⟨_, rfl⟩
  rw [hkk] at hJ hK hkc
  have hkl : kk < W := by have := (List.getElem?_eq_some_iff.1 hkc).1; omega
  have hcase : (d.w = 0 ∧ col = kk + 1) ∨ (d.w ≠ 0 ∧ col = kk) := by
    by_cases h0 : d.w = 0
    · obtain ⟨j, e, hj, _, _⟩ := htail h0
      rw [if_pos h0] at hK
      exact .inl ⟨h0, by omega⟩
    · rw [if_neg h0] at hK
      exact .inr ⟨h0, by omega⟩
  obtain ⟨R1, hR1⟩ : ∃ R1, (joinR l col s).1 = R1 := ⟨_, rfl⟩
  obtain ⟨R2, hR2⟩ : ∃ R2, (joinR l col s).2 = R2 := ⟨_, rfl⟩
  rw [hR1] at hwj hlj ⊢
  rw [hR2]
  have HWJ := Lib.hid hwj
  have HLJ := Lib.hid hlj
  have H := Lib.hid h
  have HL := Lib.hid hl
  have HC := Lib.hid hcol
  have HKC := Lib.hid hkc
  clear h hl hlen hwf hsz hszc hcol hwj hlj hcw htail hK hkk hkc
  -- to the row's cells
  have pre : ∀ w1, Below w.heap.size w w1 → ∃ b, bs[row]? = some b ∧ w1.cell? ⟨rb, row, none⟩ = some (.slice (some ⟨b, 0, none⟩) W W) ∧ w1.cell? ⟨g, 1, none⟩ = some (.slice (some ⟨rb, 0, none⟩) L.length L.length) ∧ Blk w1 b 83 (rc l) := fun w1 hb1 => by
    have H1 := H.out.below hb1
    obtain ⟨b, l', hbi, hl', hrv, _, _, hb⟩ := H1.at_ hr
    obtain rfl : l' = l := by have := HL.out; rw [this] at hl'; injection hl' with hl'; exact hl'.symm
    exact ⟨b, hbi, hrv, H1.rws, hb⟩
  have fin : ∀ w1 w2 b, Below w.heap.size w w1 → bs[row]? = some b → Chg (one b) w1 w2 → Blk w2 b 83 (rc R1) → GrAt w2 lo g rb bs W (L.set row R1) ∧ Chg (GrOwn g rb bs) w w2 := fun w1 w2 b hb1 hbi hch hb => by
    refine ⟨(H.out.below hb1).set hbi hch HLJ.out HWJ.out hb, (Chg.of_below (S := GrOwn g rb bs) hb1).trans hch (fun j e => .inl (by have e' : j = b := e; subst e'; exact .inr (.inr (List.mem_of_getElem? hbi))))⟩
  have PRE := Lib.hid pre
  have FIN := Lib.hid fin
  clear pre fin
  by_cases h64 : 64 < c.s.length + s.length
  · rw [if_pos h64] at hJ
    rw [hJ] at hR1 hR2
    obtain rfl : l = R1 := hR1
    obtain rfl : false = R2 := hR2
    clear hJ
    have h64i : (64 : Int) < (c.s.length : Int) + (s.length : Int) := by omega
    rcases hcase with ⟨h0, rfl⟩ | ⟨h0, hcc⟩
    · have hjj : ((kk + 1 : Nat) : Int) - 1 = (kk : Int) := by omega
      have hji : (kk : Int) < W := by omega
      go_enter Tryz.func113, Tryz.ntmps113
      go_wp2_with (go_at_call 59; refine (made_yes g _ H.out.ptr).mono ?_; rintro e w' ⟨rfl, rfl⟩)
      refine (has_bel H.out row _).mono ?_
      rintro e w1 ⟨rfl, hb1⟩
      have hin := HIN.out
      first | rw [hin] | (simp only [Int.natCast_add, Int.natCast_one] at hin; rw [hin])
      obtain ⟨b, hbi, hrv, hrw, hb⟩ := PRE.out w1 hb1
      have hc1 := goInt_cell HC.out hb
      rw [h0] at hc1
      have hc0 : w1.cell? ⟨b, kk * 7, none⟩ = some (.string ⟨c.s.toArray⟩) := by rw [hb.cell (kk * 7)]; exact rc_get HKC.out (j := 0) rfl
      have HB := Lib.hid hb
      have HBI := Lib.hid hbi
      have HB1 := Lib.hid hb1
      clear hb hbi hb1 hin
      go_wp2
      go_ret2
      exact ⟨rfl, FIN.out w1 w1 b HB1.out HBI.out (Chg.refl _ _) HB.out⟩
    · obtain rfl : kk = col := hcc.symm
      have h0' : (d.w == 0) = false := by simp [h0]
      go_enter Tryz.func113, Tryz.ntmps113
      go_wp2_with (go_at_call 59; refine (made_yes g _ H.out.ptr).mono ?_; rintro e w' ⟨rfl, rfl⟩)
      refine (has_bel H.out row _).mono ?_
      rintro e w1 ⟨rfl, hb1⟩
      have hin := HIN.out
      first | rw [hin] | (simp only [Int.natCast_add, Int.natCast_one] at hin; rw [hin])
      obtain ⟨b, hbi, hrv, hrw, hb⟩ := PRE.out w1 hb1
      have hc1 := goInt_cell HC.out hb
      have hc0 : w1.cell? ⟨b, kk * 7, none⟩ = some (.string ⟨c.s.toArray⟩) := by rw [hb.cell (kk * 7)]; exact rc_get HKC.out (j := 0) rfl
      have HB := Lib.hid hb
      have HBI := Lib.hid hbi
      have HB1 := Lib.hid hb1
      clear hb hbi hb1 hin
      go_wp2
      go_ret2
      exact ⟨rfl, FIN.out w1 w1 b HB1.out HBI.out (Chg.refl _ _) HB.out⟩
  · rw [if_neg h64] at hJ
    rw [hJ] at hR1 hR2
    obtain rfl : true = R2 := hR2
    have HR1 := Lib.hid hR1
    clear hJ hR1
    have h64i : ¬ (64 : Int) < (c.s.length : Int) + (s.length : Int) := by omega
    rcases hcase with ⟨h0, rfl⟩ | ⟨h0, hcc⟩
    · have hjj : ((kk + 1 : Nat) : Int) - 1 = (kk : Int) := by omega
      have hji : (kk : Int) < W := by omega
      go_enter Tryz.func113, Tryz.ntmps113
      go_wp2_with (go_at_call 59; refine (made_yes g _ H.out.ptr).mono ?_; rintro e w' ⟨rfl, rfl⟩)
      refine (has_bel H.out row _).mono ?_
      rintro e w1 ⟨rfl, hb1⟩
      have hin := HIN.out
      first | rw [hin] | (simp only [Int.natCast_add, Int.natCast_one] at hin; rw [hin])
      obtain ⟨b, hbi, hrv, hrw, hb⟩ := PRE.out w1 hb1
      have hc1 := goInt_cell HC.out hb
      rw [h0] at hc1
      have hc0 : w1.cell? ⟨b, kk * 7, none⟩ = some (.string ⟨c.s.toArray⟩) := by rw [hb.cell (kk * 7)]; exact rc_get HKC.out (j := 0) rfl
      have HB := Lib.hid hb
      have HBI := Lib.hid hbi
      have HB1 := Lib.hid hb1
      clear hb hbi hb1 hin
      go_wp2_with (((with_reducible refine at_store 54 ?_); refine wpList_store_cell rfl _ _ _ rfl rfl b (kk * 7) _ (rc l) (.string (⟨c.s.toArray⟩ ++ ⟨s.toArray⟩)) rfl rfl HB.out (by have h1 := rc_length l; have h2 := (List.getElem?_eq_some_iff.1 HKC.out).1; omega) (by kernel_rfl) rfl ?_; intro w4 hn4 hg4))
      go_ret2
      have e : (⟨c.s.toArray⟩ : ByteArray) ++ ⟨s.toArray⟩ = ⟨(c.s ++ s).toArray⟩ := by apply ByteArray.ext; simp [ByteArray.data_append]
      rw [e, rc_set_s HKC.out, HR1.out] at hn4
      exact ⟨rfl, FIN.out w1 w4 b HB1.out HBI.out (chg_of_grown hg4) hn4⟩
    · obtain rfl : kk = col := hcc.symm
      have h0' : (d.w == 0) = false := by simp [h0]
      go_enter Tryz.func113, Tryz.ntmps113
      go_wp2_with (go_at_call 59; refine (made_yes g _ H.out.ptr).mono ?_; rintro e w' ⟨rfl, rfl⟩)
      refine (has_bel H.out row _).mono ?_
      rintro e w1 ⟨rfl, hb1⟩
      have hin := HIN.out
      first | rw [hin] | (simp only [Int.natCast_add, Int.natCast_one] at hin; rw [hin])
      obtain ⟨b, hbi, hrv, hrw, hb⟩ := PRE.out w1 hb1
      have hc1 := goInt_cell HC.out hb
      have hc0 : w1.cell? ⟨b, kk * 7, none⟩ = some (.string ⟨c.s.toArray⟩) := by rw [hb.cell (kk * 7)]; exact rc_get HKC.out (j := 0) rfl
      have HB := Lib.hid hb
      have HBI := Lib.hid hbi
      have HB1 := Lib.hid hb1
      clear hb hbi hb1 hin
      go_wp2_with (((with_reducible refine at_store 54 ?_); refine wpList_store_cell rfl _ _ _ rfl rfl b (kk * 7) _ (rc l) (.string (⟨c.s.toArray⟩ ++ ⟨s.toArray⟩)) rfl rfl HB.out (by have h1 := rc_length l; have h2 := (List.getElem?_eq_some_iff.1 HKC.out).1; omega) (by kernel_rfl) rfl ?_; intro w4 hn4 hg4))
      go_ret2
      have e : (⟨c.s.toArray⟩ : ByteArray) ++ ⟨s.toArray⟩ = ⟨(c.s ++ s).toArray⟩ := by apply ByteArray.ext; simp [ByteArray.data_append]
      rw [e, rc_set_s HKC.out, HR1.out] at hn4
      exact ⟨rfl, FIN.out w1 w4 b HB1.out HBI.out (chg_of_grown hg4) hn4⟩

set_option maxHeartbeats 1000000 in
theorem join_not {w : World} {p : Option Addr} (h : GrNo w p) (row col : Int) (s : ByteArray) :
    Calls Tryz.prog 113 #[.pointer p, .int .i64 row, .int .i64 col, .string s] w fun e w' => e = .returned (.tuple #[.bool false, .int .i64 4]) ∧ w = w' := by
  have H := Lib.hid h
  clear h
  go_enter Tryz.func113, Tryz.ntmps113
  go_wp2_with (go_at_call 59; refine (made_not H.out).mono ?_; rintro e w' ⟨rfl, rfl⟩)
  go_ret2
  exact ⟨rfl, rfl⟩
set_option maxHeartbeats 1000000 in
theorem join_range {w : World} {lo g rb W : Nat} {bs : List Nat} {L : List (List Cl)} (h : GrAt w lo g rb bs W L) (row col : Int) (s : ByteArray) (hbad : inB row col W L.length = false) :
    Calls Tryz.prog 113 #[.pointer (some ⟨g, 0, none⟩), .int .i64 row, .int .i64 col, .string s] w fun e w' => e = .returned (.tuple #[.bool false, .int .i64 5]) ∧ Below w.heap.size w w' := by
  have H := Lib.hid h
  have HIN := Lib.hid hbad
  clear h hbad
  go_enter Tryz.func113, Tryz.ntmps113
  go_wp2_with (first
    | (go_at_call 59; refine (made_yes g _ H.out.ptr).mono ?_; rintro e w' ⟨rfl, rfl⟩)
    | (go_at_call 60; refine (has_bel H.out row col).mono ?_; rintro e w1 ⟨rfl, hb1⟩; rw [HIN.out]))
  go_ret2
  exact ⟨rfl, hb1⟩
theorem getD_some {L : List (List Cl)} {r : Nat} (h : r < L.length) : L[r]? = some (L.getD r []) := by
  rw [List.getElem?_eq_getElem h, List.getD_eq_getElem?_getD, List.getElem?_eq_getElem h]
  rfl
theorem join_any {w : World} {lo g rb W : Nat} {bs : List Nat} {L : List (List Cl)} (h : GrAt w lo g rb bs W L) (row col : Int) (s : List UInt8) (hs : s.length ≤ 1000000) :
    Calls Tryz.prog 113 #[.pointer (some ⟨g, 0, none⟩), .int .i64 row, .int .i64 col, .string ⟨s.toArray⟩] w fun e w' => e = .returned (.tuple #[.bool (joinM W L row col s).2.1, .int .i64 (joinM W L row col s).2.2]) ∧
      GrAt w' lo g rb bs W (joinM W L row col s).1 ∧ Chg (GrOwn g rb bs) w w' := by
  unfold joinM
  by_cases h1 : inB row col W L.length = false
  · rw [if_pos h1]
    exact (join_range h row col _ h1).mono fun e w' ⟨he, hb⟩ => ⟨he, h.below hb, Chg.of_below hb⟩
  · rw [if_neg h1]
    have a : inB row col W L.length = true := by simpa using h1
    obtain ⟨a0, a1, a2, a3⟩ : 0 ≤ row ∧ row < L.length ∧ 0 ≤ col ∧ col < W := by simpa [inB] using a
    obtain ⟨r, rfl⟩ := Int.eq_ofNat_of_zero_le a0
    obtain ⟨c, rfl⟩ := Int.eq_ofNat_of_zero_le a2
    exact join_ok h r c s _ (getD_some (by omega)) (by omega) hs

/-- what Erase comes to -/
def eraseG (W : Nat) (L : List (List Cl)) (row a z : Int) : List (List Cl) × Int :=
  if inB row 0 W L.length = false then (L, 5)
  else (L.set row.toNat (eraseM (L.getD row.toNat []) (max a 0).toNat (min z W - max a 0).toNat), 0)
set_option maxHeartbeats 1000000 in
theorem erase_not {w : World} {p : Option Addr} (h : GrNo w p) (row a z : Int) :
    Calls Tryz.prog 151 #[.pointer p, .int .i64 row, .int .i64 a, .int .i64 z] w fun e w' => e = .returned (.int .i64 4) ∧ w = w' := by
  have H := Lib.hid h
  clear h
  go_enter Tryz.func151, Tryz.ntmps151
  go_wp2_with (go_at_call 59; refine (made_not H.out).mono ?_; rintro e w' ⟨rfl, rfl⟩)
  go_ret
  exact ⟨rfl, rfl⟩
set_option maxHeartbeats 1000000 in
theorem erase_range {w : World} {lo g rb W : Nat} {bs : List Nat} {L : List (List Cl)} (h : GrAt w lo g rb bs W L) (row a z : Int) (hbad : inB row 0 W L.length = false) :
    Calls Tryz.prog 151 #[.pointer (some ⟨g, 0, none⟩), .int .i64 row, .int .i64 a, .int .i64 z] w fun e w' => e = .returned (.int .i64 5) ∧ Below w.heap.size w w' := by
  have H := Lib.hid h
  have HIN := Lib.hid hbad
  clear h hbad
  go_enter Tryz.func151, Tryz.ntmps151
  go_wp2_with (first
    | (go_at_call 59; refine (made_yes g _ H.out.ptr).mono ?_; rintro e w' ⟨rfl, rfl⟩)
    | (go_at_call 60; refine (has_bel H.out row 0).mono ?_; rintro e w1 ⟨rfl, hb1⟩; rw [HIN.out]))
  go_ret
  exact ⟨rfl, hb1⟩

set_option maxRecDepth 100000 in
set_option maxHeartbeats 4000000 in
theorem erase_ok {w : World} {lo g rb W : Nat} {bs : List Nat} {L : List (List Cl)} (h : GrAt w lo g rb bs W L) (hT : BlankT w) (hlo : 0 < lo) (row : Nat) (a z : Int) (ha1 : -9223372036854775808 ≤ a) (ha2 : a ≤ 9223372036854775807) (l : List Cl) (hl : L[row]? = some l) :
    Calls Tryz.prog 151 #[.pointer (some ⟨g, 0, none⟩), .int .i64 row, .int .i64 a, .int .i64 z] w fun e w' => e = .returned (.int .i64 0) ∧
      GrAt w' lo g rb bs W (L.set row (eraseM l (max a 0).toNat (min z W - max a 0).toNat)) ∧ Chg (GrOwn g rb bs) w w' := by
  have hr : row < L.length := (List.getElem?_eq_some_iff.1 hl).1
  obtain ⟨hlen, hwf⟩ := h.some_at hl
  have hw5 := h.w5
  have hw1 := h.w1
  have hh5 := h.h5
  have HIN := Lib.hid (show inB row 0 W L.length = true by unfold inB; simp; omega)
  have hri : (row : Int) < L.length := by omega
  have H := Lib.hid h
  have HT := Lib.hid hT
  have HL := Lib.hid hl
  have HLEN := Lib.hid hlen
  have HWF := Lib.hid hwf
  clear h hT hl hlen hwf
  obtain ⟨a', ha'⟩ : ∃ a', max a 0 = a' := ⟨_, rfl⟩
  obtain ⟨z', hz'⟩ : ∃ z', min z (W : Int) = z' := ⟨_, rfl⟩
  obtain ⟨m, hm⟩ : ∃ m, (z' - a').toNat = m := ⟨_, rfl⟩
  rw [ha', hz', hm]
  have ha0 : 0 ≤ a' := by omega
  have hab : a' ≤ 9223372036854775807 := by omega
  have HA := Lib.hid ha'
  have HZ := Lib.hid hz'
  have HM := Lib.hid hm
  clear ha' hz' hm
  by_cases hzw : z ≤ (W : Int)
  all_goals
   go_enter Tryz.func151, Tryz.ntmps151
   go_wp2_with (go_at_call 59; refine (made_yes g _ H.out.ptr).mono ?_; rintro e w' ⟨rfl, rfl⟩)
   refine (has_bel H.out row 0).mono ?_
   rintro e w2 ⟨rfl, hb2⟩
   rw [HIN.out]
   have H2 := Lib.hid (H.out.below hb2)
   have HB2 := Lib.hid hb2
   have hs2 := H2.out.rws
   obtain ⟨b, l', hbi, hl', hrv, hlen', hwf', hb⟩ := H2.out.at_ hr
   obtain rfl : l' = l := by have := HL.out; rw [this] at hl'; injection hl' with hl'; exact hl'.symm
   unfold rowV at hrv
   have HB := Lib.hid hb
   have HBI := Lib.hid hbi
   have HT2 := Lib.hid (HT.out.bel HB2.out)
   have hbne : b ≠ 0 := by have := H2.out.lo b (.inr (.inr (List.mem_of_getElem? hbi))); omega
   have HBN := Lib.hid hbne
   clear hb2 hl' hlen' hwf' hb hbi hbne
   go_wp2
   all_goals
    go_loopw [10] (fun v10 wr => ∃ k : Nat, v10 = .int .i64 (a' + k) ∧ k ≤ m ∧ Blk wr b 83 (rc (eraseM l' a'.toNat k)) ∧ Chg (one b) w2 wr) (fun v10 _ => (z' - intOf v10).toNat)
    case atStart => exact ⟨0, by have := HA.out; congr 1; omega, by omega, HB.out, Chg.refl _ _⟩
    case round =>
      obtain ⟨k, rfl, hk, hbk, hck⟩ := hrel
      have HBK := Lib.hid hbk
      have HCK := Lib.hid hck
      clear hbk hck
      by_cases hlt : k < m
      · have hz1 : a' + (k : Int) < z' := by have := HM.out; omega
        have hz2 : a' + (k : Int) < z ∧ a' + (k : Int) < W := by have := HZ.out; omega
        obtain ⟨hz3, hz4⟩ := hz2
        have hak : 0 ≤ a' + (k : Int) := by omega
        have HTr := Lib.hid (HT2.out.chg HCK.out (fun e => HBN.out e.symm))
        go_wp2_with (fail)
        rw [show a' + (k : Int) = ((a'.toNat + k : Nat) : Int) by omega]
        refine (blankAt_any b (eraseM l' a'.toNat k) W (a'.toNat + k) (by rw [eraseM_length]; exact HLEN.out) (HWF.out.erase _ k) (by omega) (by omega) wr HBK.out HTr.out HBN.out).mono ?_
        rintro e w4 ⟨rfl, hb4, hg4⟩
        rw [← eraseM_snoc] at hb4
        have HB4 := Lib.hid hb4
        have HG4 := Lib.hid hg4
        clear hb4 hg4
        go_wp2
        go_roundw
        case rel => exact ⟨k + 1, by congr 1; omega, by omega, HB4.out, HCK.out.trans (chg_of_grown HG4.out) (fun _ h => .inl h)⟩
        case measure => simp [intOf]; omega
      · obtain rfl : k = m := by omega
        have hz1 : ¬ a' + (k : Int) < z' := by have := HM.out; omega
        have HFIN : Hid (GrAt wr lo g rb bs W (L.set row (eraseM l' a'.toNat k)) ∧ Chg (GrOwn g rb bs) w wr) :=
          ⟨H2.out.set HBI.out HCK.out (by rw [eraseM_length]; exact HLEN.out) (HWF.out.erase _ _) HBK.out, (Chg.of_below (S := GrOwn g rb bs) HB2.out).trans HCK.out (fun j e => .inl (by have e' : j = b := e; subst e'; exact .inr (.inr (List.mem_of_getElem? HBI.out))))⟩
        first
          | (have hz5 : ¬ a' + (k : Int) < z := (by have := HZ.out; omega)
             go_wp2
             go_ret
             exact ⟨rfl, HFIN.out⟩)
          | (have hz5 : ¬ a' + (k : Int) < W := (by have := HZ.out; omega)
             go_wp2
             go_ret
             exact ⟨rfl, HFIN.out⟩)
end Go.Proofs.YtfmkeeaenjeneaaGreatDoor

namespace Go.Proofs.YtfmkeeaenjeneaaGreatDoor
open Go.RowKit
set_option linter.unusedVariables false
set_option linter.unusedSimpArgs false

theorem erase_any {w : World} {lo g rb W : Nat} {bs : List Nat} {L : List (List Cl)} (h : GrAt w lo g rb bs W L) (hT : BlankT w) (hlo : 0 < lo) (row a z : Int) (ha1 : -9223372036854775808 ≤ a) (ha2 : a ≤ 9223372036854775807) :
    Calls Tryz.prog 151 #[.pointer (some ⟨g, 0, none⟩), .int .i64 row, .int .i64 a, .int .i64 z] w fun e w' => e = .returned (.int .i64 (eraseG W L row a z).2) ∧
      GrAt w' lo g rb bs W (eraseG W L row a z).1 ∧ Chg (GrOwn g rb bs) w w' := by
  unfold eraseG
  by_cases h1 : inB row 0 W L.length = false
  · rw [if_pos h1]
    exact (erase_range h row a z h1).mono fun e w' ⟨he, hb⟩ => ⟨he, h.below hb, Chg.of_below hb⟩
  · rw [if_neg h1]
    have a' : inB row 0 W L.length = true := by simpa using h1
    obtain ⟨a0, a1, a2, a3⟩ : 0 ≤ row ∧ row < L.length ∧ (0 : Int) ≤ 0 ∧ (0 : Int) < W := by have := h.w1; simp [inB] at a'; omega
    obtain ⟨r, rfl⟩ := Int.eq_ofNat_of_zero_le a0
    exact erase_ok h hT hlo r a z ha1 ha2 _ (getD_some (by omega))

theorem Sl.own_k {w : World} {base n c size : Nat} {e : TypeId} {A : Option Addr} {xs : List Value} (h : w.ownsRow base e size (.slice A n c) n xs) : Sl w w.heap.size A xs := by
  rcases h with ⟨hl, ⟨hv, rfl⟩ | ⟨g, cap, cur, hv, hb, hh, hn, hc, hcur, ht⟩⟩
  · have : xs = [] := List.eq_nil_of_length_eq_zero (by simpa using hl)
    exact .inl this
  · injection hv with hA _ _
    subst hA
    refine .inr ⟨g, 0, rfl, (Array.getElem?_eq_some_iff.1 hh).1, fun j u hu => ?_⟩
    rw [← ht, List.getElem?_take] at hu
    split at hu
    · simp [World.cell?, hh]
      simpa using hu
    · cases hu

theorem run_eql_snil (a : Addr) (m c : Nat) (w : World) : Sem.run Tryz.prog (binOp .eql 78 (.slice (some a) m c) (.slice none 0 0)) w = .ok (.bool false) w := by
  have h : ∀ d : Nat, (Op.equalIn (d + 1) 78 (.slice (some a) m c) (.slice none 0 0)).run Tryz.prog w = .ok false w := fun d => by
    simp [Op.equalIn, run_underlying Tryz.underlying78]
  simp only [binOp]
  simp [Op.equal, Op.maxDepth, h 9999]
set_option maxRecDepth 100000 in
set_option maxHeartbeats 4000000 in
theorem clone_any (l : List Cl) (m cap b off B : Nat) (hm : m = l.length) (h1 : m ≤ 100000) (w : World) (hS : Sl w B (some ⟨b, off, none⟩) (rc l)) (hB : B ≤ w.heap.size) :
    Calls Tryz.prog 89 #[.slice (some ⟨b, off, none⟩) m cap] w fun e w' => ∃ A c, e = .returned (.slice A m c) ∧ Sl w' w'.heap.size A (rc l) ∧ Below w.heap.size w w' := by
  obtain ⟨i0, hi0, hz0, hz1, hz2⟩ := info_parts cl_info
  have HI0 := Lib.hid hi0
  have HZ0 := Lib.hid hz0
  have HZ1 := Lib.hid hz1
  have HZ2 := Lib.hid hz2
  have HM := Lib.hid hm
  have HS := Lib.hid (hS.more hB)
  clear hi0 hz0 hz1 hz2 hm hS
  have he := run_eql_snil ⟨b, off, none⟩ m cap
  go_enter Tryz.func89, Tryz.ntmps89
  go_wp2_with (at_builtin; go_loud (refine wpList_append_sl _ rfl (.tmp 5) (.tmp 6) _ rfl w.heap.size 83 i0 _ 7 48 Tryz.underlying78 HI0.out HZ0.out HZ1.out HZ2.out rfl (by omega) (.slice (some ⟨w.heap.size, 0, none⟩) 0 0) 0 [] rfl (by have := World.ownsRow_lit (base := w.heap.size) (e := 83) (size := 7) w #[] 0 (Nat.le_refl _) (by simp only [maxLen]; omega) (by simp); simpa using this) w.heap.size (some ⟨b, off, none⟩) m cap (rc l) rfl (HS.out.alloc (Nat.le_refl _) _) (by rw [rc_length, HM.out]) (fun h => by cases h) (rc_one l) (by simp only [maxLen]; omega) (by omega) (by simp) ?_); intro v' w2 ho hg hat)
  obtain ⟨A', c', hv', _, _⟩ := own_of ho
  rw [Nat.zero_add, List.nil_append] at ho
  rw [Nat.zero_add] at hv'
  subst hv'
  go_wp2
  go_ret
  refine ⟨A', c', rfl, Sl.own_k ho, ((Below.refl _ _).alloc (Nat.le_refl _) _).grown hg (by simp) (fun k hk => by simp [Value.ownBlock] at hk; omega)⟩

set_option maxRecDepth 100000 in
set_option maxHeartbeats 1000000 in
theorem row_yes {w : World} {lo g rb W : Nat} {bs : List Nat} {L : List (List Cl)} (h : GrAt w lo g rb bs W L) (row : Nat) (l : List Cl) (hl : L[row]? = some l) :
    Calls Tryz.prog 62 #[.pointer (some ⟨g, 0, none⟩), .int .i64 row] w fun e w' => ∃ A c, e = .returned (.slice A W c) ∧ Sl w' w'.heap.size A (rc l) ∧ Below w.heap.size w w' := by
  have hr : row < L.length := (List.getElem?_eq_some_iff.1 hl).1
  have hw5 := h.w5
  have hw1 := h.w1
  have hh5 := h.h5
  have hri : (row : Int) < L.length := by omega
  obtain ⟨hlen, hwf⟩ := h.some_at hl
  have HIN := Lib.hid (show inB row 0 W L.length = true by unfold inB; simp; omega)
  have H := Lib.hid h
  have HL := Lib.hid hl
  have HLEN := Lib.hid hlen
  clear h hl hlen hwf
  go_enter Tryz.func62, Tryz.ntmps62
  go_wp2_with (fail)
  refine (has_bel H.out row 0).mono ?_
  rintro e w1 ⟨rfl, hb1⟩
  rw [HIN.out]
  have H1 := Lib.hid (H.out.below hb1)
  have HB1 := Lib.hid hb1
  have hs1 := H1.out.rws
  obtain ⟨b, l', hbi, hl', hrv, hlen', hwf', hb⟩ := H1.out.at_ hr
  obtain rfl : l' = l := by have := HL.out; rw [this] at hl'; injection hl' with hl'; exact hl'.symm
  unfold rowV at hrv
  have HB := Lib.hid hb
  clear hb1 hl' hlen' hwf' hb hbi
  go_wp2_with (go_at_call 89; refine (clone_any l' W W b 0 w1.heap.size HLEN.out.symm (by omega) w1 HB.out.sl (Nat.le_refl _)).mono ?_; rintro e w2 ⟨A, c, rfl, hs2, hb2⟩)
  go_ret
  exact ⟨A, c, rfl, hs2, HB1.out.trans (hb2.mono HB1.out.size)⟩

theorem row_no {w : World} {p : Option Addr} (row : Int) (hh : Calls Tryz.prog 60 #[.pointer p, .int .i64 row, .int .i64 0] w fun e w'' => e = .returned (.bool false) ∧ Below w.heap.size w w'') :
    Calls Tryz.prog 62 #[.pointer p, .int .i64 row] w fun e w' => e = .returned (.slice none 0 0) ∧ Below w.heap.size w w' := by
  have HH := Lib.hid hh
  clear hh
  go_enter Tryz.func62, Tryz.ntmps62
  go_wp2_with (go_at_call 60; refine HH.out.mono ?_; rintro e w1 ⟨rfl, hb1⟩)
  go_ret
  exact ⟨rfl, hb1⟩
theorem text_no {w : World} {p : Option Addr} (row : Int) (hh : Calls Tryz.prog 60 #[.pointer p, .int .i64 row, .int .i64 0] w fun e w'' => e = .returned (.bool false) ∧ Below w.heap.size w w'') :
    Calls Tryz.prog 48 #[.pointer p, .int .i64 row] w fun e w' => e = .returned (.string ⟨#[]⟩) ∧ Below w.heap.size w w' := by
  have HH := Lib.hid hh
  clear hh
  go_enter Tryz.func48, Tryz.ntmps48
  go_wp2_with (go_at_call 60; refine HH.out.mono ?_; rintro e w1 ⟨rfl, hb1⟩)
  go_ret
  exact ⟨rfl, hb1⟩
end Go.Proofs.YtfmkeeaenjeneaaGreatDoor

namespace Go.Proofs.YtfmkeeaenjeneaaGreatDoor
open Go.RowKit
set_option linter.unusedVariables false
set_option linter.unusedSimpArgs false

/-- how many rows go -/
def scrollN (H : Nat) (n : Int) : Nat := (min (max n 0) H).toNat
/-- what Scroll comes to -/
def scrollM (W : Nat) (L : List (List Cl)) (n : Int) : List (List Cl) := L.drop (scrollN L.length n) ++ List.replicate (scrollN L.length n) (List.replicate W bl)
theorem scrollM_length (W : Nat) (L : List (List Cl)) (n : Int) : (scrollM W L n).length = L.length := by
  unfold scrollM scrollN
  simp
  omega

theorem rowV_one (W : Nat) (bs : List Nat) : ∀ v ∈ bs.map (rowV W), v.oneCell' = true := by
  intro v hv
  obtain ⟨b, _, rfl⟩ := List.mem_map.1 hv
  rfl
theorem enters_blankRows : ∀ args w, (callFunc 45 args).run Tryz.prog w = .ok (.enter 45 args) w := enters_of Tryz.func45 (by kernel_rfl) rfl

theorem RowsNew.undrew {w w' : World} {W H : Nat} {bs : List Nat} (h : RowsNew w.drew w' W H bs) : RowsNew w w' W H bs :=
  ⟨h.len, h.nd, h.hi, h.row, h.rows, ⟨h.bel.os, h.bel.tape, h.bel.output, h.bel.size, h.bel.block⟩⟩
/-- A grid whose first rows went, and that got as many new ones. -/
theorem GrAt.scroll {w wc w3 w4 : World} {lo g rb W k : Nat} {bs nb : List Nat} {L : List (List Cl)} (h : GrAt w lo g rb bs W L) (hk : k ≤ L.length) (hcx : Chg (one rb) w wc) (hR : RowsNew wc w3 W k nb) (hlo : lo ≤ w.heap.size)
    (hc : Chg (one rb) w3 w4) (hrows : Blk w4 rb 78 ((bs.drop k ++ nb).map (rowV W))) :
    GrAt w4 lo g rb (bs.drop k ++ nb) W (L.drop k ++ List.replicate k (List.replicate W bl)) := by
  have hll : (L.drop k ++ List.replicate k (List.replicate W bl)).length = L.length := by simp; omega
  have hkb : k ≤ bs.length := by rw [h.len]; exact hk
  have hsz := hcx.size
  have hall : Chg (one rb) w w4 := (hcx.trans (Chg.of_below (S := one rb) hR.bel) (fun _ h => .inl h)).trans hc (fun _ h => .inl h)
  have hb34 : ∀ b t cs, t ≠ 78 → Blk w b t cs → Blk w4 b t cs := fun b t cs ht hb => hb.chg hall (fun e => by
    have e' : b = rb := e
    exact h.rows.ne_ (e' ▸ hb) (Ne.symm ht) rfl)
  have hb35 : ∀ b t cs, t ≠ 78 → wc.heap.size < b → Blk w3 b t cs → Blk w4 b t cs := fun b t cs ht hlt hb => hb.chg hc (fun e => by
    have e' : b = rb := e
    have := h.rows.lt
    omega)
  refine ⟨?_, hrows, ?_, ?_, ?_, ?_, h.w1, h.w5, by rw [hll]; exact h.h1, by rw [hll]; exact h.h5⟩
  · rw [hll]
    exact hb34 _ _ _ (by decide) h.head
  · rw [hll, List.length_append, List.length_drop, hR.len]; have := h.len; omega
  · rw [List.nodup_append]
    refine ⟨h.nd.sublist (List.drop_sublist _ _), hR.nd, ?_⟩
    rintro a ha b hb rfl
    have h1 := h.own_lt a (.inr (.inr (List.mem_of_mem_drop ha)))
    have h2 := hR.hi a hb
    omega
  · intro i b hb
    by_cases hi : i < (bs.drop k).length
    · rw [List.getElem?_append_left hi, List.getElem?_drop] at hb
      obtain ⟨l, h1, h2, h4, h5⟩ := h.row _ b hb
      refine ⟨l, ?_, h2, h4, hb34 _ _ _ (by decide) h5⟩
      rw [List.getElem?_append_left (by rw [List.length_drop] at hi ⊢; rw [← h.len]; exact hi), List.getElem?_drop]
      exact h1
    · rw [List.getElem?_append_right (by omega)] at hb
      have hm := List.mem_of_getElem? hb
      have hj := (List.getElem?_eq_some_iff.1 hb).1
      rw [hR.len] at hj
      refine ⟨List.replicate W bl, ?_, by simp, Wf.blanks W, hb35 _ _ _ (by decide) (hR.hi b hm) (hR.row b hm)⟩
      rw [List.length_drop, h.len] at hi hj
      rw [List.getElem?_append_right (by rw [List.length_drop]; omega), List.length_drop, List.getElem?_replicate, if_pos (by omega)]
  · rintro j (rfl | rfl | hj)
    · exact h.lo _ (.inl rfl)
    · exact h.lo _ (.inr (.inl rfl))
    · rcases List.mem_append.1 hj with hj | hj
      · exact h.lo _ (.inr (.inr (List.mem_of_mem_drop hj)))
      · have := hR.hi j hj
        omega

theorem scroll_own {w wc w3 : World} {g rb W k : Nat} {bs nb : List Nat} (hs : w.heap.size ≤ wc.heap.size) (hR : RowsNew wc w3 W k nb) (j : Nat) (hj : GrOwn g rb (bs.drop k ++ nb) j) : GrOwn g rb bs j ∨ w.heap.size ≤ j := by
  rcases hj with h | h | h
  · exact .inl (.inl h)
  · exact .inl (.inr (.inl h))
  · rcases List.mem_append.1 h with h | h
    · exact .inl (.inr (.inr (List.mem_of_mem_drop h)))
    · have := hR.hi j h
      exact .inr (by omega)
theorem scroll_chg {w wc w3 w4 : World} {g rb W k : Nat} {bs nb : List Nat} (hcx : Chg (one rb) w wc) (hR : RowsNew wc w3 W k nb) (hc : Chg (one rb) w3 w4) : Chg (GrOwn g rb bs) w w4 :=
  ((hcx.trans (Chg.of_below (S := one rb) hR.bel) (fun _ h => .inl h)).trans hc (fun _ h => .inl h)).mono (fun j e => .inl (.inr (.inl e)))

set_option maxRecDepth 100000 in
set_option maxHeartbeats 4000000 in
theorem scroll_ok {w : World} {lo g rb W : Nat} {bs : List Nat} {L : List (List Cl)} (h : GrAt w lo g rb bs W L) (hT : BlankT w) (hlo : 0 < lo) (hlo2 : lo ≤ w.heap.size) (n : Int) (hn0 : -9223372036854775808 ≤ n) (hn1 : n ≤ 9223372036854775807) :
    Calls Tryz.prog 104 #[.pointer (some ⟨g, 0, none⟩), .int .i64 n] w fun e w' => e = .returned (.int .i64 (scrollN L.length n)) ∧
      ∃ bs', GrAt w' lo g rb bs' W (scrollM W L n) ∧ (∀ k, GrOwn g rb bs' k → GrOwn g rb bs k ∨ w.heap.size ≤ k) ∧ Chg (GrOwn g rb bs) w w' := by
  have hh1 := h.h1
  have hh5 := h.h5
  have hw1 := h.w1
  have hw5 := h.w5
  have hk0 : scrollN L.length n ≤ L.length := by unfold scrollN; omega
  obtain ⟨k, hkk⟩ : ∃ k, scrollN L.length n = k := ⟨_, rfl⟩
  have hM : scrollM W L n = L.drop k ++ List.replicate k (List.replicate W bl) := by unfold scrollM; rw [hkk]
  rw [hM, hkk]
  rw [hkk] at hk0
  have hkd : (min (max n 0) (L.length : Int)).toNat = k := hkk
  have H := Lib.hid h
  have HT := Lib.hid hT
  have HK := Lib.hid hkd
  clear h hT hM hkk hkd
  by_cases hz : k = 0
  · subst hz
    have hn : n ≤ 0 := by have := HK.out; omega
    have hfin : GrAt w lo g rb bs W (L.drop 0 ++ List.replicate 0 (List.replicate W bl)) := by simpa using H.out
    have HF := Lib.hid hfin
    clear hfin
    go_enter Tryz.func104, Tryz.ntmps104
    go_wp2_with (go_at_call 33; refine (size_any H.out).mono ?_; rintro e w' ⟨rfl, q, rfl⟩)
    all_goals
      first
        | (exfalso; omega)
        | (go_ret
           exact ⟨rfl, bs, HF.out.drewN q, fun _ h => .inl h, (Chg.refl _ _).drewN q⟩)
  · have hn : 1 ≤ n := by have := HK.out; omega
    have hkn : True := trivial
    have hke : ((k : Int) == 0) = false := by simp; omega
    obtain ⟨d, hd⟩ : ∃ d, d + k = L.length := ⟨L.length - k, by omega⟩
    have hdl : d < L.length := by omega
    -- behind the first copy
    have hrl : (bs.map (rowV W)).length = L.length := by rw [List.length_map, H.out.len]
    have hdr : ((bs.drop k).map (rowV W)).length = d := by rw [List.length_map, List.length_drop, H.out.len]; omega
    have HRL := Lib.hid hrl
    have HDR := Lib.hid hdr
    have hsp1 : splice (bs.map (rowV W)) 0 ((bs.drop k).map (rowV W)) = (bs.drop k).map (rowV W) ++ (bs.map (rowV W)).drop d := by
      unfold splice; rw [hdr]; simp
    have HSP1 := Lib.hid hsp1
    have hsp2 : ∀ nb : List Nat, nb.length = k → splice ((bs.drop k).map (rowV W) ++ (bs.map (rowV W)).drop d) d (nb.map (rowV W)) = (bs.drop k ++ nb).map (rowV W) := fun nb hnb => by
      have e0 : ((bs.drop k).map (rowV W) ++ (bs.map (rowV W)).drop d).drop (d + k) = [] := List.drop_eq_nil_of_le (by rw [List.length_append, hdr, List.length_drop, hrl]; omega)
      unfold splice
      rw [List.take_left' hdr, List.length_map, hnb, e0, List.append_nil, List.map_append]
    have HSP2 := Lib.hid hsp2
    have hlen1 : ((bs.drop k).map (rowV W) ++ (bs.map (rowV W)).drop d).length = L.length := by rw [List.length_append, hdr, List.length_drop, hrl]; omega
    have HLEN1 := Lib.hid hlen1
    have hs := H.out.rws
    have HRB := Lib.hid H.out.rows
    have hsrc : ∀ (j : Nat) v, ((bs.drop k).map (rowV W))[j]? = some v → w.cell? ((⟨rb, k, none⟩ : Addr).add j) = some v := fun j v hv => by
      rw [Addr.add_mid, H.out.rows.cell, List.getElem?_map]
      rw [List.getElem?_map, List.getElem?_drop] at hv
      exact hv
    have HSRC := Lib.hid hsrc
    clear hrl hdr hsp1 hsp2 hsrc hlen1
    have hmax : max n 0 = n := by omega
    have hmin : min n (L.length : Int) = (k : Int) := by have := HK.out; omega
    have hk00 : 0 ≤ (k : Int) := by omega
    have hkle : (k : Int) ≤ L.length := by omega
    clear hkn hn0 hn1 hn
    by_cases hkl : k < L.length
    · have hkli : (k : Int) < L.length := by omega
      have hne : ¬ L.length = k := by omega
      go_enter Tryz.func104, Tryz.ntmps104
      go_wp2_with (go_at_call 33; refine (size_any H.out).mono ?_; rintro e w' ⟨rfl, q, rfl⟩)
      go_upto_region 5 with fail
      go_cut [7] (fun s7 wx => s7 = .int .i64 d ∧ Blk wx rb 78 ((bs.drop k).map (rowV W) ++ (bs.map (rowV W)).drop d) ∧ Chg (one rb) w wx)
      case first =>
        go_region_law (refine step_copy_k rfl (.tmp 22) (.tmp 28) _ _ rfl 78 1 Tryz.underlying88 sl_size (some ⟨rb, 0, none⟩) (some ⟨rb, k, none⟩) L.length L.length (L.length - k) (L.length - k) (by simp [Act.eval, Act.put]) (by simp [Act.eval, Act.put]) rb 0 78 (bs.map (rowV W)) HRB.out ((bs.drop k).map (rowV W)) d (by show d = min (L.length - k) L.length; omega) (by have := HDR.out; omega) (fun _ => ⟨rfl, _, rfl, HSRC.out⟩) (by rw [HDR.out, HRL.out]; omega) (rowV_one W _) ?_; intro w4 hn4 hg4)
        all_goals
          simp only [Act.put]
          go_simp
          go_wp2_with fail
          go_meet
        all_goals
          rw [HSP1.out] at hn4
          exact ⟨rfl, hn4, ((Chg.refl (one rb) w).drewN _).trans (chg_of_grown hg4) (fun _ h => .inl h)⟩
      case rest =>
        obtain ⟨rfl, hbx, hcx⟩ := hcut
        have HBX := Lib.hid hbx
        have HCX := Lib.hid hcx
        have h4s : wc.cell? ⟨g, 1, none⟩ = some (.slice (some ⟨rb, 0, none⟩) L.length L.length) := hcx.cell hs (fun e => H.out.head.ne_ H.out.rows (by decide) e)
        have HT4 := Lib.hid (HT.out.chg hcx (fun e => by have := H.out.lo rb (.inr (.inl rfl)); have e' : 0 = rb := e; omega))
        have HGS := Lib.hid (Nat.lt_of_lt_of_le H.out.head.lt hcx.size)
        have hRS := hbx.lt
        have hdi : (d : Int) < L.length := by omega
        have hdi0 : 0 ≤ (d : Int) := by omega
        have hdi1 : (d : Int) ≤ L.length := by omega
        have hdne : ¬ L.length = d := by omega
        clear hbx hcx
        go_wp2_with fail
        go_region_law (first
          | (refine step_call rfl 45 _ _ rfl enters_blankRows #[.int .i64 W, .int .i64 k] (by simp [Act.eval, Act.put]) (blankRows_any W k hw1 hw5 (by omega) (by omega) _ HT4.out) ?_; rintro e w5 ⟨rfl, nb, hR⟩; refine ⟨_, rfl, ?_⟩; have h5s : w5.cell? ⟨g, 1, none⟩ = some (.slice (some ⟨rb, 0, none⟩) L.length L.length) := (hR.bel.cell (p := ⟨g, 1, none⟩) HGS.out).trans h4s; have HR := Lib.hid hR.undrew; clear hR)
          | (refine step_copy_k rfl (.tmp 35) (.tmp 38) _ _ rfl 78 1 Tryz.underlying88 sl_size (some ⟨rb, d, none⟩) (some ⟨wc.heap.size, 0, none⟩) (L.length - d) (L.length - d) k k (by simp [Act.eval, Act.put]) (by simp [Act.eval, Act.put]) rb d 78 _ (HBX.out.below HR.out.bel hRS) (nb.map (rowV W)) k (by show k = min k (L.length - d); omega) (by rw [List.length_map, HR.out.len]; omega) (fun _ => ⟨rfl, _, rfl, fun j v hv => by rw [Addr.add_mid, Nat.zero_add]; exact (HR.out.rows.cell j).trans hv⟩) (by rw [List.length_map, HR.out.len, HLEN1.out]; omega) (rowV_one W _) ?_; intro w6 hn6 hg6))
        all_goals
          (try simp only [Act.put])
          go_simp
          go_wp2
          go_ret
          rw [HSP2.out nb HR.out.len] at hn6
          exact ⟨rfl, bs.drop k ++ nb, H.out.scroll hk0 HCX.out HR.out hlo2 (chg_of_grown hg6) hn6, fun j hj => scroll_own HCX.out.size HR.out j hj, scroll_chg HCX.out HR.out (chg_of_grown hg6)⟩
    · obtain rfl : k = L.length := by omega
      obtain rfl : d = 0 := by omega
      go_enter Tryz.func104, Tryz.ntmps104
      go_wp2_with (go_at_call 33; refine (size_any H.out).mono ?_; rintro e w' ⟨rfl, q, rfl⟩)
      go_upto_region 5 with fail
      go_cut [7] (fun s7 wx => s7 = .int .i64 0 ∧ Blk wx rb 78 ((bs.drop L.length).map (rowV W) ++ (bs.map (rowV W)).drop 0) ∧ Chg (one rb) w wx)
      case first =>
        go_region_law (refine step_copy_k rfl (.tmp 22) (.tmp 28) _ _ rfl 78 1 Tryz.underlying88 sl_size (some ⟨rb, 0, none⟩) (some ⟨rb, 0, none⟩) L.length L.length (L.length - L.length) (L.length - L.length) (by simp [Act.eval, Act.put]) (by simp [Act.eval, Act.put]) rb 0 78 (bs.map (rowV W)) HRB.out ((bs.drop L.length).map (rowV W)) 0 (by show 0 = min (L.length - L.length) L.length; omega) (by have := HDR.out; omega) (fun h => by omega) (by rw [HDR.out, HRL.out]; omega) (rowV_one W _) ?_; intro w4 hn4 hg4)
        all_goals
          simp only [Act.put]
          go_simp
          go_wp2_with fail
          go_meet
        all_goals
          rw [HSP1.out] at hn4
          exact ⟨rfl, hn4, ((Chg.refl (one rb) w).drewN _).trans (chg_of_grown hg4) (fun _ h => .inl h)⟩
      case rest =>
        obtain ⟨rfl, hbx, hcx⟩ := hcut
        have HBX := Lib.hid hbx
        have HCX := Lib.hid hcx
        have h4s : wc.cell? ⟨g, 1, none⟩ = some (.slice (some ⟨rb, 0, none⟩) L.length L.length) := hcx.cell hs (fun e => H.out.head.ne_ H.out.rows (by decide) e)
        have HT4 := Lib.hid (HT.out.chg hcx (fun e => by have := H.out.lo rb (.inr (.inl rfl)); have e' : 0 = rb := e; omega))
        have HGS := Lib.hid (Nat.lt_of_lt_of_le H.out.head.lt hcx.size)
        have hRS := hbx.lt
        have hdi : (0 : Int) < L.length := by omega
        have hdi0 : 0 ≤ (0 : Int) := by omega
        have hdi1 : (0 : Int) ≤ L.length := by omega
        have hdne : ¬ L.length = 0 := by omega
        clear hbx hcx
        go_wp2_with fail
        go_region_law (first
          | (refine step_call rfl 45 _ _ rfl enters_blankRows #[.int .i64 W, .int .i64 L.length] (by simp [Act.eval, Act.put]) (blankRows_any W L.length hw1 hw5 (by omega) (by omega) _ HT4.out) ?_; rintro e w5 ⟨rfl, nb, hR⟩; refine ⟨_, rfl, ?_⟩; have h5s : w5.cell? ⟨g, 1, none⟩ = some (.slice (some ⟨rb, 0, none⟩) L.length L.length) := (hR.bel.cell (p := ⟨g, 1, none⟩) HGS.out).trans h4s; have HR := Lib.hid hR.undrew; clear hR)
          | (refine step_copy_k rfl (.tmp 35) (.tmp 38) _ _ rfl 78 1 Tryz.underlying88 sl_size (some ⟨rb, 0, none⟩) (some ⟨wc.heap.size, 0, none⟩) (L.length - 0) (L.length - 0) L.length L.length (by simp [Act.eval, Act.put]) (by simp [Act.eval, Act.put]) rb 0 78 _ (HBX.out.below HR.out.bel hRS) (nb.map (rowV W)) L.length (by show L.length = min L.length (L.length - 0); omega) (by rw [List.length_map, HR.out.len]; omega) (fun _ => ⟨rfl, _, rfl, fun j v hv => by rw [Addr.add_mid, Nat.zero_add]; exact (HR.out.rows.cell j).trans hv⟩) (by rw [List.length_map, HR.out.len, HLEN1.out]; omega) (rowV_one W _) ?_; intro w6 hn6 hg6))
        all_goals
          (try simp only [Act.put])
          go_simp
          go_wp2
          go_ret
          rw [HSP2.out nb HR.out.len] at hn6
          exact ⟨rfl, bs.drop L.length ++ nb, H.out.scroll hk0 HCX.out HR.out hlo2 (chg_of_grown hg6) hn6, fun j hj => scroll_own HCX.out.size HR.out j hj, scroll_chg HCX.out HR.out (chg_of_grown hg6)⟩
end Go.Proofs.YtfmkeeaenjeneaaGreatDoor

