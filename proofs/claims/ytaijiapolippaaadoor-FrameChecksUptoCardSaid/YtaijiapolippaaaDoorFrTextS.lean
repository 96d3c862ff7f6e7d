/-
  Walk: what stands in a row, by the program.
-/
import Derived.Test.YtaijiapolippaaaDoorFrLine
import Derived.Test.YtaijiapolippaaaDoorGfG
namespace Go.Proofs.YtaijiapolippaaaDoor
open Go.RowKit
set_option linter.unusedVariables false
set_option linter.unusedSimpArgs false

set_option maxRecDepth 100000 in
set_option maxHeartbeats 8000000 in
theorem frtext_any (l : List Cl) (n c B : Nat) (A : Option Addr) (w : World) (hn : n = l.length) (h5 : n ≤ 100000) (hs : (lineM l).length ≤ 140737488351232) (hA : Sl w B A (rc l)) (hB : B ≤ w.heap.size) :
    Calls Tryd.prog 97 #[.slice A n c] w fun e w' => e = .returned (.string ⟨(lineM l).toArray⟩) ∧ Below w.heap.size w w' := by
  have HN := Lib.hid hn
  have HA := Lib.hid (hA.more hB)
  have hle := lineM_take_le l
  have HLE := Lib.hid hle
  have HA1 : Hid (Below w.heap.size w (w.alloc (.cells #[.pointer none, .slice none 0 0] 197))) := (Below.refl _ _).alloc (Nat.le_refl _) _
  have HF := Lib.hid (Lib.fresh_isBuilder 197 5 w)
  clear hn hA hB hle
  go_enter Tryd.func97, Tryd.ntmps97
  go_wp2_with (fail)
  go_loopw [8] (fun v8 wr => ∃ k : Nat, v8 = .int .i64 k ∧ k ≤ n ∧ Lib.IsBuilder 197 5 w.heap.size w.heap.size (Lib.byteCells (lineM (l.take k))) wr ∧ Below w.heap.size w wr ∧ w.heap.size + 1 ≤ wr.heap.size) (fun v8 _ => n - (intOf v8).toNat)
  case atStart => exact ⟨0, rfl, by omega, by simpa [lineM, Lib.byteCells] using HF.out, HA1.out, by simp⟩
  case round =>
    obtain ⟨k, rfl, hk, hI, hbel, hsz⟩ := hrel
    have HI := Lib.hid hI
    have HBE := Lib.hid hbel
    clear hI hbel
    by_cases hlt : k < n
    · have hki : (k : Int) < n := by omega
      have hc : l[k]? = some (l[k]'(by have := HN.out; omega)) := List.getElem?_eq_getElem _
      generalize l[k]'(by have := HN.out; omega) = x at hc
      obtain ⟨b, off, rfl, hbb, hcx⟩ := HA.out.open_ (by rw [rc_length]; have := HN.out; omega)
      have hrg : wr.rangeAt b (off + k * 7) x.cells := fun j v hv => by
        rw [Nat.add_assoc]
        exact (HBE.out.cell (p := ⟨b, off + (k * 7 + j), none⟩) hbb).trans (hcx _ v (rc_get hc hv))
      have HRG := Lib.hid hrg
      have HNW := Lib.hid (Blk.new wr 123 czero.cells)
      have hsuc := lineM_take_succ hc
      have hlk : (lineM (l.take k)).length + x.s.length ≤ 140737488351232 := by
        have h1 := HLE.out (k + 1)
        rw [hsuc, List.length_append] at h1
        omega
      have HLK := Lib.hid hlk
      have hsz2 : (⟨x.s.toArray⟩ : ByteArray).size = x.s.length := by show x.s.toArray.size = _; simp
      have HSZ2 := Lib.hid hsz2
      have hfs : Lib.byteCells (lineM (l.take k)) ++ Lib.strCells ⟨x.s.toArray⟩ = Lib.byteCells (lineM (l.take (k + 1))) := by
        rw [hsuc]; simp [Lib.byteCells, Lib.strCells]
      have HFS := Lib.hid hfs
      clear hsz2 hfs hc hrg hlk hsuc hcx hbb
      go_wp2_with (first
        | ((with_reducible refine at_dst 11 ?_); refine wpList_load_mid rfl _ _ rfl b (off + k * 7) rfl x.cells _ HRG.out Tryd.underlying123 rfl cl_size ?_)
        | ((with_reducible refine at_store 5 ?_); refine wpList_store_blk rfl _ _ _ rfl rfl wr.heap.size 0 _ czero.cells x.cells rfl rfl HNW.out (by simp [Cl.len]) cl_size x.one ?_; intro w3 hn3 hg3; have hn3' : Blk w3 wr.heap.size 123 x.cells := hn3; have hcell : w3.cell? ⟨wr.heap.size, 0, none⟩ = some (.string ⟨x.s.toArray⟩) := hn3'.cell 0; have hb3 : Below wr.heap.size wr w3 := ((Below.refl _ _).alloc (Nat.le_refl _) _).grown hg3 (by simp) (fun j hj => by injection hj with hj; omega); have HI3 := Lib.hid (IsB.bel HI.out hb3); have HB3 := Lib.hid hb3; clear hn3 hn3' hg3 hb3)
        | (go_at_call 131; refine (wstr_any w.heap.size w.heap.size _ _ w3 HI3.out (by have := HLK.out; have := HSZ2.out; simp only [Lib.byteCells, List.length_map]; omega) (by have := HB3.out.size; omega)).mono ?_; rintro e w4 ⟨rfl, hI4, hb4⟩; rw [HFS.out] at hI4; have HI4 := Lib.hid hI4; have HB4 := Lib.hid hb4; clear hI4 hb4))
      go_roundw
      case rel => exact ⟨k + 1, by go_num, by omega, HI4.out, (HBE.out.trans (HB3.out.mono HBE.out.size)).trans HB4.out, by have := HB3.out.size; have := HB4.out.size; omega⟩
      case measure => simp [intOf]; omega
    · have hki : ¬ (k : Int) < n := by omega
      obtain rfl : k = n := by omega
      have HI' : Hid (Lib.IsBuilder 197 5 w.heap.size w.heap.size (Lib.byteCells (lineM l)) wr) := by have := HI.out; rw [List.take_of_length_le (by have := HN.out; omega)] at this; exact this
      go_wp2_with (go_at_call 132; refine (sh_Builder_String_any w.heap.size w.heap.size (lineM l) wr HI'.out (by omega)).mono ?_; rintro e w5 ⟨rfl, hb5⟩)
      go_ret
      exact ⟨rfl, HBE.out.trans hb5⟩
end Go.Proofs.YtaijiapolippaaaDoor
