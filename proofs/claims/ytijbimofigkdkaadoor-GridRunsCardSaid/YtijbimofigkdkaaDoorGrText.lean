/-
  Walk: Text.
-/
import Derived.Test.YtijbimofigkdkaaDoorGrMem
import Derived.Test.YtijbimofigkdkaaDoorStrB
namespace Go.Proofs.YtijbimofigkdkaaDoor
open Go.RowKit
set_option linter.unusedVariables false
set_option linter.unusedSimpArgs false

theorem IsB.bel {T e : TypeId} {B b : Nat} {bs : List Value} {w w' : World} (h : Lib.IsBuilder T e B b bs w) (hb : Below w.heap.size w w') : Lib.IsBuilder T e B b bs w' := by
  have one : ∀ p, Lib.BuilderAt T e B b p bs w → Lib.BuilderAt T e B b p bs w' := fun p h => by
    obtain ⟨h1, v, h2, h3, h4⟩ := h
    exact ⟨h1, v, (hb.block b (Array.getElem?_eq_some_iff.1 h2).1).trans h2, h3.kept (row := none) (grown_of_below hb) (by cases h : v.ownBlock <;> simp), h4⟩
  rcases h with h | h
  · exact .inl (one _ h)
  · exact .inr (one _ h)

/-- the texts of cells, one behind the other -/
def flatS (l : List Cl) : List UInt8 := l.flatMap (·.s)
theorem flatS_le {l : List Cl} (h : ∀ c ∈ l, c.s.length ≤ 64) : (flatS l).length ≤ l.length * 64 := by
  induction l with
  | nil => simp [flatS]
  | cons c l ih =>
    have := ih (fun d hd => h d (by simp [hd]))
    have := h c (by simp)
    simp only [flatS, List.flatMap_cons, List.length_append, List.length_cons] at *
    omega
theorem flatS_snoc {l : List Cl} {k : Nat} {c : Cl} (h : l[k]? = some c) : flatS (l.take (k + 1)) = flatS (l.take k) ++ c.s := by
  have hk : k < l.length := (List.getElem?_eq_some_iff.1 h).1
  rw [List.take_succ_eq_append_getElem hk]
  rw [List.getElem?_eq_getElem hk] at h
  injection h with h
  rw [h]
  simp [flatS]
def textM (l : List Cl) : List UInt8 := Lib.trimRightB (flatS l) 32
theorem Wf.mem {l : List Cl} (h : Wf l) : ∀ c ∈ l, c.s.length ≤ 64 := fun c hc => by
  obtain ⟨i, hi⟩ := List.getElem?_of_mem hc
  exact h.short i c hi

set_option maxRecDepth 100000 in
set_option maxHeartbeats 4000000 in
theorem text_yes {w : World} {lo g rb W : Nat} {bs : List Nat} {L : List (List Cl)} (h : GrAt w lo g rb bs W L) (row : Nat) (l : List Cl) (hl : L[row]? = some l) :
    Calls Tryd.prog 26 #[.pointer (some ⟨g, 0, none⟩), .int .i64 row] w fun e w' => e = .returned (.string ⟨(textM l).toArray⟩) ∧ Below w.heap.size w w' := by
  have hr : row < L.length := (List.getElem?_eq_some_iff.1 hl).1
  have hw5 := h.w5
  have hw1 := h.w1
  have hh5 := h.h5
  have hri : (row : Int) < L.length := by omega
  obtain ⟨hlen, hwf⟩ := h.some_at hl
  have HIN := Lib.hid (show inB row 0 W L.length = true by unfold inB; simp; omega)
  have HS := Lib.hid (fun k => flatS_le (l := l.take k) (fun c hc => hwf.mem c (List.mem_of_mem_take hc)))
  have HSH := Lib.hid hwf.short
  have H := Lib.hid h
  have HL := Lib.hid hl
  have HLEN := Lib.hid hlen
  clear h hl hlen hwf
  go_enter Tryd.func26, Tryd.ntmps26
  go_wp2_with (fail)
  refine (has_bel H.out row 0).mono ?_
  rintro e w1 ⟨rfl, hb1⟩
  rw [HIN.out]
  have H1 := Lib.hid (H.out.below hb1)
  have HB1 := Lib.hid hb1
  have HA1 : Hid (Below w1.heap.size w1 (w1.alloc (.cells #[.pointer none, .slice none 0 0] 96))) := (Below.refl _ _).alloc (Nat.le_refl _) _
  have HF := Lib.hid (Lib.fresh_isBuilder 96 5 w1)
  have hs1 := (H1.out.below HA1.out).rws
  obtain ⟨b, l', hbi, hl', hrv, hlen', hwf', hb⟩ := (H1.out.below HA1.out).at_ hr
  obtain rfl : l' = l := by have := HL.out; rw [this] at hl'; injection hl' with hl'; exact hl'.symm
  unfold rowV at hrv
  have HBB := Lib.hid (H1.out.own_lt b (.inr (.inr (List.mem_of_getElem? hbi))))
  have HB := Lib.hid hb
  clear hb1 hl' hlen' hwf' hb hbi
  go_wp2_with (fail)
  go_loopw [20] (fun v20 wr => ∃ k : Nat, v20 = .int .i64 k ∧ k ≤ W ∧ Lib.IsBuilder 96 5 w1.heap.size w1.heap.size (Lib.byteCells (flatS (l'.take k))) wr ∧ Below w1.heap.size w1 wr ∧ w1.heap.size + 1 ≤ wr.heap.size) (fun v20 _ => W - (intOf v20).toNat)
  case atStart => exact ⟨0, rfl, by omega, by simpa [flatS, Lib.byteCells] using HF.out, HA1.out, by simp⟩
  case round =>
    obtain ⟨k, rfl, hk, hI, hbel, hsz⟩ := hrel
    have HI := Lib.hid hI
    have HBE := Lib.hid hbel
    clear hI hbel
    by_cases hlt : k < W
    · have hki : (k : Int) < W := by omega
      have hc : l'[k]? = some (l'[k]'(by have := HLEN.out; omega)) := List.getElem?_eq_getElem _
      generalize l'[k]'(by have := HLEN.out; omega) = c at hc
      have hbl : b < w1.heap.size := HBB.out
      have hbr : Blk wr b 51 (rc l') := by
        have e1 := HB.out
        unfold Blk at e1 ⊢
        rw [HBE.out.block b hbl, ← HA1.out.block b hbl]
        exact e1
      have HBR := Lib.hid hbr
      have HC := Lib.hid hc
      have HN := Lib.hid (Blk.new wr 51 czero.cells)
      have hlk : (flatS (l'.take k)).length ≤ 32000 := by
        have h1 := HS.out k
        have h2 : (l'.take k).length ≤ k := List.length_take_le _ _
        omega
      have HLK := Lib.hid hlk
      have HC64 := Lib.hid (HSH.out k c hc)
      have hsz2 : (⟨c.s.toArray⟩ : ByteArray).size = c.s.length := by show c.s.toArray.size = _; simp
      have HSZ2 := Lib.hid hsz2
      have hfs : Lib.byteCells (flatS (l'.take k)) ++ Lib.strCells ⟨c.s.toArray⟩ = Lib.byteCells (flatS (l'.take (k + 1))) := by
        rw [flatS_snoc hc]; simp [Lib.byteCells, Lib.strCells]
      have HFS := Lib.hid hfs
      clear hsz2 hfs
      clear hc hbr hlk hbl
      go_wp2_with (first
        | ((with_reducible refine at_dst 23 ?_); refine wpList_load_mid rfl _ _ rfl b (k * 7) rfl c.cells _ (c.range HBR.out HC.out) Tryd.underlying51 rfl cl_size ?_)
        | ((with_reducible refine at_store 7 ?_); refine wpList_store_blk rfl _ _ _ rfl rfl wr.heap.size 0 _ czero.cells c.cells rfl rfl HN.out (by simp [Cl.len]) cl_size c.one ?_; intro w3 hn3 hg3; have hn3' : Blk w3 wr.heap.size 51 c.cells := hn3; have hcell : w3.cell? ⟨wr.heap.size, 0, none⟩ = some (.string ⟨c.s.toArray⟩) := hn3'.cell 0; have hb3 : Below wr.heap.size wr w3 := ((Below.refl _ _).alloc (Nat.le_refl _) _).grown hg3 (by simp) (fun j hj => by injection hj with hj; omega); have HI3 := Lib.hid (IsB.bel HI.out hb3); have HB3 := Lib.hid hb3; clear hn3 hn3' hg3 hb3)
        | (go_at_call 47; refine (wstr_any w1.heap.size w1.heap.size _ _ w3 HI3.out (by have := HLK.out; have := HC64.out; have := HSZ2.out; simp only [Lib.byteCells, List.length_map]; omega) (by have := HB3.out.size; omega)).mono ?_; rintro e w4 ⟨rfl, hI4, hb4⟩; rw [HFS.out] at hI4; have HI4 := Lib.hid hI4; have HB4 := Lib.hid hb4; clear hI4 hb4))
      go_roundw
      case rel => exact ⟨k + 1, by go_num, by omega, HI4.out, (HBE.out.trans (HB3.out.mono HBE.out.size)).trans HB4.out, by have := HB3.out.size; have := HB4.out.size; omega⟩
      case measure => simp [intOf]; omega
    · have hki : ¬ (k : Int) < W := by omega
      obtain rfl : k = W := by omega
      have HI' : Hid (Lib.IsBuilder 96 5 w1.heap.size w1.heap.size (Lib.byteCells (flatS l')) wr) := by have := HI.out; rw [List.take_of_length_le (by have := HLEN.out; omega)] at this; exact this
      have hfl : (flatS l').length ≤ 32000 := by
        have h1 := HS.out k
        rw [List.take_of_length_le (by have := HLEN.out; omega)] at h1
        have := HLEN.out
        omega
      have hsz3 : (⟨(flatS l').toArray⟩ : ByteArray).size = (flatS l').length := by show (flatS l').toArray.size = _; simp
      have HSZ3 := Lib.hid hsz3
      have HFL := Lib.hid hfl
      clear hfl hsz3
      go_wp2_with (first
        | (go_at_call 49; refine (sh_Builder_String_any w1.heap.size w1.heap.size (flatS l') wr HI'.out (by omega)).mono ?_; rintro e w5 ⟨rfl, hb5⟩)
        | (go_at_call 48; refine (sh_strings_TrimRight_one ⟨(flatS l').toArray⟩ 32 (by decide) w5 (by have := HSZ3.out; have := HFL.out; omega)).mono ?_; rintro e w6 ⟨rfl, rfl⟩))
      go_ret
      exact ⟨rfl, HB1.out.trans ((HBE.out.trans hb5).mono HB1.out.size)⟩
end Go.Proofs.YtijbimofigkdkaaDoor
