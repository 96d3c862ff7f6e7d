/-
  Walk: stand.
-/
import Derived.Test.YtjdfajgjejpfeaaGreatDoorGpFew
namespace Go.Proofs.YtjdfajgjejpfeaaGreatDoor
open Go.RowKit
set_option linter.unusedVariables false
set_option linter.unusedSimpArgs false

/-- are the texts the clusters from a place on? -/
def standB (line l : List (List UInt8)) (a : Nat) : Bool := decide ((line.drop a).take l.length = l)
theorem stand_len {line l : List (List UInt8)} {a : Nat} (h : standB line l a = true) : l.length ≤ line.length - a := by
  have e : (line.drop a).take l.length = l := of_decide_eq_true h
  have := congrArg List.length e
  rw [List.length_take, List.length_drop] at this
  omega
theorem str_ne {a b : List UInt8} (h : a ≠ b) : (⟨a.toArray⟩ : ByteArray) ≠ ⟨b.toArray⟩ := fun e => h (by injection e with e; exact List.toArray_inj e)

set_option maxRecDepth 100000 in
set_option maxHeartbeats 4000000 in
theorem stand_any {w : World} {lo g n C most f t : Nat} {A : Option Addr} {p s : List (List UInt8)} (h : GpAt w lo g A n C most f t p s) (l : List (List UInt8)) (X : Option Addr) (m d : Nat) (hm : m = l.length) (hm5 : m ≤ 1000000) (hX : Sl w w.heap.size X (sv l)) (a : Nat) (ha : a < ln p s) :
    Calls Tryz.prog 56 #[.pointer (some ⟨g, 0, none⟩), .slice X m d, .int .i64 a] w fun e w' => e = .returned (.bool (standB (p ++ s) l a)) ∧ Below w.heap.size w w' := by
  have hl4 : ln p s ≤ 4096 := by have := h.ln_le; have := h.m4; omega
  have H := Lib.hid h
  have HM := Lib.hid hm
  have HX := Lib.hid hX
  have hll : (p ++ s).length = ln p s := (ln_eq p s).symm
  have hat := fun (w1 : World) (h1 : GpAt w1 lo g A n C most f t p s) (i : Nat) (c : List UInt8) hc => gat_yes h1 i c hc
  have hlen := fun (w1 : World) (h1 : GpAt w1 lo g A n C most f t p s) => glen_any h1
  generalize ln p s = L at *
  generalize p ++ s = line at *
  have HAT := Lib.hid hat
  have HLEN := Lib.hid hlen
  have HLL := Lib.hid hll
  have hLa : ((L - a : Nat) : Int) = (L : Int) - a := by omega
  clear h hm hX hat hlen hll
  by_cases hbig : L - a < m
  · have hf : standB line l a = false := by
      cases hs : standB line l a with
      | false => rfl
      | true => have := stand_len hs; have := HM.out; have := HLL.out; omega
    have HF := Lib.hid hf
    have hbi : (m : Int) > (L : Int) - a := by omega
    clear hf hbig hLa
    go_enter Tryz.func56, Tryz.ntmps56
    go_wp2_with (fail)
    refine (HLEN.out _ H.out).mono ?_
    rintro e w1 ⟨rfl, hb1⟩
    go_wp2_with (fail)
    go_ret
    exact ⟨ret_bool (by rw [HF.out]), hb1⟩
  · have hbi : ¬ ((m : Int) > (L : Int) - a) := by omega
    have hml : a + m ≤ L := by omega
    clear hbig hLa
    go_enter Tryz.func56, Tryz.ntmps56
    go_wp2_with (fail)
    refine (HLEN.out _ H.out).mono ?_
    rintro e w1 ⟨rfl, hb1⟩
    have HB1 := Lib.hid hb1
    clear hb1
    go_wp2_with (fail)
    go_loopw [20] (fun v wr => ∃ k : Nat, v = .int .i64 k ∧ k ≤ m ∧ (line.drop a).take k = l.take k ∧ Below w.heap.size w wr) (fun v _ => m - (intOf v).toNat)
    case atStart => exact ⟨0, rfl, by omega, by simp, HB1.out⟩
    case round =>
      obtain ⟨k, rfl, hk, heq, hb⟩ := hrel
      have HEQ := Lib.hid heq
      have HB := Lib.hid hb
      clear heq hb
      by_cases hlt : k < m
      · have hki : (k : Int) < m := by omega
        have hkl : k < l.length := by have := HM.out; omega
        have hal : a + k < line.length := by have := HLL.out; omega
        obtain ⟨b, off, rfl, hbb, hcell⟩ := sv_at HX.out hkl
        have hcr := (HB.out.cell (p := ⟨b, off + k, none⟩) hbb).trans hcell
        have hts : l.take (k + 1) = l.take k ++ [l[k]] := List.take_succ_eq_append_getElem hkl
        have htl : (line.drop a).take (k + 1) = (line.drop a).take k ++ [line[a + k]] := by
          rw [List.take_succ_eq_append_getElem (by rw [List.length_drop]; omega)]
          congr 2
          rw [List.getElem_drop]
        have hga : line[a + k]? = some line[a + k] := List.getElem?_eq_getElem hal
        have hlk : l[k]? = some l[k] := List.getElem?_eq_getElem hkl
        have hdk : (line.drop a)[k]? = some line[a + k] := by rw [List.getElem?_drop]; exact hga
        generalize l[k] = tx at hcr hts hlk
        generalize line[a + k] = cl at htl hga hdk
        have hcall := HAT.out _ (H.out.below HB.out) (a + k) cl hga
        have HCALL := Lib.hid hcall
        have HTS := Lib.hid hts
        have HTL := Lib.hid htl
        have hak : ((a + k : Nat) : Int) = (a : Int) + k := by omega
        have HAK := Lib.hid hak
        have hki2 : (a : Int) + k ≤ 4096 := by omega
        have HLK := Lib.hid hlk
        have HDK := Lib.hid hdk
        have hcm := hcr
        clear hcell hts htl hga hcall hak hlk hdk hcm
        by_cases hct : cl = tx
        · subst hct
          go_wp2_with (fail)
          rw [← HAK.out]
          refine HCALL.out.mono ?_
          rintro e w2 ⟨rfl, hb2⟩
          go_wp2_with (fail)
          go_roundw
          case rel => exact ⟨k + 1, by go_num, by omega, by rw [HTL.out, HTS.out, HEQ.out], HB.out.trans (hb2.mono HB.out.size)⟩
          case measure => simp [intOf]; omega
        · have hne := str_ne hct
          have hbe : (cl == tx) = false := by rw [beq_eq_false_iff_ne]; exact hct
          have hf : standB line l a = false := by
            unfold standB
            rw [decide_eq_false_iff_not]
            intro e
            have h1 := congrArg (fun q => q[k]?) e
            rw [List.getElem?_take, if_pos (by have := HM.out; omega), HDK.out, HLK.out] at h1
            injection h1 with h1
            exact hct h1
          have HF := Lib.hid hf
          clear hf hct
          go_wp2_with (fail)
          rw [← HAK.out]
          refine HCALL.out.mono ?_
          rintro e w2 ⟨rfl, hb2⟩
          go_wp2_with (fail)
          go_ret
          exact ⟨ret_bool (by rw [HF.out]), HB.out.trans (hb2.mono HB.out.size)⟩
      · have hki : ¬ (k : Int) < m := by omega
        have hkm : k = m := by omega
        have ht : standB line l a = true := by
          unfold standB
          rw [decide_eq_true_iff, ← HM.out, ← hkm, HEQ.out, List.take_of_length_le (by have := HM.out; omega)]
        have HTT := Lib.hid ht
        clear ht hkm
        go_wp2_with (fail)
        go_ret
        exact ⟨ret_bool (by rw [HTT.out]), HB.out⟩
end Go.Proofs.YtjdfajgjejpfeaaGreatDoor
