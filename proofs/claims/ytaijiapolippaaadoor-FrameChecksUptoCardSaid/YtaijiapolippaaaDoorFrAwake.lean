/-
  Walks: the law's awake.
-/
import Derived.Test.YtaijiapolippaaaDoorFrText
import Derived.Test.YtaijiapolippaaaDoorFrFrame
import Derived.Test.YtaijiapolippaaaDoorFrCheck
import Derived.Test.YtaijiapolippaaaDoorFrLine
namespace Go.Proofs.YtaijiapolippaaaDoor
open Go.RowKit
set_option linter.unusedVariables false
set_option linter.unusedSimpArgs false

def awR : List Cl := [bl, ⟨[228, 184, 173], 2, Sty.zero⟩, tail_ Sty.zero, ⟨[120], 1, Sty.zero⟩]
def awL : List (List Cl) := [awR]
theorem aw_txt : ftxt 4 (blankG 4 1) 0 1 [228, 184, 173, 120, 121] Sty.zero = (awL, 4, 0) := by decide +kernel
theorem aw_val : fvalB awL 0 0 = true := by decide +kernel
theorem aw_size : fsizeB 0 1 = false := by decide
theorem aw_line : lineM awR = [32, 228, 184, 173, 120] := by decide
theorem aw_short : ∀ l ∈ awL, l.length ≤ 100000 ∧ ∀ x ∈ l, x.s.length ≤ 2000000 := by decide
theorem frow0 {w : World} {D : Nat → Prop} {A : Option Addr} {c : Nat} {L : List (List Cl)} (h : RfAt w D A c L) {i : Nat} {l : List Cl} (hl : L[i]? = some l) :
    ∃ b off Ai ci, A = some ⟨b, off, none⟩ ∧ b < w.heap.size ∧ w.cell? ⟨b, off + i, none⟩ = some (.slice Ai l.length ci) ∧ Sl w w.heap.size Ai (rc l) := by
  obtain ⟨b, off, Ai, ci, h1, h2, h3, _, h5⟩ := h.at_ hl
  exact ⟨b, off, Ai, ci, h1, h2, h3, h5.sl⟩

set_option maxRecDepth 100000 in
set_option maxHeartbeats 8000000 in
theorem fawake_any (w : World) (hT : BlankT w) (hTab : Tabs w) :
    Calls Tryd.prog 43 #[] w fun e w' => e = .returned (.bool true) ∧ Below w.heap.size w w' := by
  have HN := Lib.hid (fnew_ok 4 1 (by omega) (by omega) (by omega) (by omega) w hT)
  have HT := Lib.hid hT
  have HTB := Lib.hid hTab
  clear hT hTab
  go_enter Tryd.func43, Tryd.ntmps43
  go_wp2_with (go_at_call 72; refine HN.out.mono ?_; rintro e w1 ⟨b, g, rb, bs, rfl, hbd, hb1⟩)
  have htx := ftext_any hbd (HT.out.bel hb1) (HTB.out.below hb1) ⟨HT.out.2, HTB.out.mg, HTB.out.wg⟩ 0 1 [228, 184, 173, 120, 121] (by simp) Sty.zero
  rw [aw_txt] at htx
  simp only [Sty.cells, Sty.zero] at htx
  have HTX := Lib.hid htx
  have hlo : ∀ k, GrOwn g rb bs k → w.heap.size ≤ k := fun k hk => hbd.lo_le k (.inr hk)
  have HLO := Lib.hid hlo
  have HB1 := Lib.hid hb1
  clear htx hlo hbd hb1 HN
  refine HTX.out.mono ?_
  rintro e w2 ⟨rfl, hbd2, hc2⟩
  have hb2 : Below w.heap.size w w2 := HB1.out.trans (hc2.below HB1.out.size HLO.out)
  have HB2 := Lib.hid hb2
  have HF := Lib.hid (fframe_any hbd2 (HT.out.bel hb2))
  clear hbd2 hc2 hb2
  go_wp2_with (fail)
  refine HF.out.mono ?_
  rintro e w3 ⟨A, c, rfl, hrf, hb3⟩
  have HB3 := Lib.hid (HB2.out.trans (hb3.mono HB2.out.size))
  clear hb3 HF HTX
  obtain ⟨b', off, Ai, ci, rfl, hbb, hcr, hsl⟩ := frow0 hrf (i := 0) (l := awR) rfl
  rw [Nat.add_zero, show awR.length = 4 from rfl] at hcr
  have HRF := Lib.hid hrf
  have HCR := Lib.hid hcr
  have HSL := Lib.hid hsl
  have HBB := Lib.hid hbb
  clear hrf hcr hsl hbb
  rw [show awL.length = 1 from rfl]
  go_wp2_with (fail)
  obtain ⟨w4, hw4⟩ : ∃ w4, w4 = w3.alloc (.cells #[.slice (some ⟨b', off, none⟩) 1 c, .int .i64 0, .int .i64 0, .bool false] 74) := ⟨_, rfl⟩
  have hb34 : Below w3.heap.size w3 w4 := by rw [hw4]; exact (Below.refl _ w3).alloc (Nat.le_refl _) _
  have hfr : Blk w4 w3.heap.size 74 [.slice (some ⟨b', off, none⟩) 1 c, .int .i64 0, .int .i64 0, .bool false] := by rw [hw4]; exact Blk.new w3 _ _
  rw [← hw4]
  have hb4 := HB3.out.trans (hb34.mono HB3.out.size)
  refine (fnew_no 0 1 aw_size w4 (HT.out.bel hb4)).mono ?_
  rintro e w5 ⟨rfl, hb5⟩
  have hb35 := hb34.trans (hb5.mono hb34.size)
  have hfr5 := hfr.below hb5 hfr.lt
  have q0 := hfr5.cell 0
  have q1 := hfr5.cell 1
  have q2 := hfr5.cell 2
  have q3 := hfr5.cell 3
  simp only [List.getElem?_cons_zero, List.getElem?_cons_succ] at q0 q1 q2 q3
  have hcr5 : w5.cell? ⟨b', off, none⟩ = some (.slice Ai 4 ci) := (hb35.cell (p := ⟨b', off, none⟩) HBB.out).trans HCR.out
  have hln := rline_any awR 4 ci w3.heap.size Ai w5 rfl (by omega) (by rw [aw_line]; decide) (HSL.out.below hb35)
  rw [aw_line] at hln
  have hck := fcheck_any (HRF.out.below hb35) 0 0 false aw_short (by decide) (HTB.out.below (hb4.trans (hb5.mono hb4.size)))
  rw [aw_val, show awL.length = 1 from rfl] at hck
  have HLN := Lib.hid hln
  have HCK := Lib.hid hck
  have HB5 := Lib.hid (hb4.trans (hb5.mono hb4.size))
  clear hw4 hb34 hfr hb4 hb5 hb35 hfr5 hln hck
  go_wp2_with (first
    | (go_at_call 38; refine HLN.out.mono ?_; rintro e w' ⟨rfl, rfl⟩)
    | (go_at_call 39; refine HCK.out.mono ?_; rintro e w6 ⟨rfl, hb6⟩))
  go_ret
  exact ⟨rfl, HB5.out.trans (hb6.mono HB5.out.size)⟩
end Go.Proofs.YtaijiapolippaaaDoor
