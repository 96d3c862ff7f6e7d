/-
  Walks: placardlaw03.awake.
-/
import Derived.Test.YtmgakdbcgdhpaaaDoorClTold
namespace Go.Proofs.YtmgakdbcgdhpaaaDoor
open Go.RowKit
set_option linter.unusedVariables false

theorem aw_cut : (cls (rs [204, 129, 97, 204, 129, 7])).map eb = [[97, 204, 129]] := by decide +kernel
theorem aw_len : (cls (rs [204, 129, 97, 204, 129, 7])).length = 1 := by decide +kernel
theorem aw_width : fw (rs [97, 204, 129]) = 1 := by decide +kernel
theorem aw_cols : sumC (cls (rs [97, 228, 184, 173])) = 3 := by decide +kernel
theorem aw_flat : flatB [97, 9, 98] = [97, 32, 98] := by decide +kernel
theorem aw_is : isC [97] = true := by decide +kernel

set_option maxRecDepth 100000 in
set_option maxHeartbeats 1000000 in
theorem awake3_any (w : World) (hT : Tabs w) :
    Calls Tryd.prog 41 #[] w fun e w' => e = .returned (.bool true) ∧ Below w.heap.size w w' := by
  have HT := Lib.hid hT
  clear hT
  have hcut : ∀ w, Tabs w → Calls Tryd.prog 33 #[.string ⟨#[204, 129, 97, 204, 129, 7]⟩] w fun e w' => ∃ g c, e = .returned (.slice (some ⟨g, 0, none⟩) 1 c) ∧ g < w'.heap.size ∧ w'.cell? ⟨g, 0, none⟩ = some (.string ⟨#[97, 204, 129]⟩) ∧ Below w.heap.size w w' := fun w hw => (ccut_any ⟨#[204, 129, 97, 204, 129, 7]⟩ (by decide) w hw).mono (by
    rintro e w' ⟨A, c, rfl, hO, hb⟩
    rw [show (⟨#[204, 129, 97, 204, 129, 7]⟩ : ByteArray).data.toList = [204, 129, 97, 204, 129, 7] from rfl, aw_cut, aw_len] at hO
    rw [show (⟨#[204, 129, 97, 204, 129, 7]⟩ : ByteArray).data.toList = [204, 129, 97, 204, 129, 7] from rfl, aw_len]
    obtain ⟨g, rfl, _, hc, _⟩ := hO.cell (j := 0) (u := .string ⟨#[97, 204, 129]⟩) rfl
    exact ⟨g, c, rfl, (hO.blk_lt g rfl).2, hc, hb⟩)
  have hwid : ∀ w, Tabs w → Calls Tryd.prog 37 #[.string ⟨#[97, 204, 129]⟩] w fun e w' => e = .returned (.int .i64 1) ∧ Below w.heap.size w w' := fun w hw => by
    have := cwidth_any ⟨#[97, 204, 129]⟩ (by decide) w hw
    rw [show (⟨#[97, 204, 129]⟩ : ByteArray).data.toList = [97, 204, 129] from rfl, aw_width] at this
    exact this
  have hcol : ∀ w, Tabs w → Calls Tryd.prog 39 #[.string ⟨#[97, 228, 184, 173]⟩] w fun e w' => e = .returned (.int .i64 3) ∧ Below w.heap.size w w' := fun w hw => by
    have := ccols_any ⟨#[97, 228, 184, 173]⟩ (by decide) w hw
    rw [show (⟨#[97, 228, 184, 173]⟩ : ByteArray).data.toList = [97, 228, 184, 173] from rfl, aw_cols] at this
    exact this
  have hfla : ∀ w, Tabs w → Calls Tryd.prog 44 #[.string ⟨#[97, 9, 98]⟩] w fun e w' => e = .returned (.string ⟨#[97, 32, 98]⟩) ∧ Below w.heap.size w w' := fun w hw => by
    have := cflat_any ⟨#[97, 9, 98]⟩ (by decide) w hw
    rw [show (⟨#[97, 9, 98]⟩ : ByteArray).data.toList = [97, 9, 98] from rfl, aw_flat] at this
    exact this
  have hiss : ∀ w, Tabs w → Calls Tryd.prog 35 #[.string ⟨#[97]⟩] w fun e w' => e = .returned (.bool true) ∧ Below w.heap.size w w' := fun w hw => by
    have := cis_any ⟨#[97]⟩ (by decide) w hw
    rw [show (⟨#[97]⟩ : ByteArray).data.toList = [97] from rfl, aw_is] at this
    exact this
  have H1 := Lib.hid hcut
  have H2 := Lib.hid hwid
  have H3 := Lib.hid hcol
  have H4 := Lib.hid hfla
  have H5 := Lib.hid hiss
  clear hcut hwid hcol hfla hiss
  go_enter Tryd.func41, Tryd.ntmps41
  go_wp2_with (fail)
  refine (H1.out w HT.out).mono ?_
  rintro e w1 ⟨g, c, rfl, hg, hc, hb1⟩
  have hT1 := HT.out.below hb1
  go_wp2_with (first
    | (go_at_call 37; refine (H2.out _ hT1).mono ?_; rintro e w2 ⟨rfl, hb2⟩; have hb2' := hb1.trans (hb2.mono hb1.size); have hT2 := HT.out.below hb2')
    | (go_at_call 39; refine (H3.out _ hT2).mono ?_; rintro e w3 ⟨rfl, hb3⟩; have hb3' := hb2'.trans (hb3.mono hb2'.size); have hT3 := HT.out.below hb3')
    | (go_at_call 44; refine (H4.out _ hT3).mono ?_; rintro e w4 ⟨rfl, hb4⟩; have hb4' := hb3'.trans (hb4.mono hb3'.size); have hT4 := HT.out.below hb4')
    | (go_at_call 35; refine (H5.out _ hT4).mono ?_; rintro e w5 ⟨rfl, hb5⟩; have hb5' := hb4'.trans (hb5.mono hb4'.size)))
  go_ret
  exact ⟨ret_bool (by first | rfl | simp), hb5'⟩
end Go.Proofs.YtmgakdbcgdhpaaaDoor
