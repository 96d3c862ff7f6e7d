/-
  Walks: step.
-/
import Derived.Test.YtfmkeeaenjeneaaGreatDoorTmEsc
import Derived.Test.YtfmkeeaenjeneaaGreatDoorGbT2
namespace Go.Proofs.YtfmkeeaenjeneaaGreatDoor
open Go.RowKit Go.Shelf Go.Sort
set_option linter.unusedVariables false
set_option linter.unusedSimpArgs false

section
variable {w : World} {lo t g rb : Nat} {bs : List Nat} {T : TS} {B : List UInt8}
set_option maxRecDepth 100000 in
set_option maxHeartbeats 2000000 in
theorem waiting_32 (h : TmAt w lo t g rb bs T B) :
    Calls Tryz.prog 49 #[.pointer (some ⟨t, 17, none⟩)] w fun e w' => e = .returned (.slice (some ⟨t, 17, none⟩) B.length 32) ∧ Below w.heap.size w w' := by
  obtain ⟨xs, h1, h2, h3⟩ := h.blk
  have hb := h.b32
  have hbi : (B.length : Int) ≤ 32 := by omega
  have c49 : w.cell? ⟨t, 49, none⟩ = some (.int .i64 B.length) := (h3.cell 49).trans (tmc_49 h1)
  clear h h1 h2 h3
  go_enter Tryz.func49, Tryz.ntmps49
  go_wp2_with fail
  go_quiet (fail)
  go_wp2
  go_ret
  exact ⟨rfl, below_drewN w _⟩

theorem stepT_nil (T : TS) : stepT T [] = (T, 0) := rfl
theorem stepT_esc {T : TS} {l : List UInt8} : stepT T (27 :: l) = (escT T (27 :: l), (cutE (27 :: l)).1) := by
  unfold stepT escT
  simp only [List.getElem?_cons_zero, if_pos]
  by_cases h0 : (cutE (27 :: l)).1 = 0
  · simp [h0]
  · simp [h0]
theorem stepT_ctl {T : TS} {c : UInt8} {l : List UInt8} (h1 : c ≠ 27) (h2 : c < 32 ∨ c = 127) : stepT T (c :: l) = (ctlT T c, 1) := by
  unfold stepT
  simp only [List.getElem?_cons_zero]
  rw [if_neg h1, if_pos h2]
theorem stepT_rune {T : TS} {c : UInt8} {l : List UInt8} (h1 : c ≠ 27) (h2 : ¬ (c < 32 ∨ c = 127)) : stepT T (c :: l) = if (nx (c :: l)).2.2 = true then (T, 0) else (runeT T (nx (c :: l)).1, (nx (c :: l)).2.1.toNat) := by
  unfold stepT
  simp only [List.getElem?_cons_zero]
  rw [if_neg h1, if_neg h2]

def StepP (w : World) (lo t g rb : Nat) (bs : List Nat) (T : TS) (B : List UInt8) (n : Nat) (e : Ending) (w' : World) : Prop := e = .returned (.bool (decide (0 < n))) ∧ TmStep w lo t g rb bs T (B.drop n) w'
theorem step_fin {w w1 w2 w3 : World} {T' : TS} {bs' : List Nat} {n : Nat} (hb : Below w.heap.size w w1) (ho : ∀ k, GrOwn g rb bs' k → GrOwn g rb bs k ∨ w1.heap.size ≤ k) (hc : Chg (TmOwn t g rb bs) w1 w2) (h3 : TmStep w2 lo t g rb bs' T' (B.drop n) w3) :
    StepP w lo t g rb bs T' B n (.returned (.bool (decide (0 < (n : Int))))) w3 :=
  ⟨ret_bool (by simp), TmStep.bel_then hb (TmStep.trans ho hc h3)⟩

set_option maxRecDepth 100000 in
set_option maxHeartbeats 8000000 in
theorem step_any (h : TmAt w lo t g rb bs T B) (hbase : Base w lo) :
    Calls Tryz.prog 26 #[.pointer (some ⟨t, 0, none⟩)] w fun e w' => StepP w lo t g rb bs (stepT T B).1 B (stepT T B).2 e w' := by
  have HW := Lib.hid (waiting_32 h)
  have hb32 := h.b32
  have H := Lib.hid h
  have HBS := Lib.hid hbase
  cases hB : B with
  | nil =>
    rw [hB] at HW
    clear h hbase
    go_enter Tryz.func26, Tryz.ntmps26
    go_wp2_with (go_at_call 49; refine HW.out.mono ?_; rintro e w1 ⟨rfl, hb1⟩)
    go_ret
    refine ⟨rfl, ?_⟩
    have := TmStep.bel H.out hb1
    rw [hB] at this
    exact this
  | cons c l =>
    rw [← hB]
    have hne : ((B.length : Int) == 0) = false := by rw [hB]; simp; omega
    have hlp : (0 : Int) < (B.length : Int) := by rw [hB]; simp
    have hln : 0 < B.length := by omega
    have hle := stepT_le T B
    have hcb : 0 ≤ (c.toNat : Int) ∧ (c.toNat : Int) ≤ 255 := by have := c.toNat_lt; omega
    have HB0 : Hid (∀ W, Below w.heap.size w W → W.cell? ⟨t, 17, none⟩ = some (.int .u8 c.toNat)) := Lib.hid (fun W hW => by
      have := (H.out.below hW).byte 0 (by omega)
      rw [this]
      simp [hB])
    by_cases h27 : c = 27
    · subst h27
      have HC : Hid (∀ W, Below w.heap.size w W → Calls Tryz.prog 50 #[.pointer (some ⟨t, 0, none⟩), .slice (some ⟨t, 17, none⟩) B.length 32] W fun e w' => e = .returned (.int .i64 (stepT T B).2) ∧ TmStep W lo t g rb bs (stepT T B).1 B w') := Lib.hid (fun W hW => by
        have := escape_any (H.out.below hW) (HBS.out.below hW) (by omega)
        have e : stepT T B = (escT T B, (cutE B).1) := by rw [hB]; exact stepT_esc
        rw [e]; exact this)
      generalize (stepT T B).1 = T' at HC ⊢
      generalize (stepT T B).2 = n at HC hle ⊢
      clear h hbase hB
      go_enter Tryz.func26, Tryz.ntmps26
      go_wp2_with (first
        | (go_at_call 49; refine HW.out.mono ?_; rintro e w1 ⟨rfl, hb1⟩; have kb := HB0.out w1 hb1; have HB1 := Lib.hid hb1; clear hb1)
        | (go_at_call 50; refine (HC.out _ HB1.out).mono ?_; rintro e w2 ⟨rfl, bs', ha, ho, hc⟩; have HA := Lib.hid ha; have HO := Lib.hid ho; have HCH := Lib.hid hc; clear ha ho hc kb)
        | (go_at_call 53; refine (drop_any HA.out n hle).mono ?_; rintro e w3 ⟨rfl, hs3⟩; have HS3 := Lib.hid hs3; clear hs3))
      go_ret
      exact ⟨ret_bool (by simp), (step_fin HB1.out HO.out HCH.out HS3.out).2⟩
    · have h27b : ((c.toNat : Int) == 27) = false := by
        simp
        exact fun e => h27 (UInt8.toNat_inj.1 (by show c.toNat = 27; omega))
      by_cases h32 : c < 32 ∨ c = 127
      · have HC : Hid (∀ W, Below w.heap.size w W → Calls Tryz.prog 51 #[.pointer (some ⟨t, 0, none⟩), .int .u8 c.toNat] W fun e w' => e = .returned (.int .i64 1) ∧ TmStep W lo t g rb bs (ctlT T c) B w') := Lib.hid (fun W hW => control_term (H.out.below hW) (HBS.out.below hW) c)
        have e : stepT T B = (ctlT T c, 1) := by rw [hB]; exact stepT_ctl h27 h32
        rw [e]
        have h32i : (c.toNat : Int) < 32 ∨ (¬ (c.toNat : Int) < 32 ∧ ((c.toNat : Int) == 127) = true) := by
          rcases h32 with h | h
          · left; have := UInt8.lt_iff_toNat_lt.1 h; simp at this; omega
          · right; subst h; exact ⟨by decide, by decide⟩
        generalize ctlT T c = T' at HC ⊢
        clear h hbase hB e h32 h27 hle
        rcases h32i with h32 | ⟨h32, h127⟩
        all_goals
          go_enter Tryz.func26, Tryz.ntmps26
          go_wp2_with (first
            | (go_at_call 49; refine HW.out.mono ?_; rintro e w1 ⟨rfl, hb1⟩; have kb := HB0.out w1 hb1; have HB1 := Lib.hid hb1; clear hb1)
            | (go_at_call 51; refine (HC.out _ HB1.out).mono ?_; rintro e w2 ⟨rfl, bs', ha, ho, hc⟩; have HA := Lib.hid ha; have HO := Lib.hid ho; have HCH := Lib.hid hc; clear ha ho hc kb)
            | (go_at_call 53; refine (drop_any HA.out 1 hln).mono ?_; rintro e w3 ⟨rfl, hs3⟩; have HS3 := Lib.hid hs3; clear hs3))
          go_ret
          exact step_fin (n := 1) HB1.out HO.out HCH.out HS3.out
      · have HC : Hid (∀ W, Below w.heap.size w W → Calls Tryz.prog 52 #[.pointer (some ⟨t, 0, none⟩), .slice (some ⟨t, 17, none⟩) B.length 32] W fun e w' => e = .returned (.int .i64 (stepT T B).2) ∧ TmStep W lo t g rb bs (stepT T B).1 B w') := Lib.hid (fun W hW => by
          have := rune_term (H.out.below hW) (HBS.out.below hW) B (some ⟨t, 17, none⟩) B.length 32 rfl (by omega) _ (H.out.below hW).bytes (Nat.le_refl _)
          have e : stepT T B = if (nx B).2.2 = true then (T, 0) else (runeT T (nx B).1, (nx B).2.1.toNat) := by rw [hB]; exact stepT_rune h27 h32
          rw [e]
          by_cases hm : (nx B).2.2 = true
          · rw [if_pos hm, if_pos hm] at this
            rw [if_pos hm]; exact this
          · rw [if_neg hm, if_neg hm] at this
            rw [if_neg hm]
            have hn := (nx_n B (by simpa using hm)).1
            refine this.mono ?_
            rintro e' w' ⟨rfl, hs⟩
            exact ⟨ret_int (by simp only; omega), hs⟩)
        have h32i : ¬ (c.toNat : Int) < 32 := fun e => h32 (.inl (UInt8.lt_iff_toNat_lt.2 (by show c.toNat < 32; omega)))
        have h127 : ((c.toNat : Int) == 127) = false := by
          simp
          exact fun e => h32 (.inr (UInt8.toNat_inj.1 (by show c.toNat = 127; omega)))
        generalize (stepT T B).1 = T' at HC ⊢
        generalize (stepT T B).2 = n at HC hle ⊢
        clear h hbase hB h27 h32
        go_enter Tryz.func26, Tryz.ntmps26
        go_wp2_with (first
          | (go_at_call 49; refine HW.out.mono ?_; rintro e w1 ⟨rfl, hb1⟩; have kb := HB0.out w1 hb1; have HB1 := Lib.hid hb1; clear hb1)
          | (go_at_call 52; refine (HC.out _ HB1.out).mono ?_; rintro e w2 ⟨rfl, bs', ha, ho, hc⟩; have HA := Lib.hid ha; have HO := Lib.hid ho; have HCH := Lib.hid hc; clear ha ho hc kb)
          | (go_at_call 53; refine (drop_any HA.out n hle).mono ?_; rintro e w3 ⟨rfl, hs3⟩; have HS3 := Lib.hid hs3; clear hs3))
        go_ret
        exact ⟨ret_bool (by simp), (step_fin HB1.out HO.out HCH.out HS3.out).2⟩
end
end Go.Proofs.YtfmkeeaenjeneaaGreatDoor
