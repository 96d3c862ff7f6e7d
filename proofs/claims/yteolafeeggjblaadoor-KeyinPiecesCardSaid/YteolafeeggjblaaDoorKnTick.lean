/-
  Walks: Tick of a decoder that is not pasting.
-/
import Derived.Test.YteolafeeggjblaaDoorKnNot
namespace Go.Proofs.YteolafeeggjblaaDoor
open Go.RowKit Go.Sort
set_option linter.unusedVariables false
set_option linter.unusedSimpArgs false

/-- a row of keys -/
def KRow (w : World) (v : Value) (ks : List Kv) : Prop := ∃ A n c, v = .slice A n c ∧ n = ks.length ∧ Sl w w.heap.size A (ks.flatMap Kv.cells) ∧ (A = none → c = 0)
theorem KRow.nil (w : World) : KRow w (.slice none 0 0) [] := ⟨none, 0, 0, rfl, rfl, .inl rfl, fun _ => rfl⟩
theorem KRow.one (w : World) (k : Kv) : KRow (w.alloc (.cells k.cells.toArray 40)) (.slice (some ⟨w.heap.size, 0, none⟩) 1 1) [k] := by
  refine ⟨_, 1, 1, rfl, rfl, ?_, fun e => by cases e⟩
  have := Sl.new w k.cells.toArray 40
  simpa using this.more (B' := (w.alloc (.cells k.cells.toArray 40)).heap.size) (by simp)

set_option maxRecDepth 100000 in
set_option maxHeartbeats 4000000 in
theorem tick_no (D : Nat) (s : List UInt8) (w : World) (hs : s.length ≤ 1000000) (h : DBlk w D s (.pointer none)) :
    Calls Tryd.prog 14 #[.pointer (some ⟨D, 0, none⟩)] w fun e w' => ∃ v, e = .returned v ∧ KRow w' v (tickK ⟨s, none⟩).2 ∧ DBlk w' D [] (.pointer none) ∧ Chg (one D) w w' := by
  have H := Lib.hid h
  have Q1 := Lib.hid (fun d os => Calls.regrown_of ((count_any D s (.pointer none) (grow (redrawn w d) os) (h.below (below_regrown w d os) h.lt)).mono fun e w' ⟨a, b⟩ => ⟨a, b ▸ Below.refl _ _⟩))
  clear h
  go_enter Tryd.func14, Tryd.ntmps14
  go_wp2_with (first
    | (go_at_call 20; refine (made_yes D s _ _ H.out).mono ?_; rintro e w' ⟨rfl, rfl⟩)
    | (go_at_call 15; refine (pasting_no D s _ H.out).mono ?_; rintro e w' ⟨rfl, rfl⟩))
  refine wp_region_below_tail 7 (by kernel_rfl) (by kernel_rfl) ?_
  simp only [List.take_succ_cons, List.take_zero, List.drop_succ_cons, List.drop_zero]
  repeat (first
    | go_big_quiet_step (exact Q1.out _ _)
    | quiet_step (exact Q1.out _ _))
  refine wpQuiet_nil ?_
  intro _ hw'
  obtain ⟨⟨dq, osq⟩, hw''⟩ := hw'
  subst hw''
  have HB := Lib.hid (below_regrown w dq osq)
  have HD := Lib.hid (H.out.below HB.out H.out.lt)
  clear Q1
  generalize grow (redrawn w dq) osq = w2 at *
  go_upto_region 4 with (go_at_call 26; refine (remove_any D s _ s.length (Nat.le_refl _) hs _ HD.out).mono ?_; rintro e w3 ⟨rfl, hd3, hc3⟩)
  have hd4 : DBlk w3 D [] (.pointer none) := by rw [List.drop_length] at hd3; exact hd3
  have HD3 := Lib.hid hd4
  have HC3 : Hid (Chg (one D) w w3) := Lib.hid ((Chg.of_below HB.out).trans (S' := one D) hc3 (fun j hj => .inl hj))
  clear hd3 hc3 hd4 HD HB H
  by_cases h1 : s = [27]
  · subst h1
    go_wp2_with (fail)
    refine bodyPost_ret (v := .slice (some ⟨w3.heap.size, 0, none⟩) 1 1) (by simp [results, Tryd.results14, go_sem]) rfl ⟨_, rfl, KRow.one w3 (kc 5), HD3.out.alloc _, HC3.out.alloc _⟩
  by_cases h2 : s = [27, 91]
  · subst h2
    go_wp2_with (fail)
    refine bodyPost_ret (v := .slice (some ⟨w3.heap.size, 0, none⟩) 1 1) (by simp [results, Tryd.results14, go_sem]) rfl ⟨_, rfl, KRow.one w3 { Kv.no with c := 1, s := [91], a := true }, HD3.out.alloc _, HC3.out.alloc _⟩
  by_cases h3 : s = [27, 79]
  · subst h3
    go_wp2_with (fail)
    refine bodyPost_ret (v := .slice (some ⟨w3.heap.size, 0, none⟩) 1 1) (by simp [results, Tryd.results14, go_sem]) rfl ⟨_, rfl, KRow.one w3 { Kv.no with c := 1, s := [79], a := true }, HD3.out.alloc _, HC3.out.alloc _⟩
  have HE : Hid ((tickK ⟨s, none⟩).2 = []) := Lib.hid (by unfold tickK; simp [h1, h2, h3])
  have e1 : ((⟨s.toArray⟩ : ByteArray).toList == [27]) = false := by rw [Lib.toList_data, beq_eq_false_iff_ne]; exact h1
  have e2 : ((⟨s.toArray⟩ : ByteArray).toList == [27, 91]) = false := by rw [Lib.toList_data, beq_eq_false_iff_ne]; exact h2
  have e3 : ((⟨s.toArray⟩ : ByteArray).toList == [27, 79]) = false := by rw [Lib.toList_data, beq_eq_false_iff_ne]; exact h3
  clear h1 h2 h3
  generalize (⟨s.toArray⟩ : ByteArray) = b at e1 e2 e3 ⊢
  go_wp2_with (fail)
  refine bodyPost_ret (v := .slice none 0 0) (by simp [results, Tryd.results14, go_sem]) rfl ⟨_, rfl, by rw [HE.out]; exact KRow.nil _, HD3.out, HC3.out⟩
end Go.Proofs.YteolafeeggjblaaDoor
