/-
  Walks: text of what is pasted; a decoder in memory, pasting or not; takePasted.
-/
import Derived.Test.YteolafeeggjblaaDoorKnPaste
namespace Go.Proofs.YteolafeeggjblaaDoor
open Go.RowKit Go.Sort
set_option linter.unusedVariables false
set_option linter.unusedSimpArgs false

theorem textP_txt (p : List UInt8) : textP p = txt (rnsOf (p.take (p.length - 5))) := by
  unfold textP decR txt
  rw [List.flatMap_map]
theorem bv_take' (l : List UInt8) (k : Nat) : (bv l).take k = bv (l.take k) := by simp [bv, List.map_take]

set_option maxRecDepth 100000 in
set_option maxHeartbeats 8000000 in
theorem ptext_any (P : Nat) (A : Option Addr) (n c m : Nat) (p : List UInt8) (w : World) (hB : PBlk w P A n c m) (hO : OB w 0 A n c p) (h5 : 5 ≤ p.length) (hp : p.length ≤ 65541) :
    Calls Tryd.prog 49 #[.pointer (some ⟨P, 0, none⟩)] w fun e w' => e = .returned (.string ⟨(textP p).toArray⟩) ∧ Below w.heap.size w w' := by
  have hn := hO.len
  have hcap := ob_cap hO
  have hS : Sl w w.heap.size A (bv (p.take (n - 5))) := by have := hO.sl.take (n - 5); rwa [bv_take'] at this
  have x0 : ∀ d os, (grow (redrawn w d) os).cell? ⟨P, 0, none⟩ = some (.slice A n c) := cell_regrown (hB.cell 0)
  rw [textP_txt, ← hn]
  have hl : (p.take (n - 5)).length = n - 5 := by rw [List.length_take]; omega
  have HS := Lib.hid hS
  have HL := Lib.hid hl
  obtain ⟨k, rfl⟩ : ∃ k, n = k + 5 := ⟨n - 5, by omega⟩
  rw [Nat.add_sub_cancel] at HS HL ⊢
  generalize p.take k = q at HS HL ⊢
  have hk : k ≤ c := by omega
  clear hB hO hS hl
  have e2 : IntKind.i64.wrap (k : Int) = (k : Int) := IntWalk.i64_in _ (by omega)
  have hki : (k : Int) ≤ (c : Int) := by omega
  have hkp : (k : Int) ≤ 65541 := by omega
  have HN := Lib.hid hn
  have HC := Lib.hid hcap
  clear hn hcap
  go_enter Tryd.func49, Tryd.ntmps49
  go_wp2_with (fail)
  refine wp_region_below_tail 11 (by kernel_rfl) (by kernel_rfl) ?_
  simp only [List.take_succ_cons, List.take_zero, List.drop_succ_cons, List.drop_zero]
  repeat (first
    | go_big_quiet_step (fail)
    | quiet_step (fail))
  refine wpQuiet_nil ?_
  intro _ hw'
  obtain ⟨⟨dq, osq⟩, hw''⟩ := hw'
  subst hw''
  have HB := Lib.hid (below_regrown w dq osq)
  have HS2 := Lib.hid (HS.out.below HB.out)
  have HZ := Lib.hid HB.out.size
  clear x0
  generalize grow (redrawn w dq) osq = w2 at *
  go_wp2_with (go_at_call 59; refine (text_any A k c q w.heap.size _ HL.out.symm (by have := HL.out; omega) HS2.out HZ.out).mono ?_; rintro e w3 ⟨rfl, hb3⟩; have HB3 := Lib.hid hb3; clear hb3)
  go_ret
  exact ⟨rfl, kstep HB.out HB3.out⟩

/-- a decoder in memory; O holds the blocks that are its own -/
def DAt (w : World) (D : Nat) (O : Nat → Prop) (d : KD) : Prop :=
  O D ∧ (∀ j, O j → j < w.heap.size) ∧ match d.P with
  | none => DBlk w D d.B (.pointer none)
  | some (p, m) => ∃ P A n c, DBlk w D d.B (.pointer (some ⟨P, 0, none⟩)) ∧ PBlk w P A n c m ∧ OB w 0 A n c p ∧ m ≤ 5 ∧ m ≤ p.length ∧ p.length ≤ 65541 ∧ O P ∧ ∀ j, blk A = some j → O j
theorem dec_u8 : 45 ≠ 5 := by decide
theorem dec_pasted : 45 ≠ 65 := by decide
theorem DAt.same {w w' : World} {D : Nat} {O : Nat → Prop} {d : KD} (h : DAt w D O d) (hs : ∀ j, O j → w'.heap[j]? = w.heap[j]?) (hz : w.heap.size ≤ w'.heap.size) : DAt w' D O d := by
  obtain ⟨hD, hlt, h⟩ := h
  refine ⟨hD, fun j hj => Nat.lt_of_lt_of_le (hlt j hj) hz, ?_⟩
  cases hp : d.P with
  | none => rw [hp] at h; exact (hs D hD).trans h
  | some q =>
    obtain ⟨p, m⟩ := q
    rw [hp] at h
    obtain ⟨P, A, n, c, h1, h2, h3, h4, h5, h6, h7, h8⟩ := h
    exact ⟨P, A, n, c, (hs D hD).trans h1, (hs P h7).trans h2, ob_same h3 (fun g hg => hs g (h8 g hg)), h4, h5, h6, h7, h8⟩
theorem DAt.more {w : World} {D : Nat} {O O' : Nat → Prop} {d : KD} (h : DAt w D O d) (hs : ∀ j, O j → O' j) (hlt : ∀ j, O' j → j < w.heap.size) : DAt w D O' d := by
  obtain ⟨hD, _, h⟩ := h
  refine ⟨hs D hD, hlt, ?_⟩
  cases hp : d.P with
  | none => rw [hp] at h; exact h
  | some q =>
    obtain ⟨p, m⟩ := q
    rw [hp] at h
    obtain ⟨P, A, n, c, h1, h2, h3, h4, h5, h6, h7, h8⟩ := h
    exact ⟨P, A, n, c, h1, h2, h3, h4, h5, h6, hs P h7, fun j hj => hs j (h8 j hj)⟩
/-- the set of a decoder's blocks behind a call -/
def grownO (O : Nat → Prop) (w w' : World) : Nat → Prop := fun j => O j ∨ (w.heap.size ≤ j ∧ j < w'.heap.size)

set_option maxRecDepth 100000 in
set_option maxHeartbeats 8000000 in
theorem takeP_any (D : Nat) (O : Nat → Prop) (s p : List UInt8) (m : Nat) (b : UInt8) (w : World) (h : DAt w D O ⟨s, some (p, m)⟩) :
    Calls Tryd.prog 38 #[.pointer (some ⟨D, 0, none⟩), .int .u8 b.toNat] w fun e w' => ∃ v, e = .returned v ∧ KRow w' v (takeK ⟨s, some (p, m)⟩ b).2 ∧ DAt w' D (grownO O w w') (takeK ⟨s, some (p, m)⟩ b).1 ∧ Chg O w w' := by
  obtain ⟨hOD, hlt, P, A, n, c, hD, hP, hO, m5, mp, p5, hOP, hOA⟩ := h
  have hD : DBlk w D s (.pointer (some ⟨P, 0, none⟩)) := hD
  have hDP : D ≠ P := hD.ne_ hP dec_pasted
  have hDA : blk A ≠ some D := ob_ne hD hO dec_u8
  have x2 : w.cell? ⟨D, 2, none⟩ = some (.pointer (some ⟨P, 0, none⟩)) := hD.cell 2
  have HQ := Lib.hid (ends_any P A n c p m b w hP hO m5 p5)
  have hpl : ∀ j, pset P A j → O j := fun j hj => by
    rcases hj with rfl | hj
    · exact hOP
    · exact hOA j hj
  have hDn : ¬ pset P A D := fun e => by
    rcases e with e | e
    · exact hDP e
    · exact hDA e
  have hst : matP m b ≤ m + 1 := by
    unfold matP
    split
    · omega
    · split
      · omega
      · omega
  have HD := Lib.hid hD
  have HPL := Lib.hid hpl
  have HDN := Lib.hid hDn
  have HST := Lib.hid hst
  have HOL := Lib.hid hlt
  have HOD := Lib.hid hOD
  clear hP hO hOA hpl hDn hDA hst hlt
  by_cases h6 : matP m b = 6
  · have hT : takeK ⟨s, some (p, m)⟩ b = (⟨s, none⟩, [{ Kv.no with c := 16, s := textP p }]) := by unfold takeK; simp only; rw [if_pos h6]
    rw [hT]
    rw [h6] at HQ
    have h5 : 5 ≤ p.length := by have := HST.out; omega
    clear hT h6 HST
    go_enter Tryd.func38, Tryd.ntmps38
    go_wp2_with (first
      | (go_at_call 48; refine HQ.out.mono ?_; rintro e w1 ⟨rfl, hE⟩; obtain ⟨⟨A', c', hp1, ho1, _⟩, hc1⟩ := hE; have hd1 := HD.out.chg hc1 HDN.out; have HD1 := Lib.hid hd1; have HC1 := Lib.hid hc1; have HP1 := Lib.hid hp1; have HO1 := Lib.hid ho1; have x2' : w1.cell? ⟨D, 2, none⟩ = some (.pointer (some ⟨P, 0, none⟩)) := hd1.cell 2; clear hd1 hc1 hp1 ho1)
      | (go_at_call 49; refine (ptext_any P A' p.length c' 6 p w1 HP1.out HO1.out h5 p5).mono ?_; rintro e w2 ⟨rfl, hb2⟩; have HB2 := Lib.hid hb2; have HD2 := Lib.hid (HD1.out.below hb2 HD1.out.lt); have f2 := (HD1.out.below hb2 HD1.out.lt).frozen 2; have y2 : w2.cell? ⟨D, 2, none⟩ = some (.pointer (some ⟨P, 0, none⟩)) := (HD1.out.below hb2 HD1.out.lt).cell 2; clear hb2 x2 x2'))
    have hd3 : DBlk (w2.setCell ⟨D, 2, none⟩ (.pointer none)) D s (.pointer none) := HD2.out.set_ 2 _
    have hc3 : Chg O w (w2.setCell ⟨D, 2, none⟩ (.pointer none)) := ((HC1.out.mono (fun j hj => .inl (HPL.out j hj))).trans (S' := noB) (Chg.of_below HB2.out) (fun _ h => h.elim)).setCell (p := ⟨D, 2, none⟩) (.inl HOD.out) _
    refine bodyPost_ret (v := .slice (some ⟨w2.heap.size, 0, none⟩) 1 1) (by simp [results, Tryd.results38, go_sem]) rfl ⟨_, rfl, ?_, ?_, hc3.alloc _⟩
    · have := KRow.one (w2.setCell ⟨D, 2, none⟩ (.pointer none)) { Kv.no with c := 16, s := textP p }
      rw [show (w2.setCell ⟨D, 2, none⟩ (.pointer none)).heap.size = w2.heap.size by simp [World.setCell]] at this
      exact this
    · refine ⟨.inl HOD.out, fun j hj => ?_, hd3.alloc _⟩
      rcases hj with hj | hj
      · have := HOL.out j hj
        have := hc3.size
        simp at this ⊢
        omega
      · exact hj.2
  · have hT : takeK ⟨s, some (p, m)⟩ b = (⟨s, some (pnext p b, matP m b)⟩, []) := by unfold takeK pnext; simp only; rw [if_neg h6]
    rw [hT]
    rw [decide_eq_false h6, if_neg h6] at HQ
    have hM5 : matP m b ≤ 5 := by have := HST.out; omega
    have hpn : matP m b ≤ (pnext p b).length ∧ (pnext p b).length ≤ 65541 := by
      have := HST.out
      unfold pnext
      split
      · rw [List.length_append, List.length_singleton]; omega
      · omega
    clear hT h6 HST
    generalize matP m b = M at HQ hM5 hpn ⊢
    generalize pnext p b = p2 at HQ hpn ⊢
    go_enter Tryd.func38, Tryd.ntmps38
    go_wp2_with (go_at_call 48; refine HQ.out.mono ?_; rintro e w1 ⟨rfl, hE⟩; have HE := Lib.hid hE; clear hE)
    go_ret
    obtain ⟨⟨A', c', hp1, ho1, ha1⟩, hc1⟩ := HE.out
    have hz := hc1.size
    refine ⟨_, rfl, KRow.nil _, ⟨.inl HOD.out, fun j hj => ?_, P, A', _, c', HD.out.chg hc1 HDN.out, hp1, ho1, hM5, hpn.1, hpn.2, .inl (HPL.out P (.inl rfl)), fun j hj => ?_⟩, hc1.mono (fun j hj => .inl (HPL.out j hj))⟩
    · rcases hj with hj | hj
      · have := HOL.out j hj; omega
      · exact hj.2
    · rcases ha1 j hj with h | h
      · exact .inl (HPL.out j (.inr h))
      · exact .inr ⟨h, (ho1.blk_lt j hj).2⟩
end Go.Proofs.YteolafeeggjblaaDoor
