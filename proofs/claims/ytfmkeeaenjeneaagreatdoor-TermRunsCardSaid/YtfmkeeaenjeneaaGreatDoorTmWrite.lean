/-
  Walks: Write.
-/
import Derived.Test.YtfmkeeaenjeneaaGreatDoorTmWrM
import Derived.Deep.LoopGhost
namespace Go.Proofs.YtfmkeeaenjeneaaGreatDoor
open Go.RowKit Go.Shelf Go.Sort
set_option linter.unusedVariables false
set_option linter.unusedSimpArgs false

/-- the parts lie in memory, in blocks that are none of the terminal's own -/
structure PartsAt (w : World) (S : Nat → Prop) (pb : Nat) (vs : List Part) : Prop where
  lt : pb < w.heap.size
  no : ¬ S pb
  cell : ∀ j v, vs[j]? = some v → w.cell? ⟨pb, j, none⟩ = some (.slice v.1 v.2.1.length v.2.2)
  byte : ∀ v ∈ vs, v.2.1 = [] ∨ ∃ b o, v.1 = some ⟨b, o, none⟩ ∧ b < w.heap.size ∧ ¬ S b ∧ ∀ i (hi : i < v.2.1.length), w.cell? ⟨b, o + i, none⟩ = some (.int .u8 v.2.1[i].toNat)
  len : ∀ v ∈ vs, v.2.1.length ≤ 100000
theorem PartsAt.chg {w w' : World} {S : Nat → Prop} {pb : Nat} {vs : List Part} (h : PartsAt w S pb vs) (hc : Chg S w w') : PartsAt w' S pb vs :=
  ⟨Nat.lt_of_lt_of_le h.lt hc.size, h.no, fun j v hv => hc.cell (h.cell j v hv) h.no, fun v hv => by
    rcases h.byte v hv with e | ⟨b, o, e1, e2, e3, e4⟩
    · exact .inl e
    · exact .inr ⟨b, o, e1, Nat.lt_of_lt_of_le e2 hc.size, e3, fun i hi => hc.cell (e4 i hi) e3⟩, h.len⟩

section
variable {w : World} {lo t g rb : Nat} {bs : List Nat} {T : TS} {B : List UInt8}
theorem stepT_zero {T : TS} {B : List UInt8} (h : (stepT T B).2 = 0) : (stepT T B).1 = T := by
  cases B with
  | nil => rfl
  | cons c l =>
    by_cases h27 : c = 27
    · subst h27
      rw [stepT_esc] at h ⊢
      exact if_pos h
    · by_cases h32 : c < 32 ∨ c = 127
      · rw [stepT_ctl h27 h32] at h
        simp at h
      · rw [stepT_rune h27 h32] at h ⊢
        by_cases hm : (nx (c :: l)).2.2 = true
        · rw [if_pos hm]
        · rw [if_neg hm] at h
          have := (nx_n (c :: l) (by simpa using hm)).1
          simp only at h
          omega
theorem TmStep.chain {w w1 w2 : World} {lo t g rb : Nat} {bs : List Nat} {T1 T2 : TS} {B1 B2 : List UInt8} (h1 : TmStep w lo t g rb bs T1 B1 w1) (h2 : ∀ bs', TmAt w1 lo t g rb bs' T1 B1 → TmStep w1 lo t g rb bs' T2 B2 w2) : TmStep w lo t g rb bs T2 B2 w2 := by
  obtain ⟨bs', ha, ho, hc⟩ := h1
  exact TmStep.trans ho hc (h2 bs' ha)

set_option maxRecDepth 100000 in
set_option maxHeartbeats 8000000 in
theorem write_any (h : TmAt w lo t g rb bs T B) (hbase : Base w lo) (hB : B.length < 32) (pb : Nat) (vs : List Part) (hvs : vs.length ≤ 1000) (hP : PartsAt w (TmOwn t g rb bs) pb vs) :
    Calls Tryz.prog 8 #[.pointer (some ⟨t, 0, none⟩), .slice (some ⟨pb, 0, none⟩) vs.length vs.length] w fun e w' => e = .returned (.tuple #[]) ∧ TmStep w lo t g rb bs (wrA (T, B) vs).1 (wrA (T, B) vs).2 w' := by
  have c0 := h.cell 0 (by omega)
  simp only [tmc, List.getElem?_cons_zero] at c0
  have H := Lib.hid h
  have HBS := Lib.hid hbase
  have HPA := Lib.hid hP
  have HLT := Lib.hid hB
  have HMV : Hid (∀ wr T1 B1, TmStep w lo t g rb bs T1 B1 wr → PartsAt wr (TmOwn t g rb bs) pb vs ∧ Base wr lo) := Lib.hid (fun wr T1 B1 hs => by
    have hb := HBS.out.step H.out hs
    obtain ⟨_, _, _, hc⟩ := hs
    exact ⟨HPA.out.chg hc, hb⟩)
  have HADD : Hid (∀ wr T1 B1 c, TmStep w lo t g rb bs T1 B1 wr → B1.length < 32 → Calls Tryz.prog 25 #[.pointer (some ⟨t, 17, none⟩), .int .u8 (c : UInt8).toNat] wr fun e w' => e = .returned (.tuple #[]) ∧ TmStep w lo t g rb bs T1 (B1 ++ [c]) w') := Lib.hid (fun wr T1 B1 c hs hl => by
    obtain ⟨bs', ha, ho, hc⟩ := hs
    exact (add_any ha hl c).mono fun e w' ⟨he, h2⟩ => ⟨he, TmStep.trans ho hc h2⟩)
  have HSTEP : Hid (∀ wr T1 B1, TmStep w lo t g rb bs T1 B1 wr → Calls Tryz.prog 26 #[.pointer (some ⟨t, 0, none⟩)] wr fun e w' => e = .returned (.bool (decide (0 < (stepT T1 B1).2))) ∧ TmStep w lo t g rb bs (stepT T1 B1).1 (B1.drop (stepT T1 B1).2) w') := Lib.hid (fun wr T1 B1 hs => by
    have hbr := (HMV.out wr T1 B1 hs).2
    obtain ⟨bs', ha, ho, hc⟩ := hs
    exact (step_any ha hbr).mono fun e w' ⟨he, h2⟩ => ⟨he, TmStep.trans ho hc h2⟩)
  have hn : (vs.length : Int) ≤ 1000 := by omega
  clear h hbase hP hB
  go_enter Tryz.func8, Tryz.ntmps8
  go_wp2_with (go_at_call 24; refine (tmade_yes t w c0).mono ?_; rintro e w' ⟨rfl, rfl⟩)
  clear c0
  go_loopw [13] (fun v13 wr => ∃ (j : Nat) (T1 : TS) (B1 : List UInt8), v13 = .int .i64 j ∧ j ≤ vs.length ∧ (T1, B1) = wrA (T, B) (vs.take j) ∧ B1.length < 32 ∧ TmStep w lo t g rb bs T1 B1 wr) (fun v13 _ => vs.length - (intOf v13).toNat)
  case atStart => exact ⟨0, T, B, rfl, by omega, rfl, HLT.out, TmStep.refl H.out⟩
  case round =>
    obtain ⟨j, T1, B1, rfl, hj, he1, hl1, hs1⟩ := hrel
    have HE1 := Lib.hid he1
    have HS1 := Lib.hid hs1
    have HL1 := Lib.hid hl1
    clear he1 hs1 hl1
    by_cases hlt : j < vs.length
    · have hji : (j : Int) < (vs.length : Int) := by omega
      have hvc := (HMV.out _ _ _ HS1.out).1.cell j vs[j] (List.getElem?_eq_getElem hlt)
      have hvb := fun wr' T' B' (hs : TmStep w lo t g rb bs T' B' wr') => (HMV.out _ _ _ hs).1.byte vs[j] (List.getElem_mem hlt)
      have hvl := HPA.out.len vs[j] (List.getElem_mem hlt)
      have HTK := Lib.hid (wrA_take (T, B) vs hlt)
      obtain ⟨⟨A, L, cap⟩, hv⟩ : ∃ v, v = vs[j] := ⟨_, rfl⟩
      rw [← hv] at hvc hvb hvl HTK
      rw [← HE1.out] at HTK
      have HVB := Lib.hid hvb
      have hLi : (L.length : Int) ≤ 100000 := by have : L.length ≤ 100000 := hvl; omega
      clear hv hvb hvl
      simp only at hvc HTK
      go_wp2_with (fail)
      go_loopw [19] (fun v19 wr' => ∃ (i : Nat) (T2 : TS) (B2 : List UInt8), v19 = .int .i64 i ∧ i ≤ L.length ∧ (T2, B2) = wrT (T1, B1) (L.take i) ∧ B2.length < 32 ∧ TmStep w lo t g rb bs T2 B2 wr') (fun v19 _ => L.length - (intOf v19).toNat)
      case atStart => exact ⟨0, T1, B1, rfl, by omega, rfl, HL1.out, HS1.out⟩
      case round =>
        obtain ⟨i, T2, B2, rfl, hi, he2, hl2, hs2⟩ := hrel
        have HE2 := Lib.hid he2
        have HS2 := Lib.hid hs2
        have HL2 := Lib.hid hl2
        clear he2 hs2 hl2
        by_cases hit : i < L.length
        · have hii : (i : Int) < (L.length : Int) := by omega
          rcases HVB.out _ _ _ HS2.out with e0 | ⟨ab, ao, eA, _, _, hab⟩
          · exfalso
            have e0' : L = [] := e0
            rw [e0'] at hit; simp at hit
          have eA' : A = some ⟨ab, ao, none⟩ := eA
          subst eA'
          have hcb := hab i hit
          have HTI := Lib.hid (wrT_take (T1, B1) L hit)
          rw [← HE2.out] at HTI
          try simp only at hcb
          generalize L[i] = c at hcb HTI
          clear hab eA
          go_wp2_with (go_at_call 25; refine (HADD.out _ T2 B2 c HS2.out HL2.out).mono ?_; rintro e w4 ⟨rfl, hs4⟩; have HS4 := Lib.hid hs4; clear hs4)
          go_loopg [] (B2.length + 2) (fun k wr'' => ∃ (T3 : TS) (B3 : List UInt8), bytesT T3 B3 = bytesT T2 (B2 ++ [c]) ∧ B3.length < k ∧ TmStep w lo t g rb bs T3 B3 wr'')
          case atStart => exact ⟨T2, B2 ++ [c], rfl, by simp, HS4.out⟩
          case round =>
            obtain ⟨T3, B3, he3, hl3, hs3⟩ := hrel
            have HE3 := Lib.hid he3
            have HS3 := Lib.hid hs3
            have hle := stepT_le T3 B3
            have HST := Lib.hid (HSTEP.out _ T3 B3 hs3)
            clear he3 hs3
            by_cases h0 : (stepT T3 B3).2 = 0
            · have HZ := Lib.hid (bytesT_stop h0)
              have HZ1 := Lib.hid (stepT_zero h0)
              rw [h0] at HST
              rw [show decide (0 < 0) = false from rfl] at HST
              have HT3 : Hid (bytesT T2 (B2 ++ [c]) = (T3, B3)) := Lib.hid (by rw [← HE3.out, HZ.out])
              have hl32 := bytesT_lt T2 (B2 ++ [c])
              rw [HT3.out] at hl32
              have HL32 := Lib.hid hl32
              clear h0 hl32 hle
              go_wp2_with (go_at_call 26; refine HST.out.mono ?_; rintro e w5 ⟨rfl, hs5⟩; have HS5 := Lib.hid hs5; clear hs5)
              go_roundw
              case rel =>
                have h5 := HS5.out
                rw [List.drop_zero, HZ1.out] at h5
                exact ⟨i + 1, T3, B3, by go_num, by omega, by rw [HTI.out, HT3.out], HL32.out, h5⟩
              case measure => simp [intOf]; omega
            · have hpos : 0 < (stepT T3 B3).2 := by omega
              have HN := Lib.hid (bytesT_step h0)
              rw [show decide (0 < (stepT T3 B3).2) = true from decide_eq_true hpos] at HST
              have hdl : (B3.drop (stepT T3 B3).2).length + 1 ≤ B3.length := by rw [List.length_drop]; omega
              generalize hD : B3.drop (stepT T3 B3).2 = B4 at HN HST hdl
              generalize (stepT T3 B3).1 = T4 at HN HST
              clear h0 hpos hle hD
              go_wp2_with (go_at_call 26; refine HST.out.mono ?_; rintro e w5 ⟨rfl, hs5⟩; have HS5 := Lib.hid hs5; clear hs5)
              go_roundg (gk - 1)
              case measure => omega
              case rel => exact ⟨T4, B4, by rw [← HN.out, HE3.out], by omega, HS5.out⟩
        · have hii : ¬ (i : Int) < (L.length : Int) := by omega
          have HF : Hid ((T2, B2) = wrA (T, B) (vs.take (j + 1))) := Lib.hid (by rw [HE2.out, List.take_of_length_le (by omega), HTK.out])
          go_wp2_with (fail)
          go_roundw
          case rel => exact ⟨j + 1, T2, B2, by go_num, by omega, HF.out, HL2.out, HS2.out⟩
          case measure => simp [intOf]; omega
    · have hji : ¬ (j : Int) < (vs.length : Int) := by omega
      have HF : Hid (wrA (T, B) vs = (T1, B1)) := Lib.hid (by rw [HE1.out, List.take_of_length_le (by omega)])
      go_wp2_with (fail)
      go_end0
      rw [HF.out]
      exact ⟨rfl, HS1.out⟩
end
end Go.Proofs.YtfmkeeaenjeneaaGreatDoor
