/-
  Walk: GapFinds.
-/
import Derived.Test.YtcpihlmemjkloaaDoorGpFind
import Derived.Deep.DeepCutAuto
namespace Go.Proofs.YtcpihlmemjkloaaDoor
open Go.RowKit
set_option linter.unusedVariables false
set_option linter.unusedSimpArgs false

theorem OR.cap {w : World} {base n c : Nat} {e : TypeId} {A : Option Addr} {xs : List Value} (h : OR w base e A n c xs) : n ≤ c := by
  rcases h.1 with ⟨hl, ⟨hv, h0⟩ | ⟨g, cap, cur, hv, hb, hh, hnc, hc, hcur, ht⟩⟩
  · omega
  · injection hv with _ _ e
    omega
/-- a part of a row -/
theorem sl_part {w : World} {B : Nat} {A : Option Addr} {l : List (List UInt8)} {c lo k : Nat} (h : Sl w B A (sv l)) (hk : lo + k ≤ l.length) (hc : l.length ≤ c) : Sl w B (bh A c lo) (sv ((l.drop lo).take k)) := by
  have h1 := (h.drop (k := lo) (cap := c) (by rw [sv_length]; exact hc)).take k
  rw [sv_drop, sv_take] at h1
  exact h1
theorem findR_here {L l : List (List UInt8)} {c : Nat} {v : Int} {b : Bool} (h : FindR L l c v b) (hl : l ≠ []) (hc : c < L.length) (hs : standB L l c = true) : b = true ∧ v = c := by
  have hok : okAt L l c c = true := by unfold okAt; rw [hs]; simp
  rcases h with ⟨hb, _, i, hv, hi, h1, h2⟩ | ⟨hb, hv, h1 | h1⟩
  · refine ⟨hb, ?_⟩
    have h3 : c ≤ i := by
      unfold okAt at h1
      simp only [Bool.and_eq_true, decide_eq_true_eq] at h1
      exact h1.1
    have h4 : ¬ c < i := fun h5 => by rw [h2 c h5] at hok; cases hok
    have : i = c := by omega
    rw [hv, this]
  · exact absurd h1 hl
  · rw [h1 c hc] at hok; cases hok

set_option maxRecDepth 100000 in
set_option maxHeartbeats 4000000 in
theorem gapFinds_walk (s : ByteArray) (hs : s.size ≤ maxLen) (at_ many : Int) (hy0 : 0 ≤ many) (hy1 : many ≤ 255) (M : Option Addr) (m d : Nat) (l : List (List UInt8)) (w : World) (hT : Tabs w) (hm : m = l.length) (hmx : m ≤ maxLen) (hM : Sl w w.heap.size M (sv l)) (hlen : ∀ s ∈ l, s.length ≤ maxLen) :
    Calls Tryd.prog 5 #[.string s, .int .i64 at_, .int .u8 many, .slice M m d] w fun e w' => e = .returned (.bool true) ∧ Below w.heap.size w w' := by
  have HT := Lib.hid hT
  have hfil := filled_any s hs at_ w hT
  unfold FilP at hfil
  have hll := cutL_len s
  generalize cutL s = L at *
  obtain ⟨k0, hk0⟩ : ∃ k0, k0 = clampN at_ L.length := ⟨_, rfl⟩
  rw [← hk0] at hfil
  have hk0n : k0 ≤ L.length := by rw [hk0]; exact clampN_le _ _
  have HFIL := Lib.hid hfil
  have hsp : L.take k0 ++ L.drop k0 = L := List.take_append_drop _ _
  have HSP := Lib.hid hsp
  have HLN : Hid (ln (L.take k0) (L.drop k0) = L.length) := Lib.hid (by rw [ln_eq, hsp])
  obtain ⟨n, hn⟩ : ∃ n, n = L.length := ⟨_, rfl⟩
  rw [← hn] at hll HLN hk0n
  have HN := Lib.hid hn
  have HFEW := Lib.hid (fun w1 (hb : Below w.heap.size w w1) => few_any l M m d hm hmx w1 ((hM.below hb).more hb.size) hlen)
  have hfl := fewL_length l
  have hfc := fewL_len l
  generalize fewL l = t at *
  obtain ⟨tn, htn⟩ : ∃ tn, tn = t.length := ⟨_, rfl⟩
  rw [← htn] at HFEW hfl
  have HTN := Lib.hid htn
  have ht12 : tn ≤ 12 := by omega
  clear hfil hsp hk0 hn hT hs hm hmx hM hlen hfl htn hfc
  go_enter Tryd.func5, Tryd.ntmps5
  go_wp2_with (fail)
  refine HFIL.out.mono ?_
  rintro e w1 ⟨g, A, ns, C, f, tt, rfl, hg1, hb1⟩
  have hf : f = k0 := by have := hg1.fp; rw [List.length_take, ← HN.out] at this; omega
  subst hf
  have HG1 := Lib.hid hg1
  have HB1 := Lib.hid hb1
  clear hg1 hb1
  go_wp2_with (fail)
  have hline := gline_any HG1.out
  rw [HLN.out, HSP.out] at hline
  refine hline.mono ?_
  rintro e w2 ⟨A1, c1, rfl, ho1, hb2⟩
  have HG2 := Lib.hid (HG1.out.below hb2)
  have HB2 := Lib.hid (HB1.out.trans (hb2.mono HB1.out.size))
  have HS2 := Lib.hid ho1.sl
  have hcap : n ≤ c1 := ho1.cap
  clear hline ho1 hb2
  go_wp2_with (fail)
  refine (HFEW.out w2 HB2.out).mono ?_
  rintro e w3 ⟨A2, c2, rfl, ho3, hb3⟩
  have HG3 := Lib.hid (HG2.out.below hb3)
  have HB3 := Lib.hid (HB2.out.trans (hb3.mono HB2.out.size))
  have HS3 := Lib.hid (HS2.out.below hb3)
  have HT3 := Lib.hid ho3.sl
  have h23 := hb3.size
  clear ho3 hb3
  go_wp2_with (fail)
  have hfind : Calls Tryd.prog 20 #[.pointer (some ⟨g, 0, none⟩), .slice A2 tn c2] w3 (FindP w3 L t f) := by
    by_cases ht0 : t = []
    · have htn0 : tn = 0 := by rw [HTN.out, ht0]; rfl
      subst htn0
      refine (find_empty (w := w3) (some ⟨g, 0, none⟩) c2 A2).mono ?_
      rintro e w' ⟨he, hb⟩
      exact ⟨0, false, he, .inr ⟨rfl, rfl, .inl ht0⟩, hb⟩
    · have h := find_any HG3.out t A2 tn c2 HTN.out ht0 (by omega) HT3.out
      rw [HSP.out] at h
      exact h
  refine hfind.mono ?_
  rintro e w4 ⟨v, b, rfl, hr, hb4⟩
  have HG4 := Lib.hid (HG3.out.below hb4)
  have HB4 := Lib.hid (HB3.out.trans (hb4.mono HB3.out.size))
  have HS4 := Lib.hid (HS3.out.below (hb4.mono h23))
  have HT4 := Lib.hid (HT3.out.below hb4)
  have h34 := hb4.size
  have HR := Lib.hid hr
  clear hfind hr hb4
  go_wp2_with (fail)
  refine (gcursor_any HG4.out).mono ?_
  rintro e w5 ⟨rfl, hb5⟩
  have HG5 := Lib.hid (HG4.out.below hb5)
  have HB5 := Lib.hid (HB4.out.trans (hb5.mono HB4.out.size))
  have HS5 := Lib.hid (HS4.out.below (hb5.mono (Nat.le_trans h23 h34)))
  have HT5 := Lib.hid (HT4.out.below (hb5.mono h34))
  have h45 := hb5.size
  clear hb5
  -- what follows behind the first search
  obtain ⟨m2, hm2⟩ : ∃ m2 : Nat, m2 = min many.toNat (n - f) := ⟨_, rfl⟩
  have hm2i : min many ((n : Int) - f) = (m2 : Int) := by omega
  have hfm : f + m2 ≤ n := by omega
  obtain ⟨hi, hhi⟩ : ∃ hi, hi = f + m2 := ⟨_, rfl⟩
  have hhii : (f : Int) + m2 = (hi : Int) := by omega
  have hsub : hi - f = m2 := by omega
  have E2 : ∀ w, (Instr.slice 24 (.slice A1 n c1) (some (.int .i64 (f : Nat))) (some (.int .i64 ((f : Int) + (m2 : Int)))) none).run Tryd.prog w = .ok (.slice (bh A1 c1 f) m2 (c1 - f)) w := fun w => by
    have h := sl_lh A1 n c1 f hi (by omega) (by omega) w
    rw [hsub] at h
    rw [hhii]
    exact h
  have HE2 := Lib.hid E2
  clear E2
  have hfind2 : ∀ w6 : World, Below w5.heap.size w5 w6 → Calls Tryd.prog 20 #[.pointer (some ⟨g, 0, none⟩), .slice (bh A1 c1 f) m2 (c1 - f)] w6 (fun e w' => ∃ v2, e = .returned (.tuple #[.int .i64 v2, .bool (decide (0 < m2))]) ∧ (0 < m2 → v2 = f) ∧ Below w6.heap.size w6 w') := fun w6 hb6 => by
    rcases Nat.eq_zero_or_pos m2 with h0 | h0
    · rw [h0]
      refine (find_empty (w := w6) (some ⟨g, 0, none⟩) _ _).mono ?_
      rintro e w' ⟨he, hb⟩
      exact ⟨0, by simpa using he, fun h => absurd h (by omega), hb⟩
    · have hlen2 : ((L.drop f).take m2).length = m2 := by rw [List.length_take, List.length_drop, ← HN.out]; omega
      have hne : (L.drop f).take m2 ≠ [] := fun e => by rw [e] at hlen2; simp at hlen2; omega
      have h := find_any (HG5.out.below hb6) ((L.drop f).take m2) (bh A1 c1 f) m2 (c1 - f) hlen2.symm hne (by omega) (((sl_part HS5.out (by rw [← HN.out]; omega) (by rw [← HN.out]; exact hcap)).below (hb6.mono (Nat.le_trans (Nat.le_trans h23 h34) h45))).more (Nat.le_trans (Nat.le_trans (Nat.le_trans h23 h34) h45) hb6.size))
      rw [HSP.out] at h
      refine h.mono ?_
      rintro e w' ⟨v2, b2, he, hr2, hb⟩
      obtain ⟨e1, e2⟩ := findR_here hr2 hne (by rw [← HN.out]; omega) (by unfold standB; rw [hlen2]; simp)
      subst e1 e2
      exact ⟨f, by rw [he]; simp [h0], fun _ => rfl, hb⟩
  have HF2 := Lib.hid hfind2
  have HM2 := Lib.hid hm2i
  have HHI := Lib.hid hhii
  clear hfind2 hm2i hhii hm2 hhi hsub
  have hff : (f : Int) ≤ 200 := by omega
  have hmm : (m2 : Int) ≤ 200 := by omega
  have hr := HR.out
  rcases hr with ⟨hb, ht0, i, hv, hi1, hok, hmin⟩ | ⟨hb, hv, _⟩
  · subst hb hv
    have hfi : f ≤ i := by
      unfold okAt at hok
      simp only [Bool.and_eq_true, decide_eq_true_eq] at hok
      exact hok.1
    have hst : standB L t i = true := by
      unfold okAt at hok
      simp only [Bool.and_eq_true, decide_eq_true_eq] at hok
      exact hok.2
    have hsl := stand_len hst
    have hit : i + tn ≤ n := by have := HN.out; have := HTN.out; omega
    have hsame : (L.drop i).take tn = t := by rw [HTN.out]; exact of_decide_eq_true hst
    obtain ⟨hj, hhj⟩ : ∃ hj, hj = i + tn := ⟨_, rfl⟩
    have hji : (i : Int) + tn = (hj : Int) := by omega
    have hsub2 : hj - i = tn := by omega
    have E1 : ∀ w, (Instr.slice 24 (.slice A1 n c1) (some (.int .i64 (i : Nat))) (some (.int .i64 ((i : Int) + (tn : Int)))) none).run Tryd.prog w = .ok (.slice (bh A1 c1 i) tn (c1 - i)) w := fun w => by
      have h := sl_lh A1 n c1 i hj (by omega) (by omega) w
      rw [hsub2] at h
      rw [hji]
      exact h
    have hp5 := sl_part HS5.out (lo := i) (k := tn) (c := c1) (by rw [← HN.out]; exact hit) (by rw [← HN.out]; exact hcap)
    rw [hsame] at hp5
    have hcal := sameall_any t tn tn (bh A1 c1 i) A2 (c1 - i) c2 w5 (by have := HTN.out; omega) HTN.out HTN.out (hp5.more (Nat.le_trans (Nat.le_trans h23 h34) h45)) (HT5.out.more (Nat.le_trans h34 h45))
    have HCAL := Lib.hid hcal
    have HJI := Lib.hid hji
    have hii : (i : Int) ≤ 200 := by omega
    have q1 : ¬ ((i : Int) < f) := by omega
    have q2 : ¬ ((i : Int) > (n : Int) - tn) := by omega
    have hjl : (hj : Int) ≤ 200 := by omega
    clear hcal hji hsub2 hp5 hsame hst hsl hok hmin hi1 hhj ht0
    go_wp2_with (fail)
    refine HCAL.out.mono ?_
    rintro e w6 ⟨rfl, hb6⟩
    have HB6 := Lib.hid hb6
    clear hb6 E1 q1 q2
    go_upto_region 11 with (fail)
    rw [HM2.out]
    have E2 := HE2.out
    go_wp2_with (fail)
    refine (HF2.out w6 HB6.out).mono ?_
    rintro e w7 ⟨v2, rfl, hv2, hb7⟩
    have HB7 := Lib.hid (HB5.out.trans (((HB6.out).trans (hb7.mono (HB6.out).size)).mono HB5.out.size))
    clear hb7
    rcases Nat.eq_zero_or_pos m2 with h0 | h0
    · subst h0
      clear hv2 E2
      go_wp2_with (go_at_call 15; refine (gawake_any w7 (HT.out.below HB7.out)).mono ?_; rintro e w8 ⟨rfl, hb8⟩)
      go_ret
      exact ⟨rfl, HB7.out.trans (hb8.mono HB7.out.size)⟩
    · obtain rfl := hv2 h0
      have h0i : (m2 : Int) > 0 := by omega
      have h0d : decide (0 < m2) = true := by simpa using h0
      rw [h0d]
      clear hv2 E2
      go_wp2_with (go_at_call 15; refine (gawake_any w7 (HT.out.below HB7.out)).mono ?_; rintro e w8 ⟨rfl, hb8⟩)
      go_ret
      exact ⟨rfl, HB7.out.trans (hb8.mono HB7.out.size)⟩
  · subst hb hv
    go_upto_region 11 with (fail)
    rw [HM2.out]
    have E2 := HE2.out
    go_wp2_with (fail)
    refine (HF2.out w5 (Below.refl w5.heap.size w5)).mono ?_
    rintro e w7 ⟨v2, rfl, hv2, hb7⟩
    have HB7 := Lib.hid (HB5.out.trans (((Below.refl w5.heap.size w5).trans (hb7.mono (Below.refl w5.heap.size w5).size)).mono HB5.out.size))
    clear hb7
    rcases Nat.eq_zero_or_pos m2 with h0 | h0
    · subst h0
      clear hv2 E2
      go_wp2_with (go_at_call 15; refine (gawake_any w7 (HT.out.below HB7.out)).mono ?_; rintro e w8 ⟨rfl, hb8⟩)
      go_ret
      exact ⟨rfl, HB7.out.trans (hb8.mono HB7.out.size)⟩
    · obtain rfl := hv2 h0
      have h0i : (m2 : Int) > 0 := by omega
      have h0d : decide (0 < m2) = true := by simpa using h0
      rw [h0d]
      clear hv2 E2
      go_wp2_with (go_at_call 15; refine (gawake_any w7 (HT.out.below HB7.out)).mono ?_; rintro e w8 ⟨rfl, hb8⟩)
      go_ret
      exact ⟨rfl, HB7.out.trans (hb8.mono HB7.out.size)⟩
end Go.Proofs.YtcpihlmemjkloaaDoor
