/-
  Walks: the reference's Move and Strip.
-/
import Derived.Test.YtclkclamdnkdgaaDoorEsRef
import Derived.Test.YtclkclamdnkdgaaDoorEsStrip
namespace Go.Proofs.YtclkclamdnkdgaaDoor
open Go.RowKit
set_option linter.unusedVariables false
set_option linter.unusedSimpArgs false

set_option maxRecDepth 100000 in
set_option maxHeartbeats 4000000 in
theorem rmove_any (r c t u : Int) (w : World) :
    Calls Tryd.prog 15 #[.int .i64 r, .int .i64 c, .int .i64 t, .int .i64 u] w fun e w' => e = .returned (.string ⟨(moveB r c t u).toArray⟩) ∧ Below w.heap.size w w' := by
  have P1 := Lib.hid (rplace_any r)
  have P2 := Lib.hid (rplace_any c)
  have P3 := Lib.hid (rplace_any t)
  have P4 := Lib.hid (rplace_any u)
  have p1 := plc_le r
  have p2 := plc_le c
  have p3 := plc_le t
  have p4 := plc_le u
  have l1 := stepB_len (plc r - plc t) 65
  have l2 := stepB_len (plc t - plc r) 66
  have l3 := stepB_len (plc u - plc c) 67
  have l4 := stepB_len (plc c - plc u) 68
  have l5 := colB_len (plc u)
  have HE : Hid (moveB r c t u = alongC (plc r) (plc t) ++ alongR (plc c) (plc u)) := Lib.hid rfl
  generalize plc r = pr at *
  generalize plc c = pc at *
  generalize plc t = pt at *
  generalize plc u = pu at *
  have B1 := Lib.hid (by_any (pr - pt) 65)
  have B2 := Lib.hid (by_any (pt - pr) 66)
  have B3 := Lib.hid (by_any (pu - pc) 67)
  have B4 := Lib.hid (by_any (pc - pu) 68)
  have B5 := Lib.hid (rcol_any pu ⟨by omega, by omega⟩)
  have ha : alongC pr pt = stepB (pr - pt) 65 ++ stepB (pt - pr) 66 := rfl
  have hr : relR pc pu = stepB (pu - pc) 67 ++ stepB (pc - pu) 68 := rfl
  have hal := alongC_len pr pt
  have hb : alongR pc pu = if pc = pu then [] else if pu = 0 then [13] else if (colB pu).length < (relR pc pu).length then colB pu else relR pc pu := rfl
  generalize alongC pr pt = a at HE ha hal
  generalize alongR pc pu = b at HE hb
  generalize relR pc pu = rel at hr hb
  generalize stepB (pr - pt) 65 = a1 at *
  generalize stepB (pt - pr) 66 = a2 at *
  generalize stepB (pu - pc) 67 = a3 at *
  generalize stepB (pc - pu) 68 = a4 at *
  generalize colB pu = a5 at *
  have hadd : (⟨a1.toArray⟩ : ByteArray) ++ ⟨a2.toArray⟩ = ⟨a.toArray⟩ := by rw [es_add, ha]
  have hadd2 : (⟨a3.toArray⟩ : ByteArray) ++ ⟨a4.toArray⟩ = ⟨rel.toArray⟩ := by rw [es_add, hr]
  have hrl : rel.length ≤ 60 := by rw [hr, List.length_append]; omega
  clear ha hr
  by_cases hct : pc = pu
  · subst hct
    rw [if_pos rfl] at hb
    have HB := Lib.hid hb
    clear hb
    go_enter Tryd.func15, Tryd.ntmps15
    go_wp2_with (fail)
    refine (P1.out _).mono ?_
    rintro e w' ⟨rfl, rfl⟩
    go_wp2_with (fail)
    refine (P2.out _).mono ?_
    rintro e w' ⟨rfl, rfl⟩
    go_wp2_with (fail)
    refine (P3.out _).mono ?_
    rintro e w' ⟨rfl, rfl⟩
    go_wp2_with (fail)
    refine (P4.out _).mono ?_
    rintro e w' ⟨rfl, rfl⟩
    go_wp2_with (fail)
    refine (B1.out _).mono ?_
    rintro e w1 ⟨rfl, hb1⟩
    have HB1 := Lib.hid hb1
    clear hb1
    go_wp2_with (fail)
    refine (B2.out _).mono ?_
    rintro e w2 ⟨rfl, hb2⟩
    have HB2 := Lib.hid (HB1.out.trans (hb2.mono HB1.out.size))
    clear hb2
    go_wp2
    go_ret
    exact ⟨ret_str (by rw [HE.out, HB.out, List.append_nil]), HB2.out⟩
  · have hbe : (pc == pu) = false := by simpa using hct
    rw [if_neg hct] at hb
    by_cases h0 : pu = 0
    · subst h0
      rw [if_pos rfl] at hb
      have HB := Lib.hid hb
      have hcv : ∀ (w' : World), Sem.run Tryd.prog (Go.convert 45 9 (.slice (some ⟨w'.heap.size, 0, none⟩) 1 1)) (w'.alloc (.cells #[.int .u8 13] 5)) = .ok (.string ⟨[13].toArray⟩) (w'.alloc (.cells #[.int .u8 13] 5)) := fun w' => conv_new w' [13] 1 1 rfl
      clear hb
      go_enter Tryd.func15, Tryd.ntmps15
      go_wp2_with (fail)
      refine (P1.out _).mono ?_
      rintro e w' ⟨rfl, rfl⟩
      go_wp2_with (fail)
      refine (P2.out _).mono ?_
      rintro e w' ⟨rfl, rfl⟩
      go_wp2_with (fail)
      refine (P3.out _).mono ?_
      rintro e w' ⟨rfl, rfl⟩
      go_wp2_with (fail)
      refine (P4.out _).mono ?_
      rintro e w' ⟨rfl, rfl⟩
      go_wp2_with (fail)
      refine (B1.out _).mono ?_
      rintro e w1 ⟨rfl, hb1⟩
      have HB1 := Lib.hid hb1
      clear hb1
      go_wp2_with (fail)
      refine (B2.out _).mono ?_
      rintro e w2 ⟨rfl, hb2⟩
      have HB2 := Lib.hid (HB1.out.trans (hb2.mono HB1.out.size))
      clear hb2
      go_wp2
      go_ret
      exact ⟨ret_str (by rw [HE.out, HB.out, ← es_add]), HB2.out.alloc HB2.out.size _⟩
    · have hb0 : (pu == 0) = false := by simpa using h0
      rw [if_neg h0] at hb
      by_cases hl : a5.length < rel.length
      all_goals
        first | rw [if_pos hl] at hb | rw [if_neg hl] at hb
        have HB := Lib.hid hb
        clear hb
        go_enter Tryd.func15, Tryd.ntmps15
        go_wp2_with (fail)
        refine (P1.out _).mono ?_
        rintro e w' ⟨rfl, rfl⟩
        go_wp2_with (fail)
        refine (P2.out _).mono ?_
        rintro e w' ⟨rfl, rfl⟩
        go_wp2_with (fail)
        refine (P3.out _).mono ?_
        rintro e w' ⟨rfl, rfl⟩
        go_wp2_with (fail)
        refine (P4.out _).mono ?_
        rintro e w' ⟨rfl, rfl⟩
        go_wp2_with (fail)
        refine (B1.out _).mono ?_
        rintro e w1 ⟨rfl, hb1⟩
        have HB1 := Lib.hid hb1
        clear hb1
        go_wp2_with (fail)
        refine (B2.out _).mono ?_
        rintro e w2 ⟨rfl, hb2⟩
        have HB2 := Lib.hid (HB1.out.trans (hb2.mono HB1.out.size))
        clear hb2
        go_wp2_with (fail)
        refine (B3.out _).mono ?_
        rintro e w3 ⟨rfl, hb3⟩
        have HB3 := Lib.hid (HB2.out.trans (hb3.mono HB2.out.size))
        clear hb3
        go_wp2_with (fail)
        refine (B4.out _).mono ?_
        rintro e w4 ⟨rfl, hb4⟩
        have HB4 := Lib.hid (HB3.out.trans (hb4.mono HB3.out.size))
        clear hb4
        go_wp2_with (fail)
        refine (B5.out _).mono ?_
        rintro e w5 ⟨rfl, hb5⟩
        have HB5 := Lib.hid (HB4.out.trans (hb5.mono HB4.out.size))
        clear hb5
        go_wp2
        go_ret
        exact ⟨ret_str (by rw [HE.out, HB.out, ← es_add]), HB5.out⟩

theorem drop_cons {l : List UInt8} {k : Nat} (h : k < l.length) : l.drop k = l[k] :: l.drop (k + 1) := List.drop_eq_getElem_cons h
set_option maxRecDepth 100000 in
set_option maxHeartbeats 8000000 in
theorem rstrip_any (l : List UInt8) (hl : l.length ≤ 100000) (w : World) :
    Calls Tryd.prog 30 #[.string ⟨l.toArray⟩] w fun e w' => e = .returned (.string ⟨(stripB l).toArray⟩) ∧ Below w.heap.size w w' := by
  have hsl := stripB_le l
  obtain ⟨s, hs⟩ : ∃ s : ByteArray, s = ⟨l.toArray⟩ := ⟨_, rfl⟩
  have hsz : s.size = l.length := by rw [hs, es_size]
  have HG := Lib.hid (show ∀ (k : Nat) (hk : k < l.length) (h : k < s.size), s[k] = l[k] by intro k hk h; subst hs; rfl)
  rw [← hs]
  clear hs
  go_enter Tryd.func30, Tryd.ntmps30
  go_wp2
  go_loopw [3, 4] (fun v3 v4 wr => ∃ (k m c : Nat) (A : Option Addr) (acc : List UInt8), v4 = .int .i64 k ∧ v3 = .slice A m c ∧ k ≤ l.length + 1 ∧ OB wr w.heap.size A m c acc ∧ acc ++ stripB (l.drop k) = stripB l ∧ Below w.heap.size w wr) (fun _ v4 _ => l.length + 1 - (intOf v4).toNat)
  case atStart => exact ⟨0, 0, 0, none, [], rfl, rfl, by omega, OB.none_ _ _, rfl, Below.refl _ _⟩
  case round =>
    obtain ⟨k, m, c, A, acc, rfl, rfl, hk, hO, ha, hb⟩ := hrel
    have hm := hO.len
    have hal : m ≤ 100000 := by
      have := congrArg List.length ha
      rw [List.length_append] at this
      omega
    have HO := Lib.hid hO
    have HB := Lib.hid hb
    have HA := Lib.hid ha
    have HM := Lib.hid hm
    clear hO hb ha hm
    by_cases hlt : k < l.length
    · have hki : (k : Int) < (s.size : Int) := by omega
      have hg := HG.out k hlt (by omega)
      have hdc := drop_cons hlt
      have hbd := u8_bd l[k]
      by_cases hC : l[k] = 27 ∧ (l.drop (k + 1)).head? = some 91
      · obtain ⟨h27, h91⟩ := hC
        have h2 : k + 1 < l.length := by
          rcases Nat.lt_or_ge (k + 1) l.length with h | h
          · exact h
          · rw [List.drop_eq_nil_of_le h] at h91; cases h91
        have hdc2 := drop_cons h2
        rw [hdc2] at h91
        have h91' : l[k + 1] = 91 := Option.some.inj h91
        have hg2 := HG.out (k + 1) h2 (by omega)
        have HA2 := Lib.hid (show acc ++ stripB (skipB (l.drop (k + 2))) = stripB l by rw [← HA.out, hdc, h27, hdc2, h91', stripB_seq])
        rw [h27] at hg
        rw [h91'] at hg2
        have h2i : (k : Int) + 1 < (s.size : Int) := by omega
        clear hdc hbd h27 h91 hdc2 h91'
        go_wp2_with (fail)
        go_loop [4] (fun v4 => ∃ j : Nat, v4 = .int .i64 j ∧ k + 2 ≤ j ∧ j ≤ l.length ∧ skipB (l.drop j) = skipB (l.drop (k + 2))) (fun v4 => l.length - (intOf v4).toNat)
        case atStart => exact ⟨k + 2, by go_num, by omega, by omega, rfl⟩
        case round =>
          obtain ⟨j, rfl, hj1, hj2, hjs⟩ := hrel
          have HJ := Lib.hid hjs
          clear hjs hg hg2
          by_cases hjl : j < l.length
          · have hji : (j : Int) < (s.size : Int) := by omega
            have hgj := HG.out j hjl (by omega)
            have HN := Lib.hid (skip_no l j hjl)
            have HY := Lib.hid (skip_yes l j hjl)
            have hbj := u8_bd l[j]
            have HI := Lib.hid (isF_iff l[j])
            generalize l[j] = d at hgj HN HY hbj HI
            by_cases h1 : (d.toNat : Int) < 64
            · go_wp2
              go_round
              case rel => exact ⟨j + 1, by go_num, by omega, by omega, by rw [← HN.out (fun h => by have := HI.out.1 h; omega), HJ.out]⟩
              case measure => simp [intOf]; omega
            · by_cases h3 : 126 < (d.toNat : Int)
              · go_wp2
                go_round
                case rel => exact ⟨j + 1, by go_num, by omega, by omega, by rw [← HN.out (fun h => by have := HI.out.1 h; omega), HJ.out]⟩
                case measure => simp [intOf]; omega
              · have HA3 := Lib.hid (show acc ++ stripB (l.drop (j + 1)) = stripB l by rw [← HA2.out, ← HJ.out, HY.out (HI.out.2 ⟨by omega, by omega⟩)])
                go_wp2
                go_roundw
                case rel => exact ⟨j + 1, m, c, A, acc, by go_num, rfl, by omega, HO.out, HA3.out, HB.out⟩
                case measure => simp [intOf]; omega
          · have hji : ¬ (j : Int) < (s.size : Int) := by omega
            have HA3 := Lib.hid (show acc ++ stripB (l.drop (j + 1)) = stripB l by rw [← HA2.out, ← HJ.out, List.drop_eq_nil_of_le (show l.length ≤ j by omega), List.drop_eq_nil_of_le (show l.length ≤ j + 1 by omega)]; rfl)
            go_wp2
            go_roundw
            case rel => exact ⟨j + 1, m, c, A, acc, by go_num, rfl, by omega, HO.out, HA3.out, HB.out⟩
            case measure => simp [intOf]; omega
      · have HA2 := Lib.hid (show acc ++ ((if 32 ≤ l[k] then [l[k]] else []) ++ stripB (l.drop (k + 1))) = stripB l by rw [← HA.out, hdc, stripB_one _ _ hC])
        have hw : (l[k] = 27 → k + 1 < l.length → ∃ d : UInt8, d ≠ 91 ∧ ∀ h : k + 1 < s.size, s[k + 1] = d) := fun h27 h2 => ⟨l[k + 1], fun h => hC ⟨h27, by rw [drop_cons h2]; simp [h]⟩, fun h => HG.out (k + 1) h2 h⟩
        have HW := Lib.hid hw
        clear hC hdc hw
        generalize l[k] = b at hg hbd HA2 HW
        by_cases h27 : b = 27
        · subst h27
          have HA3 := Lib.hid (show acc ++ stripB (l.drop (k + 1)) = stripB l from HA2.out)
          by_cases h2 : k + 1 < l.length
          · obtain ⟨d, hd91, hdg⟩ := HW.out rfl h2
            have hg2 := hdg (by omega)
            have hbe : ((d.toNat : Int) == 91) = false := by
              have : ¬ (d.toNat : Int) = 91 := fun h => hd91 (UInt8.toNat_inj.1 (by show d.toNat = 91; omega))
              simpa using this
            have h2i : (k : Int) + 1 < (s.size : Int) := by omega
            clear hdg
            go_wp2
            go_roundw
            case rel => exact ⟨k + 1, m, c, A, acc, by go_num, rfl, by omega, HO.out, HA3.out, HB.out⟩
            case measure => simp [intOf]; omega
          · have h2i : ¬ (k : Int) + 1 < (s.size : Int) := by omega
            go_wp2
            go_roundw
            case rel => exact ⟨k + 1, m, c, A, acc, by go_num, rfl, by omega, HO.out, HA3.out, HB.out⟩
            case measure => simp [intOf]; omega
        · have hbe : ((b.toNat : Int) == 27) = false := by
            have : ¬ (b.toNat : Int) = 27 := fun h => h27 (UInt8.toNat_inj.1 (by show b.toNat = 27; omega))
            simpa using this
          by_cases h32 : 32 ≤ (b.toNat : Int)
          · have HA3 := Lib.hid (show (acc ++ [b]) ++ stripB (l.drop (k + 1)) = stripB l by rw [← HA2.out, if_pos (show (32 : UInt8) ≤ b from show (32 : Nat) ≤ b.toNat by omega), List.append_assoc])
            clear h27
            go_wp2_with (at_builtin
                         refine wpList_app_u8 _ rfl (.tmp 53) (.tmp 57) rfl w.heap.size A m c acc rfl (HO.out.alloc _) (some ⟨wr.heap.size, 0, none⟩) 1 1 [b] (wr.heap.size + 1) rfl (Sl.new wr #[.int .u8 b.toNat] 5) rfl (fun h => by cases h) (m + 1) rfl (by omega) (by have := HB.out.size; simp; omega) ?_
                         intro A3 c3 w3 h3 hg3 _
                         have HB3 := Lib.hid ((HB.out.alloc HB.out.size _).grown hg3 (by have := HB.out.size; simp; omega) (fun g hg => (HO.out.blk_lt g hg).1))
                         have H3 := Lib.hid h3
                         clear h3 hg3)
            go_roundw
            case rel => exact ⟨k + 1, m + 1, c3, A3, acc ++ [b], by go_num, rfl, by omega, H3.out, HA3.out, HB3.out⟩
            case measure => simp [intOf]; omega
          · have HA3 := Lib.hid (show acc ++ stripB (l.drop (k + 1)) = stripB l by rw [← HA2.out, if_neg (show ¬ (32 : UInt8) ≤ b from fun h => h32 (by have : (32 : Nat) ≤ b.toNat := h; omega)), List.nil_append])
            clear h27
            go_wp2
            go_roundw
            case rel => exact ⟨k + 1, m, c, A, acc, by go_num, rfl, by omega, HO.out, HA3.out, HB.out⟩
            case measure => simp [intOf]; omega
    · have hki : ¬ (k : Int) < (s.size : Int) := by omega
      have HE := Lib.hid (show acc = stripB l by have := HA.out; rw [List.drop_eq_nil_of_le (by omega), stripB_nil, List.append_nil] at this; exact this)
      have hcv := run_str_sl wr wr.heap.size A m c _ HO.out.sl HM.out
      go_wp2
      go_ret
      exact ⟨ret_str (by rw [HE.out]), HB.out⟩
end Go.Proofs.YtclkclamdnkdgaaDoor
