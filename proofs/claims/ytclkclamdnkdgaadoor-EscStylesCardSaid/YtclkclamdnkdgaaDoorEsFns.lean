/-
  Walks: esc's moves, erasures, modes.
-/
import Derived.Test.YtclkclamdnkdgaaDoorEsSeq
namespace Go.Proofs.YtclkclamdnkdgaaDoor
open Go.RowKit
set_option linter.unusedVariables false
set_option linter.unusedSimpArgs false

def i64b (n : Int) : Prop := -9223372036854775808 ≤ n ∧ n ≤ 9223372036854775807

theorem seq_new (o : Int) (h0 : 0 ≤ o) (h9 : o ≤ 9) (m : Int) (hm : i64b m) (w : World) (hT : Pow w) :
    Calls Tryd.prog 34 #[.int .i64 o, .slice (some ⟨w.heap.size, 0, none⟩) 1 1] (w.alloc (.cells #[.int .i64 m] 3)) fun e w' => e = .returned (.string ⟨(seqB [m] (finB o)).toArray⟩) ∧ Below w.heap.size w w' := by
  have hA : Below w.heap.size w (w.alloc (.cells #[.int .i64 m] 3)) := (Below.refl _ _).alloc (Nat.le_refl _) _
  have hl : i64s [m] := fun k hk => by rw [List.mem_singleton.1 hk]; exact hm
  refine (sequence_any o h0 h9 _ 1 1 [m] hl rfl (by simp) _ (w.heap.size + 1) (Sl.new w #[.int .i64 m] 3) (by simp) (hT.below hA)).mono ?_
  rintro e w' ⟨rfl, hb⟩
  exact ⟨rfl, hA.trans (hb.mono hA.size)⟩

set_option maxHeartbeats 1000000 in
theorem step_any (o : Int) (h0 : 0 ≤ o) (h9 : o ≤ 9) (n : Int) (hn : i64b n) (w : World) (hT : Pow w) :
    Calls Tryd.prog 31 #[.int .i64 o, .int .i64 n] w fun e w' => e = .returned (.string ⟨(stepB n (finB o)).toArray⟩) ∧ Below w.heap.size w w' := by
  obtain ⟨hn0, hn1⟩ := hn
  by_cases h : n < 1
  · have HE := Lib.hid (show stepB n (finB o) = [] from if_pos h)
    go_enter Tryd.func31, Tryd.ntmps31
    go_wp2
    go_ret
    exact ⟨ret_str (by rw [HE.out]), Below.refl _ _⟩
  · have HE := Lib.hid (show stepB n (finB o) = seqB [min n 9999] (finB o) from if_neg h)
    have HS := Lib.hid (seq_new o h0 h9 (min n 9999) ⟨by omega, by omega⟩ w hT)
    clear hT
    go_enter Tryd.func31, Tryd.ntmps31
    go_wp2_with (fail)
    refine HS.out.mono ?_
    rintro e w1 ⟨rfl, hb1⟩
    go_wp2
    go_ret
    exact ⟨ret_str (by rw [HE.out]), hb1⟩

theorem up_any (n : Int) (hn : i64b n) (w : World) (hT : Pow w) :
    Calls Tryd.prog 7 #[.int .i64 n] w fun e w' => e = .returned (.string ⟨(stepB n 65).toArray⟩) ∧ Below w.heap.size w w' := by
  have HS := Lib.hid (step_any 0 (by omega) (by omega) n hn w hT)
  clear hn hT
  go_enter Tryd.func7, Tryd.ntmps7
  go_wp2_with (fail)
  refine HS.out.mono ?_
  rintro e w1 ⟨rfl, hb1⟩
  go_wp2
  go_ret
  exact ⟨rfl, hb1⟩
theorem down_any (n : Int) (hn : i64b n) (w : World) (hT : Pow w) :
    Calls Tryd.prog 9 #[.int .i64 n] w fun e w' => e = .returned (.string ⟨(stepB n 66).toArray⟩) ∧ Below w.heap.size w w' := by
  have HS := Lib.hid (step_any 1 (by omega) (by omega) n hn w hT)
  clear hn hT
  go_enter Tryd.func9, Tryd.ntmps9
  go_wp2_with (fail)
  refine HS.out.mono ?_
  rintro e w1 ⟨rfl, hb1⟩
  go_wp2
  go_ret
  exact ⟨rfl, hb1⟩
theorem right_any (n : Int) (hn : i64b n) (w : World) (hT : Pow w) :
    Calls Tryd.prog 10 #[.int .i64 n] w fun e w' => e = .returned (.string ⟨(stepB n 67).toArray⟩) ∧ Below w.heap.size w w' := by
  have HS := Lib.hid (step_any 2 (by omega) (by omega) n hn w hT)
  clear hn hT
  go_enter Tryd.func10, Tryd.ntmps10
  go_wp2_with (fail)
  refine HS.out.mono ?_
  rintro e w1 ⟨rfl, hb1⟩
  go_wp2
  go_ret
  exact ⟨rfl, hb1⟩
theorem left_any (n : Int) (hn : i64b n) (w : World) (hT : Pow w) :
    Calls Tryd.prog 11 #[.int .i64 n] w fun e w' => e = .returned (.string ⟨(stepB n 68).toArray⟩) ∧ Below w.heap.size w w' := by
  have HS := Lib.hid (step_any 3 (by omega) (by omega) n hn w hT)
  clear hn hT
  go_enter Tryd.func11, Tryd.ntmps11
  go_wp2_with (fail)
  refine HS.out.mono ?_
  rintro e w1 ⟨rfl, hb1⟩
  go_wp2
  go_ret
  exact ⟨rfl, hb1⟩

set_option maxHeartbeats 1000000 in
theorem col_any (n : Int) (hn : i64b n) (w : World) (hT : Pow w) :
    Calls Tryd.prog 12 #[.int .i64 n] w fun e w' => e = .returned (.string ⟨(colB n).toArray⟩) ∧ Below w.heap.size w w' := by
  obtain ⟨hn0, hn1⟩ := hn
  by_cases h : n < 0
  · have HE := Lib.hid (show colB n = [] from if_pos h)
    go_enter Tryd.func12, Tryd.ntmps12
    go_wp2
    go_ret
    exact ⟨ret_str (by rw [HE.out]), Below.refl _ _⟩
  · have HE := Lib.hid (show colB n = seqB [min n 9998 + 1] (finB 4) from if_neg h)
    have hm0 : 0 ≤ min n 9998 := by omega
    have hm1 : min n 9998 ≤ 9998 := by omega
    have HS := Lib.hid (seq_new 4 (by omega) (by omega) (min n 9998 + 1) ⟨by omega, by omega⟩ w hT)
    clear hT
    go_enter Tryd.func12, Tryd.ntmps12
    go_wp2_with (fail)
    refine HS.out.mono ?_
    rintro e w1 ⟨rfl, hb1⟩
    go_wp2
    go_ret
    exact ⟨ret_str (by rw [HE.out]), hb1⟩

theorem place_any (n : Int) (hn : i64b n) (w : World) :
    Calls Tryd.prog 36 #[.int .i64 n] w fun e w' => e = .returned (.int .i64 (plc n)) ∧ w = w' := by
  obtain ⟨hn0, hn1⟩ := hn
  go_enter Tryd.func36, Tryd.ntmps36
  go_wp2
  go_ret
  exact ⟨rfl, rfl⟩

theorem stepB_len (n : Int) (c : UInt8) : (stepB n c).length ≤ 30 := by
  unfold stepB
  split
  · simp
  · next h =>
    unfold seqB
    rw [joinG_one]
    have := Lib.itoa_length_le (min n 9999) (by omega) (by omega)
    simp; omega
theorem colB_len (n : Int) : (colB n).length ≤ 30 := by
  unfold colB
  split
  · simp
  · next h =>
    unfold seqB
    rw [joinG_one]
    have := Lib.itoa_length_le (min n 9998 + 1) (by omega) (by omega)
    simp; omega

set_option maxHeartbeats 1000000 in
theorem alongC_any (r t : Int) (hr0 : 0 ≤ r) (hr1 : r ≤ 9998) (ht0 : 0 ≤ t) (ht1 : t ≤ 9998) (w : World) (hT : Pow w) :
    Calls Tryd.prog 35 #[.int .i64 r, .int .i64 t] w fun e w' => e = .returned (.string ⟨(alongC r t).toArray⟩) ∧ Below w.heap.size w w' := by
  have HU := Lib.hid (fun w => up_any (r - t) ⟨by omega, by omega⟩ w)
  have HD := Lib.hid (fun w => down_any (t - r) ⟨by omega, by omega⟩ w)
  have HT := Lib.hid hT
  have l1 := stepB_len (r - t) 65
  have l2 := stepB_len (t - r) 66
  have HE : Hid (alongC r t = stepB (r - t) 65 ++ stepB (t - r) 66) := Lib.hid rfl
  generalize stepB (r - t) 65 = a at HU l1 HE
  generalize stepB (t - r) 66 = b at HD l2 HE
  clear hT
  go_enter Tryd.func35, Tryd.ntmps35
  go_wp2_with (fail)
  refine (HU.out _ HT.out).mono ?_
  rintro e w1 ⟨rfl, hb1⟩
  have HB1 := Lib.hid hb1
  clear hb1
  go_wp2_with (fail)
  refine (HD.out _ (HT.out.below HB1.out)).mono ?_
  rintro e w2 ⟨rfl, hb2⟩
  have HB2 := Lib.hid hb2
  clear hb2
  go_wp2
  go_ret
  exact ⟨ret_str (by rw [HE.out, es_add]), HB1.out.trans (HB2.out.mono HB1.out.size)⟩

set_option maxHeartbeats 2000000 in
theorem alongR_any (c t : Int) (hc0 : 0 ≤ c) (hc1 : c ≤ 9998) (ht0 : 0 ≤ t) (ht1 : t ≤ 9998) (w : World) (hT : Pow w) :
    Calls Tryd.prog 37 #[.int .i64 c, .int .i64 t] w fun e w' => e = .returned (.string ⟨(alongR c t).toArray⟩) ∧ Below w.heap.size w w' := by
  by_cases hct : c = t
  · subst hct
    have HE := Lib.hid (show alongR c c = [] from if_pos rfl)
    go_enter Tryd.func37, Tryd.ntmps37
    go_wp2
    go_ret
    exact ⟨ret_str (by rw [HE.out]), Below.refl _ _⟩
  · have hb : (c == t) = false := by simpa using hct
    by_cases h0 : t = 0
    · subst h0
      have HE := Lib.hid (show alongR c 0 = [13] by unfold alongR; rw [if_neg hct, if_pos rfl])
      go_enter Tryd.func37, Tryd.ntmps37
      go_wp2
      go_ret
      exact ⟨ret_str (by rw [HE.out]), Below.refl _ _⟩
    · have hb0 : (t == 0) = false := by simpa using h0
      have HR := Lib.hid (fun w => right_any (t - c) ⟨by omega, by omega⟩ w)
      have HLf := Lib.hid (fun w => left_any (c - t) ⟨by omega, by omega⟩ w)
      have HC := Lib.hid (fun w => col_any t ⟨by omega, by omega⟩ w)
      have HT := Lib.hid hT
      have l1 := stepB_len (t - c) 67
      have l2 := stepB_len (c - t) 68
      have l3 := colB_len t
      have he : alongR c t = if (colB t).length < (relR c t).length then colB t else relR c t := by unfold alongR; rw [if_neg hct, if_neg h0]
      have hr : relR c t = stepB (t - c) 67 ++ stepB (c - t) 68 := rfl
      generalize colB t = k at HC l3 he
      generalize relR c t = R at he hr
      generalize stepB (t - c) 67 = a at HR l1 hr
      generalize stepB (c - t) 68 = b at HLf l2 hr
      have hadd : (⟨a.toArray⟩ : ByteArray) ++ ⟨b.toArray⟩ = ⟨R.toArray⟩ := by rw [es_add, hr]
      have hRl : R.length ≤ 60 := by rw [hr, List.length_append]; omega
      clear hr hT
      by_cases hl : k.length < R.length
      · rw [if_pos hl] at he
        have HE := Lib.hid he
        have hli : (k.length : Int) < (R.length : Int) := by omega
        clear he
        go_enter Tryd.func37, Tryd.ntmps37
        go_wp2_with (fail)
        refine (HR.out _ HT.out).mono ?_
        rintro e w1 ⟨rfl, hb1⟩
        have HB1 := Lib.hid hb1
        clear hb1
        go_wp2_with (fail)
        refine (HLf.out _ (HT.out.below HB1.out)).mono ?_
        rintro e w2 ⟨rfl, hb2⟩
        have HB2 := Lib.hid (HB1.out.trans (hb2.mono HB1.out.size))
        clear hb2
        go_wp2_with (fail)
        refine (HC.out _ (HT.out.below HB2.out)).mono ?_
        rintro e w3 ⟨rfl, hb3⟩
        have HB3 := Lib.hid (HB2.out.trans (hb3.mono HB2.out.size))
        clear hb3
        go_wp2
        go_ret
        exact ⟨ret_str (by rw [HE.out]), HB3.out⟩
      · rw [if_neg hl] at he
        have HE := Lib.hid he
        have hli : ¬ (k.length : Int) < (R.length : Int) := by omega
        clear he
        go_enter Tryd.func37, Tryd.ntmps37
        go_wp2_with (fail)
        refine (HR.out _ HT.out).mono ?_
        rintro e w1 ⟨rfl, hb1⟩
        have HB1 := Lib.hid hb1
        clear hb1
        go_wp2_with (fail)
        refine (HLf.out _ (HT.out.below HB1.out)).mono ?_
        rintro e w2 ⟨rfl, hb2⟩
        have HB2 := Lib.hid (HB1.out.trans (hb2.mono HB1.out.size))
        clear hb2
        go_wp2_with (fail)
        refine (HC.out _ (HT.out.below HB2.out)).mono ?_
        rintro e w3 ⟨rfl, hb3⟩
        have HB3 := Lib.hid (HB2.out.trans (hb3.mono HB2.out.size))
        clear hb3
        go_wp2
        go_ret
        exact ⟨ret_str (by rw [HE.out]), HB3.out⟩

theorem alongR_len (c t : Int) : (alongR c t).length ≤ 60 := by
  unfold alongR relR
  have h1 := colB_len t
  have h2 := stepB_len (t - c) 67
  have h3 := stepB_len (c - t) 68
  split
  · simp
  · split
    · simp
    · split
      · omega
      · rw [List.length_append]; omega
theorem alongC_len (r t : Int) : (alongC r t).length ≤ 60 := by
  unfold alongC
  have h2 := stepB_len (r - t) 65
  have h3 := stepB_len (t - r) 66
  rw [List.length_append]; omega

set_option maxHeartbeats 1000000 in
theorem move_any (r c t u : Int) (hr : i64b r) (hc : i64b c) (ht : i64b t) (hu : i64b u) (w : World) (hT : Pow w) :
    Calls Tryd.prog 14 #[.int .i64 r, .int .i64 c, .int .i64 t, .int .i64 u] w fun e w' => e = .returned (.string ⟨(moveB r c t u).toArray⟩) ∧ Below w.heap.size w w' := by
  have P1 := Lib.hid (place_any r hr)
  have P2 := Lib.hid (place_any t ht)
  have P3 := Lib.hid (place_any c hc)
  have P4 := Lib.hid (place_any u hu)
  have p1 := plc_le r
  have p2 := plc_le t
  have p3 := plc_le c
  have p4 := plc_le u
  have HC := Lib.hid (alongC_any (plc r) (plc t) p1.1 p1.2 p2.1 p2.2)
  have HR := Lib.hid (alongR_any (plc c) (plc u) p3.1 p3.2 p4.1 p4.2)
  have l1 := alongC_len (plc r) (plc t)
  have l2 := alongR_len (plc c) (plc u)
  have HE : Hid (moveB r c t u = alongC (plc r) (plc t) ++ alongR (plc c) (plc u)) := Lib.hid rfl
  generalize alongC (plc r) (plc t) = a at HC l1 HE
  generalize alongR (plc c) (plc u) = b at HR l2 HE
  generalize plc r = pr at *
  generalize plc t = pt at *
  generalize plc c = pc at *
  generalize plc u = pu at *
  have HT := Lib.hid hT
  clear hT hr hc ht hu
  go_enter Tryd.func14, Tryd.ntmps14
  go_wp2_with (fail)
  refine (P1.out _).mono ?_
  rintro e w' ⟨rfl, rfl⟩
  go_wp2_with (fail)
  refine (P2.out _).mono ?_
  rintro e w' ⟨rfl, rfl⟩
  go_wp2_with (fail)
  refine (HC.out _ HT.out).mono ?_
  rintro e w1 ⟨rfl, hb1⟩
  have HB1 := Lib.hid hb1
  clear hb1
  go_wp2_with (fail)
  refine (P3.out _).mono ?_
  rintro e w' ⟨rfl, rfl⟩
  go_wp2_with (fail)
  refine (P4.out _).mono ?_
  rintro e w' ⟨rfl, rfl⟩
  go_wp2_with (fail)
  refine (HR.out _ (HT.out.below HB1.out)).mono ?_
  rintro e w2 ⟨rfl, hb2⟩
  go_wp2
  go_ret
  exact ⟨ret_str (by rw [HE.out, es_add]), HB1.out.trans (hb2.mono HB1.out.size)⟩

theorem seq_none (o : Int) (h0 : 0 ≤ o) (h9 : o ≤ 9) (w : World) (hT : Pow w) :
    Calls Tryd.prog 34 #[.int .i64 o, .slice none 0 0] w fun e w' => e = .returned (.string ⟨[27, 91, finB o].toArray⟩) ∧ Below w.heap.size w w' :=
  sequence_any o h0 h9 none 0 0 [] (fun _ h => by cases h) rfl (by simp) w w.heap.size Sl.empty (Nat.le_refl _) hT
theorem eraseL_any (w : World) (hT : Pow w) :
    Calls Tryd.prog 17 #[] w fun e w' => e = .returned (.string ⟨([27, 91, 75] : List UInt8).toArray⟩) ∧ Below w.heap.size w w' := by
  have HS := Lib.hid (seq_none 6 (by omega) (by omega) w hT)
  clear hT
  go_enter Tryd.func17, Tryd.ntmps17
  go_wp2_with (fail)
  refine HS.out.mono ?_
  rintro e w1 ⟨rfl, hb1⟩
  go_wp2
  go_ret
  exact ⟨rfl, hb1⟩
theorem eraseB_any (w : World) (hT : Pow w) :
    Calls Tryd.prog 18 #[] w fun e w' => e = .returned (.string ⟨([27, 91, 74] : List UInt8).toArray⟩) ∧ Below w.heap.size w w' := by
  have HS := Lib.hid (seq_none 5 (by omega) (by omega) w hT)
  clear hT
  go_enter Tryd.func18, Tryd.ntmps18
  go_wp2_with (fail)
  refine HS.out.mono ?_
  rintro e w1 ⟨rfl, hb1⟩
  go_wp2
  go_ret
  exact ⟨rfl, hb1⟩
theorem seen_any (on : Bool) (w : World) (hT : Pow w) :
    Calls Tryd.prog 19 #[.bool on] w fun e w' => e = .returned (.string ⟨(modeB 25 on).toArray⟩) ∧ Below w.heap.size w w' := by
  have HS := Lib.hid (mode_any 25 (by omega) (by omega) on w hT)
  clear hT
  go_enter Tryd.func19, Tryd.ntmps19
  go_wp2_with (fail)
  refine HS.out.mono ?_
  rintro e w1 ⟨rfl, hb1⟩
  go_wp2
  go_ret
  exact ⟨rfl, hb1⟩
theorem paste_any (on : Bool) (w : World) (hT : Pow w) :
    Calls Tryd.prog 20 #[.bool on] w fun e w' => e = .returned (.string ⟨(modeB 2004 on).toArray⟩) ∧ Below w.heap.size w w' := by
  have HS := Lib.hid (mode_any 2004 (by omega) (by omega) on w hT)
  clear hT
  go_enter Tryd.func20, Tryd.ntmps20
  go_wp2_with (fail)
  refine HS.out.mono ?_
  rintro e w1 ⟨rfl, hb1⟩
  go_wp2
  go_ret
  exact ⟨rfl, hb1⟩
theorem bell_any (w : World) :
    Calls Tryd.prog 21 #[] w fun e w' => e = .returned (.string ⟨([7] : List UInt8).toArray⟩) ∧ w = w' := by
  go_enter Tryd.func21, Tryd.ntmps21
  go_wp2
  go_ret
  exact ⟨rfl, rfl⟩
end Go.Proofs.YtclkclamdnkdgaaDoor
