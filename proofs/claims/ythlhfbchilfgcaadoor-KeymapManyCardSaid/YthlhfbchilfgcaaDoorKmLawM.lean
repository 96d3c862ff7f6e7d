/-
  The law KeymapMany, walked.
-/
import Derived.Test.YthlhfbchilfgcaaDoorKmMany
namespace Go.Proofs.YthlhfbchilfgcaaDoor
open Go.RowKit Go.Maps Go.Sort
set_option linter.unusedVariables false
set_option linter.unusedSimpArgs false

/-- 'string([]byte{..})' of a row that was just made -/
theorem conv_m (W : World) (i : Nat) (hi : i < 650) :
    Sem.run Tryd.prog (Go.convert 64 9 (.slice (some ⟨W.heap.size, 0, none⟩) 2 2)) (W.alloc (.cells #[.int .u8 (97 + (i : Int) % 26), .int .u8 (97 + (i : Int) / 26)] 5)) = .ok (.string ⟨(mB i).toArray⟩) (W.alloc (.cells #[.int .u8 (97 + (i : Int) % 26), .int .u8 (97 + (i : Int) / 26)] 5)) := by
  have e : (bv (mB i)).toArray = #[.int .u8 (97 + (i : Int) % 26), .int .u8 (97 + (i : Int) / 26)] := by
    have h1 : (97 + i % 26) % 256 = 97 + i % 26 := by omega
    have h2 : (97 + i / 26) % 256 = 97 + i / 26 := by omega
    simp [bv, mB, UInt8.toNat_ofNat', h1, h2]
  have hS := Sl.new W (bv (mB i)).toArray 5
  rw [e] at hS
  have h := run_str_sl (W.alloc (.cells #[.int .u8 (97 + (i : Int) % 26), .int .u8 (97 + (i : Int) / 26)] 5)) (W.heap.size + 1) (some ⟨W.heap.size, 0, none⟩) 2 2 (mB i) (by rw [← e] at hS ⊢; simpa using hS) rfl
  exact h
set_option maxRecDepth 100000 in
set_option maxHeartbeats 4000000 in
theorem keymapMany_walk (x : Int) (lo : 0 ≤ x) (hi : x ≤ 255) (w : World) (hT : KmT w) :
    Calls Tryd.prog 5 #[.int .u8 x] w fun e w' => e = .returned (.bool true) ∧ Below w.heap.size w w' := by
  have HT := Lib.hid hT
  have hsn := run_eql_sn ⟨w.heap.size + 1, 0, none⟩
  clear hT
  go_enter Tryd.func5, Tryd.ntmps5
  go_upto_region 5 with (go_at_call 16; refine (mnew_any _).mono ?_; rintro e w1 ⟨rfl, hm, ho, hb⟩; have HM := Lib.hid hm; have HO := Lib.hid ho; have HB := Lib.hid hb; clear hm ho hb)
  obtain ⟨n, hn⟩ : ∃ n : Nat, 511 + x % 3 = (n : Int) := ⟨(511 + x % 3).toNat, by omega⟩
  have hn1 : 511 ≤ n := by omega
  have hn2 : n ≤ 513 := by omega
  rw [hn]
  generalize hM : w.heap.size + 1 = M at HM hsn ⊢
  have HMM := Lib.hid hM
  clear hM hn
  go_wp2_with (fail)
  go_loopw [5] (fun v5 wr => ∃ i : Nat, v5 = .int .i64 (i : Int) ∧ i ≤ n ∧ MOwns wr w.heap.size (min i 512) (MD (min i 512)) ∧ MBlk wr M w.heap.size ∧ Below w.heap.size w wr) (fun v5 _ => n - (intOf v5).toNat)
  case atStart => exact ⟨0, rfl, by omega, HO.out, HM.out, HB.out⟩
  case round =>
    obtain ⟨i, rfl, hi, ho, hm, hb⟩ := hrel
    have HO1 := Lib.hid ho
    have HM1 := Lib.hid hm
    have HB1 := Lib.hid hb
    clear ho hm hb HO HM HB
    by_cases hlt : i < n
    · have hki : (i : Int) < (n : Int) := by omega
      have hi6 : (i : Int) < 650 := by omega
      have hcv := conv_m wr i (by omega)
      by_cases h512 : i < 512
      · have hk5 : (i : Int) < 512 := by omega
        have hm1 : min i 512 = i := by omega
        have hm2 : min (i + 1) 512 = i + 1 := by omega
        have HM2 := Lib.hid hm2
        have HBY : Hid (∀ W, RowKit.Below wr.heap.size wr W → Calls Tryd.prog 26 #[.pointer (some ⟨M, 0, none⟩), .agg #[.int .i64 1, .string ⟨(mB i).toArray⟩, .int .i64 0, .bool true, .bool false, .bool false], .int .i64 15] W fun e w' => e = .returned (.int .i64 0) ∧ ∃ w1, RowKit.Below W.heap.size W w1 ∧ MOwns w' w.heap.size (i + 1) (MD (i + 1)) ∧ w1.grownBy w' (some w.heap.size)) := Lib.hid (fun W hW => by
          have h := HO1.out
          rw [hm1] at h
          exact bind_yes M w.heap.size i (MD i) (kM i) (okM i) 15 (by omega) (by omega) W (HM1.out.below hW HM1.out.lt) (MOwns.bel h hW) (((HT.out.below HB1.out (Nat.le_refl _)).below hW (by have := HB1.out.size; omega)).nm) (by omega) (.inr (by rw [md_size (by omega)]; omega)))
        clear hm1 hm2
        go_wp2_with (go_at_call 26; refine (HBY.out _ (kstep (kbel _ _) (kbel _ _))).mono ?_; rintro e w3 ⟨rfl, w2, hb2, ho3, hg3⟩; have HB2 := Lib.hid (kstep (kstep (kbel wr _) (kbel _ _)) hb2); have HO3 := Lib.hid ho3; have HG3 := Lib.hid hg3; clear hb2 ho3 hg3)
        go_roundw
        case rel =>
          have hm2 := HM1.out.below HB2.out HM1.out.lt
          exact ⟨i + 1, by go_num, by omega, by rw [HM2.out]; exact HO3.out, (HG3.out.block M hm2.lt (fun e => by have := HMM.out; injection e with e; omega)).trans hm2, (HB1.out.trans (HB2.out.mono HB1.out.size)).grown HG3.out (by have := HB1.out.size; have := HB2.out.size; omega) (fun k hk => by injection hk with hk; omega)⟩
        case measure => simp [intOf]; omega
      · have hk5 : ¬ (i : Int) < 512 := by omega
        have hk6 : (512 : Int) ≤ (i : Int) := by omega
        have hm1 : min i 512 = 512 := by omega
        have hm2 : min (i + 1) 512 = 512 := by omega
        have HM2 := Lib.hid hm2
        have HM3 := Lib.hid hm1
        have HBY : Hid (∀ W, RowKit.Below wr.heap.size wr W → Calls Tryd.prog 26 #[.pointer (some ⟨M, 0, none⟩), .agg #[.int .i64 1, .string ⟨(mB i).toArray⟩, .int .i64 0, .bool true, .bool false, .bool false], .int .i64 15] W fun e w' => e = .returned (.int .i64 3) ∧ RowKit.Below W.heap.size W w') := Lib.hid (fun W hW => by
          have h := HO1.out
          rw [hm1] at h
          exact bind_many M w.heap.size 512 (MD 512) (kM i) (okM i) 15 (by omega) (by omega) W (HM1.out.below hW HM1.out.lt) (MOwns.bel h hW) (((HT.out.below HB1.out (Nat.le_refl _)).below hW (by have := HB1.out.size; omega)).nm) ⟨md_new (by omega) (by omega), by rw [md_size (by omega)]; omega⟩)
        clear hm1 hm2
        go_wp2_with (go_at_call 26; refine (HBY.out _ (kstep (kbel _ _) (kbel _ _))).mono ?_; rintro e w2 ⟨rfl, hb2⟩; have HB2 := Lib.hid (kstep (kstep (kbel wr _) (kbel _ _)) hb2); clear hb2)
        go_roundw
        case rel => exact ⟨i + 1, by go_num, by omega, by rw [HM2.out]; have h := HO1.out; rw [HM3.out] at h; exact MOwns.bel h HB2.out, HM1.out.below HB2.out HM1.out.lt, HB1.out.trans (HB2.out.mono HB1.out.size)⟩
        case measure => simp [intOf]; omega
    · have hki : ¬ (i : Int) < (n : Int) := by omega
      obtain rfl : i = n := by omega
      obtain ⟨q, hq⟩ : ∃ q, q = min i 512 := ⟨_, rfl⟩
      have hq1 : 511 ≤ q := by omega
      have hq2 : q ≤ 512 := by omega
      have hz : min (i : Int) 512 = (q : Int) := by omega
      rw [← hq] at HO1
      have HLN : Hid (Calls Tryd.prog 30 #[.pointer (some ⟨M, 0, none⟩)] wr fun e w' => e = .returned (.int .i64 q) ∧ wr = w') := Lib.hid (by
        have h := mlen_yes M w.heap.size q (MD q) wr HM1.out HO1.out
        rw [md_size (by omega)] at h
        exact h)
      have HBY : Hid (Calls Tryd.prog 26 #[.pointer (some ⟨M, 0, none⟩), .agg #[.int .i64 1, .string ⟨#[97, 97]⟩, .int .i64 0, .bool true, .bool false, .bool false], .int .i64 16] wr fun e w' => e = .returned (.int .i64 0) ∧ RowKit.Below w.heap.size w w') := Lib.hid (by
        refine (bind_yes M w.heap.size q (MD q) (kM 0) (okM 0) 16 (by omega) (by omega) wr HM1.out HO1.out ((HT.out.below HB1.out (Nat.le_refl _)).nm) (by omega) (.inl (md_first (by omega) (by omega)))).mono ?_
        rintro e w3 ⟨rfl, w2, hb2, _, hg3⟩
        exact ⟨rfl, (HB1.out.trans (hb2.mono HB1.out.size)).grown hg3 (by have := HB1.out.size; have := hb2.size; omega) (fun k hk => by injection hk with hk; omega)⟩)
      clear hq
      go_wp2_with (first
        | (go_at_call 30; refine HLN.out.mono ?_; rintro e w' ⟨rfl, rfl⟩)
        | (go_at_call 26; refine HBY.out.mono ?_; rintro e w3 ⟨rfl, hb3⟩; have HB3 := Lib.hid hb3; clear hb3)
        | (go_at_call 15; refine (mawake_any _ (HT.out.below HB3.out (Nat.le_refl _))).mono ?_; rintro e w9 ⟨rfl, hb9⟩; have HB9 := Lib.hid hb9; clear hb9))
      go_ret
      exact ⟨rfl, HB3.out.trans (HB9.out.mono HB3.out.size)⟩
end Go.Proofs.YthlhfbchilfgcaaDoor
