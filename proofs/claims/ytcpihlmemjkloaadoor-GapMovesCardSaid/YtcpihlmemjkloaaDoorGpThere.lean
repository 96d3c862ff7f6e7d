/-
  Walk: GapThere.
-/
import Derived.Test.YtcpihlmemjkloaaDoorGpFilled
namespace Go.Proofs.YtcpihlmemjkloaaDoor
open Go.RowKit
set_option linter.unusedVariables false
set_option linter.unusedSimpArgs false

theorem clampN_max (x : Int) (L b : Nat) (h : clampN x L < b) (hb : b ≤ L) : clampN (max 0 x) (L - (b - clampN x L)) = clampN x L := by
  unfold clampN at *
  omega
theorem mid_split (L : List (List UInt8)) (a b : Nat) (h : a ≤ b) (hb : b ≤ L.length) : L.take a ++ ((L.drop a).take (b - a) ++ L.drop b) = L := by
  have e : L.drop b = (L.drop a).drop (b - a) := by rw [List.drop_drop]; congr 1; omega
  rw [e, List.take_append_drop, List.take_append_drop]

set_option maxRecDepth 100000 in
set_option maxHeartbeats 4000000 in
theorem gapThere_walk (s : ByteArray) (hs : s.size ≤ maxLen) (at_ x y : Int) (w : World) (hT : Tabs w) :
    Calls Tryd.prog 3 #[.string s, .int .i64 at_, .int .i64 x, .int .i64 y] w fun e w' => e = .returned (.bool true) ∧ Below w.heap.size w w' := by
  have HT := Lib.hid hT
  have hfil := filled_any s hs at_ w hT
  unfold FilP at hfil
  have hll := cutL_len s
  have his := cutL_is s
  generalize cutL s = L at *
  obtain ⟨k0, hk0⟩ : ∃ k0, k0 = clampN at_ L.length := ⟨_, rfl⟩
  rw [← hk0] at hfil
  have HFIL := Lib.hid hfil
  have hsp : L.take k0 ++ L.drop k0 = L := List.take_append_drop _ _
  have HSP := Lib.hid hsp
  have HLN : Hid (ln (L.take k0) (L.drop k0) = L.length) := Lib.hid (by rw [ln_eq, hsp])
  obtain ⟨n, hn⟩ : ∃ n, n = L.length := ⟨_, rfl⟩
  rw [← hn] at hll HLN
  have HN := Lib.hid hn
  have HIS := Lib.hid his
  clear hfil hsp hk0 hn hT hs his
  go_enter Tryd.func3, Tryd.ntmps3
  go_wp2_with (fail)
  refine HFIL.out.mono ?_
  rintro e w1 ⟨g, A, ns, C, f, t, rfl, hg1, hb1⟩
  have HG1 := Lib.hid hg1
  have HB1 := Lib.hid hb1
  clear hg1 hb1
  go_wp2_with (fail)
  have hline := gline_any HG1.out
  rw [HLN.out, HSP.out] at hline
  refine hline.mono ?_
  rintro e w2 ⟨A1, c1, rfl, ho1, hb2⟩
  have HG2 := Lib.hid (HG1.out.below hb2)
  have HB2 := Lib.hid (HB1.out.trans (hb2.mono HB1.out.size))
  have HS2 := Lib.hid ho1.sl
  have HA1 : Hid (∀ b off, A1 = some ⟨b, off, none⟩ → ¬ GpOwn g A b) := Lib.hid (fun b off e h => by
    have h1 := (ho1.blk_lt b (by rw [e]; rfl)).1
    have h2 := (HG1.out.own_lt b h).2
    omega)
  clear hline ho1 hb2
  go_wp2_with (fail)
  have hroom := groom_any HG2.out
  rw [HLN.out] at hroom
  refine hroom.mono ?_
  rintro e w3 ⟨rfl, hb3⟩
  have HG3 := Lib.hid (HG2.out.below hb3)
  have HB3 := Lib.hid (HB2.out.trans (hb3.mono HB2.out.size))
  have HS3 := Lib.hid (HS2.out.below hb3)
  have h23 : w2.heap.size ≤ w3.heap.size := hb3.size
  clear hroom hb3
  go_wp2_with (fail)
  have hay := clampN_le y n
  have hax := clampN_le x n
  by_cases hab : clampN x n < clampN y n
  · have hdel := gdelete_yes HG3.out x y (by rw [HLN.out]; exact hab)
    rw [HLN.out, HSP.out] at hdel
    have hmx := clampN_max x n (clampN y n) hab hay
    have hms := mid_split L (clampN x n) (clampN y n) (by omega) (by rw [← HN.out]; exact hay)
    generalize clampN x n = a at *
    generalize clampN y n = b at *
    have hsum : ((300 - (n - (b - a)) : Nat) : Int) = ((300 - n : Nat) : Int) + ((b - a : Nat) : Int) := by omega
    have hlen1 : ((n - (b - a) : Nat) : Int) = (n : Int) - ((b - a : Nat) : Int) := by omega
    obtain ⟨k, hk⟩ : ∃ k, k = b - a := ⟨_, rfl⟩
    unfold DelP at hdel
    rw [← hk] at hdel hmx hms hsum hlen1
    have hk0 : (k : Int) > 0 := by omega
    have hk1 : 1 ≤ k := by omega
    have hkn : k ≤ n := by omega
    have hL2 : (L.take a ++ L.drop b).length = n - k := by rw [List.length_append, List.length_take, List.length_drop, ← HN.out]; omega
    have hgl : ((L.drop a).take k).length = k := by rw [List.length_take, List.length_drop, ← HN.out]; omega
    obtain ⟨d, hd⟩ : ∃ d, d = delC f a b := ⟨_, rfl⟩
    rw [← hd] at hdel
    obtain ⟨L2, hL2'⟩ : ∃ L2, L2 = L.take a ++ L.drop b := ⟨_, rfl⟩
    rw [← hL2'] at hdel hL2
    have hln2 : ln (L2.take d) (L2.drop d) = n - k := by rw [ln_eq, List.take_append_drop, hL2]
    have ht2 : L2.take a = L.take a := by rw [hL2', List.take_left' (by rw [List.length_take, ← HN.out]; omega)]
    have hd2 : L2.drop a = L.drop b := by rw [hL2', List.drop_left' (by rw [List.length_take, ← HN.out]; omega)]
    have HMX := Lib.hid hmx
    have HMS := Lib.hid hms
    have HLN2 := Lib.hid hln2
    have HD2 := Lib.hid hd2
    have HT2 := Lib.hid ht2
    have HGL := Lib.hid hgl
    have HAD : Hid (L2.take d ++ L2.drop d = L2) := Lib.hid (List.take_append_drop _ _)
    obtain ⟨r2, hr2⟩ : ∃ r2 : Nat, r2 = 300 - (n - k) := ⟨_, rfl⟩
    obtain ⟨r1, hr1⟩ : ∃ r1 : Nat, r1 = 300 - n := ⟨_, rfl⟩
    obtain ⟨l2, hl2⟩ : ∃ l2 : Nat, l2 = n - k := ⟨_, rfl⟩
    rw [← hr2, ← hr1] at hsum
    rw [← hl2] at hlen1
    have HR2 := Lib.hid hr2
    have HR1 := Lib.hid hr1
    have HL2 := Lib.hid hl2
    have HSUM := Lib.hid hsum
    have HLEN1 := Lib.hid hlen1
    have hki : (k : Int) ≤ 200 := by omega
    have hr1i : (r1 : Int) ≤ 300 := by omega
    rw [← hr1]
    refine hdel.mono ?_
    rintro e w4 ⟨g2, tl, f4, t4, rfl, hg2, hbk4, hg4, hc4⟩
    have HG4 := Lib.hid hg4
    have HB4 := Lib.hid (HB3.out.trans (hc4.below HB3.out.size (fun k hk => (HG3.out.own_lt k hk).1)))
    have HS4 := Lib.hid (hc4.sl HS3.out h23 HA1.out)
    have HBK4 := Lib.hid hbk4
    have h34 := hc4.size
    have hg2o : Hid (¬ GpOwn g A g2) := Lib.hid (fun h => by have := (HG3.out.own_lt g2 h).2; omega)
    clear hdel hmx hms hsum hlen1 hk hd hln2 ht2 hd2 hgl hr2 hr1 hl2 hL2 hL2' hbk4 hg4 hc4
    have hroom4 := fun (w5 : World) (h5 : GpAt w5 w.heap.size g A ns C 300 f4 t4 (L2.take d) (L2.drop d)) => groom_any h5
    have hlen4 := fun (w5 : World) (h5 : GpAt w5 w.heap.size g A ns C 300 f4 t4 (L2.take d) (L2.drop d)) => glen_any h5
    rw [HLN2.out, ← HR2.out] at hroom4
    rw [HLN2.out, ← HL2.out] at hlen4
    have HRO := Lib.hid hroom4
    have HLE := Lib.hid hlen4
    clear hroom4 hlen4
    go_wp2_with (fail)
    refine (HRO.out _ HG4.out).mono ?_
    rintro e w5 ⟨rfl, hb5⟩
    have HG5 := Lib.hid (HG4.out.below hb5)
    have HB5 := Lib.hid hb5
    rw [HSUM.out]
    clear hb5
    go_wp2_with (fail)
    refine (HLE.out _ HG5.out).mono ?_
    rintro e w6 ⟨rfl, hb6⟩
    have HG6 := Lib.hid (HG5.out.below hb6)
    have HB6 := Lib.hid (HB5.out.trans (hb6.mono HB5.out.size))
    have HS6 := Lib.hid (HS4.out.below (HB6.out.mono (Nat.le_trans h23 h34)))
    rw [HLEN1.out]
    clear hb6
    have hmv : ∀ z : Int, clampN z (n - k) = a → Calls Tryd.prog 12 #[.pointer (some ⟨g, 0, none⟩), .int .i64 z] w6 fun e w' => e = .returned (.int .i64 (a : Nat)) ∧ (∃ f' t', GpAt w' w.heap.size g A ns C 300 f' t' (L.take a) (L.drop b)) ∧ Chg (GpOwn g A) w6 w' := fun z hz => by
      have h := gmove_any HG6.out z
      rw [HLN2.out, hz, HAD.out, HT2.out, HD2.out] at h
      exact h
    have HMV := Lib.hid hmv
    clear hmv
    go_wp2_with (fail)
    have hz := HMX.out
    refine (HMV.out _ hz).mono ?_
    rintro e w7 ⟨rfl, ⟨f7, t7, hg7⟩, hc7⟩
    have HG7 := Lib.hid hg7
    have HB7 := Lib.hid ((HB4.out.trans (HB6.out.mono HB4.out.size)).trans (hc7.below (Nat.le_trans HB4.out.size HB6.out.size) (fun k hk => (HG6.out.own_lt k hk).1)))
    have HS7 := Lib.hid (hc7.sl HS6.out (Nat.le_trans (Nat.le_trans h23 h34) HB6.out.size) HA1.out)
    have hbk7 : Blk w7 g2 9 (sv ((L.drop a).take k) ++ tl) := ((HBK4.out.below HB6.out HBK4.out.lt)).chg hc7 hg2o.out
    have h67 := hc7.size
    have h46 := HB6.out.size
    have hx7 : Sl w7 w7.heap.size (some ⟨g2, 0, none⟩) (sv ((L.drop a).take k)) := by
      have h := (hbk7.sl).take k
      rw [List.take_left' (by rw [sv_length, HGL.out])] at h
      exact h
    have hl7 : ln (L.take a) (L.drop b) = n - k := by rw [← HT2.out, ← HD2.out, ln_eq, List.take_append_drop, ← HAD.out, ← ln_eq]; exact HLN2.out
    have hins := ginsert_ok HG7.out ((HT.out.below HB7.out)) ((L.drop a).take k) (some ⟨g2, 0, none⟩) k k HGL.out.symm (by omega) hx7 (fun b off e h => hg2o.out (.inl (by injection e with e; injection e with e; omega))) (fun c hc => by have := isC_len (HIS.out c (List.mem_of_mem_drop (List.mem_of_mem_take hc))); omega) (fun c hc => HIS.out c (List.mem_of_mem_drop (List.mem_of_mem_take hc))) (by rw [hl7]; omega)
    have HINS := Lib.hid hins
    clear hins hbk7 hx7 hl7 hg7 hz
    go_wp2_with (fail)
    refine HINS.out.mono ?_
    rintro e w8 ⟨rfl, A8, n8, C8, t8, hg8, hc8, hA8⟩
    have HG8 := Lib.hid hg8
    have HB8 := Lib.hid (HB7.out.trans (hc8.below HB7.out.size (fun k hk => (HG7.out.own_lt k hk).1)))
    have HS8 := Lib.hid (hc8.sl HS7.out (Nat.le_trans (Nat.le_trans (Nat.le_trans h23 h34) HB6.out.size) h67) HA1.out)
    have h78 := hc8.size
    have hz8 : (L.take a ++ (L.drop a).take k) ++ L.drop b = L := by rw [List.append_assoc]; exact HMS.out
    have hln8 : ln (L.take a ++ (L.drop a).take k) (L.drop b) = n := by rw [ln_eq, hz8]; exact HN.out.symm
    have hline8 := gline_any HG8.out
    rw [hln8, hz8] at hline8
    have hroom8 := fun (w9 : World) (h9 : GpAt w9 w.heap.size g A8 n8 C8 300 (L.take a ++ (L.drop a).take k).length t8 (L.take a ++ (L.drop a).take k) (L.drop b)) => groom_any h9
    rw [hln8, ← HR1.out] at hroom8
    have HLI8 := Lib.hid hline8
    have HRO8 := Lib.hid hroom8
    clear hz8 hln8 hline8 hroom8 hg8 hc8 hA8 hc7
    go_wp2_with (first
      | (go_at_call 8; refine HLI8.out.mono ?_; rintro e w9 ⟨A9, c9, rfl, ho9, hb9⟩; have HG9 := Lib.hid (HG8.out.below hb9); have HB9 := Lib.hid (HB8.out.trans (hb9.mono HB8.out.size)); have HS9 := Lib.hid ((HS8.out.more (by omega)).below hb9); have HO9 := Lib.hid ho9.sl; have h89 := hb9.size; clear ho9 hb9)
      | (go_at_call 14; refine (sameall_any L n n A9 A1 c9 c1 w9 (by have := HN.out; omega) HN.out HN.out HO9.out (HS9.out.more (by omega))).mono ?_; rintro e w10 ⟨rfl, hb10⟩; have HG10 := Lib.hid (HG9.out.below hb10); have HB10 := Lib.hid (HB9.out.trans (hb10.mono HB9.out.size)); clear hb10)
      | (go_at_call 9; refine (HRO8.out _ HG10.out).mono ?_; rintro e w11 ⟨rfl, hb11⟩; have HB11 := Lib.hid (HB10.out.trans (hb11.mono HB10.out.size)); clear hb11)
      | (go_at_call 15; refine (gawake_any w11 (HT.out.below HB11.out)).mono ?_; rintro e w12 ⟨rfl, hb12⟩))
    go_ret
    exact ⟨rfl, HB11.out.trans (hb12.mono HB11.out.size)⟩
  · have hdel := gdelete_no HG3.out x y (by rw [HLN.out]; omega)
    have HROOM := Lib.hid (fun (w5 : World) (h5 : GpAt w5 w.heap.size g A ns C 300 f t (L.take k0) (L.drop k0)) => (by have h := groom_any h5; rw [HLN.out] at h; exact h : Calls Tryd.prog 9 #[.pointer (some ⟨g, 0, none⟩)] w5 fun e w' => e = .returned (.int .i64 (300 - n : Nat)) ∧ Below w5.heap.size w5 w'))
    have HLEN := Lib.hid (fun (w5 : World) (h5 : GpAt w5 w.heap.size g A ns C 300 f t (L.take k0) (L.drop k0)) => (by have h := glen_any h5; rw [HLN.out] at h; exact h : Calls Tryd.prog 11 #[.pointer (some ⟨g, 0, none⟩)] w5 fun e w' => e = .returned (.int .i64 (n : Nat)) ∧ Below w5.heap.size w5 w'))
    have HLINE := Lib.hid (fun (w5 : World) (h5 : GpAt w5 w.heap.size g A ns C 300 f t (L.take k0) (L.drop k0)) => (by have h := gline_any h5; rw [HLN.out, HSP.out] at h; exact h : Calls Tryd.prog 8 #[.pointer (some ⟨g, 0, none⟩)] w5 (CatP w5 n (sv L))))
    obtain ⟨r1, hr1⟩ : ∃ r1 : Nat, r1 = 300 - n := ⟨_, rfl⟩
    rw [← hr1] at HROOM ⊢
    have hr1i : (r1 : Int) ≤ 300 := by omega
    have HDEL := Lib.hid hdel
    clear hdel hr1 hab hax hay
    go_wp2_with (fail)
    refine HDEL.out.mono ?_
    rintro e w4 ⟨rfl, hb4⟩
    have HG4 := Lib.hid (HG3.out.below hb4)
    have HB4 := Lib.hid (HB3.out.trans (hb4.mono HB3.out.size))
    have HS4 := Lib.hid ((HS3.out.more h23).below hb4)
    have h34 := hb4.size
    clear hb4
    go_wp2_with (fail)
    refine (HROOM.out _ HG4.out).mono ?_
    rintro e w5 ⟨rfl, hb5⟩
    have HG5 := Lib.hid (HG4.out.below hb5)
    have HB5 := Lib.hid (HB4.out.trans (hb5.mono HB4.out.size))
    have HS5 := Lib.hid ((HS4.out.more h34).below hb5)
    have h45 := hb5.size
    clear hb5
    go_wp2_with (fail)
    refine (HLEN.out _ HG5.out).mono ?_
    rintro e w6 ⟨rfl, hb6⟩
    have HG6 := Lib.hid (HG5.out.below hb6)
    have HB6 := Lib.hid (HB5.out.trans (hb6.mono HB5.out.size))
    have HS6 := Lib.hid ((HS5.out.more h45).below hb6)
    have h56 := hb6.size
    clear hb6
    go_wp2_with (first
      | (go_at_call 8; refine (HLINE.out _ HG6.out).mono ?_; rintro e w9 ⟨A9, c9, rfl, ho9, hb9⟩; have HG9 := Lib.hid (HG6.out.below hb9); have HB9 := Lib.hid (HB6.out.trans (hb9.mono HB6.out.size)); have HS9 := Lib.hid ((HS6.out.more h56).below hb9); have HO9 := Lib.hid ho9.sl; have h89 := hb9.size; clear ho9 hb9)
      | (go_at_call 14; refine (sameall_any L n n A9 A1 c9 c1 w9 (by have := HN.out; omega) HN.out HN.out HO9.out (HS9.out.more (by omega))).mono ?_; rintro e w10 ⟨rfl, hb10⟩; have HG10 := Lib.hid (HG9.out.below hb10); have HB10 := Lib.hid (HB9.out.trans (hb10.mono HB9.out.size)); clear hb10)
      | (go_at_call 9; refine (HROOM.out _ HG10.out).mono ?_; rintro e w11 ⟨rfl, hb11⟩; have HB11 := Lib.hid (HB10.out.trans (hb11.mono HB10.out.size)); clear hb11)
      | (go_at_call 15; refine (gawake_any w11 (HT.out.below HB11.out)).mono ?_; rintro e w12 ⟨rfl, hb12⟩))
    go_ret
    exact ⟨rfl, HB11.out.trans (hb12.mono HB11.out.size)⟩
end Go.Proofs.YtcpihlmemjkloaaDoor
