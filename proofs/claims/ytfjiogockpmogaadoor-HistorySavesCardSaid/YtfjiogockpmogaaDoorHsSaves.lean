/-
  Walk: HistorySaves.
-/
import Derived.Test.YtfjiogockpmogaaDoorHsSvX
import Derived.Test.YtfjiogockpmogaaDoorHsSvL
import Derived.Test.YtfjiogockpmogaaDoorHsShow
import Derived.Test.YtfjiogockpmogaaDoorHsAwake
import Derived.Test.YtfjiogockpmogaaDoorHsFns
namespace Go.Proofs.YtfjiogockpmogaaDoor
open Go.RowKit Go.Sort
set_option linter.unusedVariables false
set_option linter.unusedSimpArgs false
set_option maxRecDepth 100000
set_option maxHeartbeats 16000000 in
theorem historySaves_walk (most : Int) (s1 : ByteArray) (hs1 : s1.size ≤ maxLen) (X : Option Addr) (m0 dd : Nat) (l0 : List (List UInt8)) (w : World) (hT : Tabs w) (hm : m0 = l0.length) (hmx : m0 ≤ maxLen) (hX : Sl w w.heap.size X (sv l0)) (hlen : ∀ s ∈ l0, s.length ≤ maxLen) :
    Calls Tryd.prog 5 #[.int .i64 most, .string s1, .slice X m0 dd] w fun e w' => e = .returned (.bool true) ∧ Below w.heap.size w w' := by
  unfold maxLen at hs1
  have HT := Lib.hid hT
  have HFIL : Hid (∀ V, Below w.heap.size w V → Calls Tryd.prog 15 #[.int .i64 40, .slice X m0 dd] V (FilHP V 40 l0)) := Lib.hid (fun V hV => filled_any 40 (by omega) (by omega) l0 X m0 dd hm hmx V (hT.below hV) ((hX.below hV).more hV.size) hlen)
  obtain ⟨G, hG⟩ : ∃ G, G = fillL 40 [] (l0.take 40) := ⟨_, rfl⟩
  have HGG := Lib.hid hG
  have HLOAD : Hid (∀ V, Below w.heap.size w V → G.length ≤ 40 → Calls Tryd.prog 19 #[.int .i64 40, .string ⟨(saveB G).toArray⟩] V fun e w' => ∃ h A c, e = .returned (.tuple #[.pointer (some ⟨h, 0, none⟩), .int .i64 0]) ∧ HsAt w' V.heap.size h A c 40 G none ∧ Below V.heap.size V w') := Lib.hid (fun V hV hle => by
    rw [hG] at hle ⊢
    obtain ⟨e1, e2, e3, e4⟩ := fill_saved (most := 40) (by omega) (by omega) (l0.take 40) hle
    refine (hload_any 40 _ e3 e4 V (hT.below hV)).mono ?_
    rintro e w' (⟨h1, _⟩ | ⟨_, ⟨h, A, c, rfl, hq⟩, hb⟩)
    · exact absurd e1 h1
    · rw [e2] at hq
      exact ⟨h, A, c, rfl, hq, hb⟩)
  clear hT hm hmx hX hlen hG
  by_cases hbig : s1.size ≤ 200
  · have hgt : ¬ (s1.size : Int) > 200 := by omega
    obtain ⟨t, ht9⟩ : ∃ t, t = s1.data.toList := ⟨_, rfl⟩
    have ht : t.length ≤ 200 := by rw [ht9]; exact hbig
    have HRL := Lib.hid (fun V => rload_any most t (by omega) (fun x hx => by have := pcs_short ht x hx; omega) V)
    have he : s1 = ⟨t.toArray⟩ := by subst ht9; exact hmk s1
    have HE := Lib.hid he
    clear ht9 he
    go_enter Tryd.func5, Tryd.ntmps5
    go_wp2_with (fail)
    rw [HE.out]
    refine (hload_any most t (by omega) (fun x hx => by have := pcs_short ht x hx; omega) w HT.out).mono ?_
    rintro e w1 (⟨hc1, rfl, hb1⟩ | ⟨hc1, ⟨h, A, c, rfl, hq1⟩, hb1⟩)
    · have HB1 := Lib.hid hb1
      clear hb1
      go_wp2_with (fail)
      refine (HRL.out w1).mono ?_
      rintro e w2 (⟨hc2, rfl, hb2⟩ | ⟨hc2, _⟩)
      · obtain ⟨cd, hcd⟩ : ∃ cd, cd = ldC most t := ⟨_, rfl⟩
        rw [← hcd] at hc1 ⊢
        have hq0 : (cd == 0) = false := by simpa using hc1
        have HB2 := Lib.hid (HB1.out.trans (hb2.mono HB1.out.size))
        clear hb2 HB1 hc1 hc2 hcd
        simp only [rvC, rwC]
        obtain ⟨rb, hrb⟩ : ∃ rb, rb = w2.heap.size := ⟨_, rfl⟩
        obtain ⟨W3, hW3⟩ : ∃ W3, W3 = w2.alloc (.cells #[.int .i64 0, .slice none 0 0, .bool false, .string ⟨#[]⟩, .string ⟨#[]⟩, .int .i64 0] 29) := ⟨_, rfl⟩
        have hb23 : Below w2.heap.size w2 W3 := by rw [hW3]; exact (Below.refl _ _).alloc (Nat.le_refl _) _
        have hbx : Blk W3 rb 29 [.int .i64 0, .slice none 0 0, .bool false, .string ⟨#[]⟩, .string ⟨#[]⟩, .int .i64 0] := by rw [hW3, hrb]; exact Blk.new w2 _ _
        have HB3 := Lib.hid (HB2.out.trans (hb23.mono HB2.out.size))
        clear hb23 hbx HB2
        go_wp2_with (fail)
        rw [← hW3]
        clear hrb hW3
        refine (hawake_any _ (HT.out.below HB3.out)).mono ?_
        rintro e w4 ⟨rfl, hb4⟩
        have HBW := Lib.hid (HB3.out.trans (hb4.mono HB3.out.size))
        clear hb4 HB3
        go_wp2_with (fail)
        refine (HFIL.out _ HBW.out).mono ?_
        rintro e w5 ⟨g, A5, c5, rfl, hq5, hb5⟩
        rw [← HGG.out] at hq5
        have Q5 := Lib.hid hq5
        have HB5 := Lib.hid (HBW.out.trans (hb5.mono HBW.out.size))
        clear hq5 hb5 HBW
        go_wp2_with (fail)
        refine (hsave_any Q5.out).mono ?_
        rintro e w6 ⟨rfl, hb6⟩
        have Q6 := Lib.hid (Q5.out.below hb6)
        have HB6 := Lib.hid (HB5.out.trans (hb6.mono HB5.out.size))
        clear hb6 Q5 HB5
        go_wp2_with (fail)
        refine (HLOAD.out _ HB6.out Q6.out.le).mono ?_
        rintro e w7 ⟨g2, A7, c7, rfl, hq7, hb7⟩
        have Q7 := Lib.hid hq7
        have Q67 := Lib.hid (Q6.out.below hb7)
        have HB7 := Lib.hid (HB6.out.trans (hb7.mono HB6.out.size))
        clear hq7 hb7 Q6 HB6
        go_wp2_with (fail)
        refine (hsave_any Q7.out).mono ?_
        rintro e w8 ⟨rfl, hb8⟩
        have Q8 := Lib.hid (Q7.out.below hb8)
        have Q68 := Lib.hid (Q67.out.below hb8)
        have HB8 := Lib.hid (HB7.out.trans (hb8.mono HB7.out.size))
        clear hb8 Q7 Q67 HB7
        go_wp2_with (fail)
        refine (hsave_any Q68.out).mono ?_
        rintro e w9 ⟨rfl, hb9⟩
        have Q9 := Lib.hid (Q8.out.below hb9)
        have Q69 := Lib.hid (Q68.out.below hb9)
        have HB9 := Lib.hid (HB8.out.trans (hb9.mono HB8.out.size))
        clear hb9 Q8 Q68 HB8
        go_wp2_with (fail)
        refine (hlen_any Q9.out).mono ?_
        rintro e w10 ⟨rfl, rfl⟩
        go_wp2_with (fail)
        refine (hlen_any Q69.out).mono ?_
        rintro e w10 ⟨rfl, rfl⟩
        go_wp2_with (fail)
        go_ret
        exact ⟨rfl, HB9.out⟩
      · exact absurd hc2 hc1
    · have HB1 := Lib.hid hb1
      have HQ1 := Lib.hid hq1
      have hsv := load_saved hc1
      obtain ⟨hm1, hm4⟩ := load_most hc1
      clear hb1 hq1
      go_wp2_with (fail)
      refine (HRL.out w1).mono ?_
      rintro e w2 (⟨hc2, rfl, hb2⟩ | ⟨hc2, ⟨rA, n, rc, rfl, hn, hsl, hnc, hap⟩, hb2⟩)
      · exact absurd hc1 hc2
      · obtain ⟨m, rfl⟩ := Int.eq_ofNat_of_zero_le (show 0 ≤ most by omega)
        simp only [Int.toNat_natCast, rvC, rwC] at HQ1 ⊢
        obtain ⟨L, hL⟩ : ∃ L, L = (lnsOf t).reverse := ⟨_, rfl⟩
        rw [← hL] at HQ1 hn hsl hsv
        obtain ⟨rb, hrb⟩ : ∃ rb, rb = w2.heap.size := ⟨_, rfl⟩
        obtain ⟨W3, hW3⟩ : ∃ W3, W3 = w2.alloc (.cells #[.int .i64 m, .slice rA n rc, .bool false, .string ⟨#[]⟩, .string ⟨#[]⟩, .int .i64 0] 29) := ⟨_, rfl⟩
        have hb23 : Below w2.heap.size w2 W3 := by rw [hW3]; exact (Below.refl _ _).alloc (Nat.le_refl _) _
        have hbx : Blk W3 rb 29 [.int .i64 m, .slice rA n rc, .bool false, .string ⟨#[]⟩, .string ⟨#[]⟩, .int .i64 0] := by rw [hW3, hrb]; exact Blk.new w2 _ _
        have HB2 := Lib.hid (HB1.out.trans (hb2.mono HB1.out.size))
        have HQ3 := Lib.hid ((HQ1.out.below hb2).below hb23)
        have HS3 := Lib.hid ((hsl.below hb23).more hb23.size)
        have HB3 := Lib.hid (HB2.out.trans (hb23.mono HB2.out.size))
        have HBX := Lib.hid hbx
        have HSV := Lib.hid hsv
        have HNL := Lib.hid hn
        clear hb2 hb23 hsl hbx HB1 HB2 HQ1 hsv hap hL hc1 hc2 hn
        go_wp2_with (fail)
        rw [← hW3, ← hrb]
        clear hrb hW3
        refine (hawake_any _ (HT.out.below HB3.out)).mono ?_
        rintro e w4 ⟨rfl, hb4⟩
        have HQ4 := Lib.hid (HQ3.out.below hb4)
        have HS4 := Lib.hid ((HS3.out.below hb4).more hb4.size)
        have HBX4 := Lib.hid (Blk.below HBX.out hb4 (Blk.lt HBX.out))
        have HB4 := Lib.hid (HB3.out.trans (hb4.mono HB3.out.size))
        clear hb4 HQ3 HS3 HBX HB3
        have d0 := HBX4.out.cell 0
        have d1 := HBX4.out.cell 1
        have d2 := HBX4.out.cell 2
        have d3 := HBX4.out.cell 3
        have d4 := HBX4.out.cell 4
        have d5 := HBX4.out.cell 5
        simp only [List.getElem?_cons_succ, List.getElem?_cons_zero] at d0 d1 d2 d3 d4 d5
        have HSH := Lib.hid (hshows_any HQ4.out rA n rc HNL.out HS4.out hnc 0 3 (by omega))
        simp only [rvC, rwC] at HSH
        go_wp2_with (fail)
        refine HSH.out.mono ?_
        rintro e x5 ⟨rfl, hb5⟩
        have HQ5 := Lib.hid (HQ4.out.below hb5)
        have HB5 := Lib.hid (HB4.out.trans (hb5.mono HB4.out.size))
        clear hb5 d0 d1 d2 d3 d4 d5 HBX4 HS4
        go_wp2_with (fail)
        refine (hsave_any HQ5.out).mono ?_
        rintro e x6 ⟨rfl, hb6⟩
        rw [HSV.out]
        have HBW := Lib.hid (HB5.out.trans (hb6.mono HB5.out.size))
        clear hb6 HB5 HQ5 HQ4 HB4 HSH
        go_wp2_with (fail)
        refine (HFIL.out _ HBW.out).mono ?_
        rintro e w5 ⟨g, A5, c5, rfl, hq5, hb5⟩
        rw [← HGG.out] at hq5
        have Q5 := Lib.hid hq5
        have HB5 := Lib.hid (HBW.out.trans (hb5.mono HBW.out.size))
        clear hq5 hb5 HBW
        go_wp2_with (fail)
        refine (hsave_any Q5.out).mono ?_
        rintro e w6 ⟨rfl, hb6⟩
        have Q6 := Lib.hid (Q5.out.below hb6)
        have HB6 := Lib.hid (HB5.out.trans (hb6.mono HB5.out.size))
        clear hb6 Q5 HB5
        go_wp2_with (fail)
        refine (HLOAD.out _ HB6.out Q6.out.le).mono ?_
        rintro e w7 ⟨g2, A7, c7, rfl, hq7, hb7⟩
        have Q7 := Lib.hid hq7
        have Q67 := Lib.hid (Q6.out.below hb7)
        have HB7 := Lib.hid (HB6.out.trans (hb7.mono HB6.out.size))
        clear hq7 hb7 Q6 HB6
        go_wp2_with (fail)
        refine (hsave_any Q7.out).mono ?_
        rintro e w8 ⟨rfl, hb8⟩
        have Q8 := Lib.hid (Q7.out.below hb8)
        have Q68 := Lib.hid (Q67.out.below hb8)
        have HB8 := Lib.hid (HB7.out.trans (hb8.mono HB7.out.size))
        clear hb8 Q7 Q67 HB7
        go_wp2_with (fail)
        refine (hsave_any Q68.out).mono ?_
        rintro e w9 ⟨rfl, hb9⟩
        have Q9 := Lib.hid (Q8.out.below hb9)
        have Q69 := Lib.hid (Q68.out.below hb9)
        have HB9 := Lib.hid (HB8.out.trans (hb9.mono HB8.out.size))
        clear hb9 Q8 Q68 HB8
        go_wp2_with (fail)
        refine (hlen_any Q9.out).mono ?_
        rintro e w10 ⟨rfl, rfl⟩
        go_wp2_with (fail)
        refine (hlen_any Q69.out).mono ?_
        rintro e w10 ⟨rfl, rfl⟩
        go_wp2_with (fail)
        go_ret
        exact ⟨rfl, HB9.out⟩
  · have hgt : (s1.size : Int) > 200 := by omega
    have hbig2 : 200 ≤ s1.size := by omega
    obtain ⟨t, ht9⟩ : ∃ t, t = s1.data.toList.take 200 := ⟨_, rfl⟩
    have ht : t.length ≤ 200 := by rw [ht9, List.length_take]; exact Nat.min_le_left _ _
    have HRL := Lib.hid (fun V => rload_any most t (by omega) (fun x hx => by have := pcs_short ht x hx; omega) V)
    have he : s1.extract 0 200 = ⟨t.toArray⟩ := by rw [ht9]; exact hex_take s1 200
    have HE := Lib.hid he
    clear ht9 he
    go_enter Tryd.func5, Tryd.ntmps5
    go_wp2_with (fail)
    rw [HE.out]
    refine (hload_any most t (by omega) (fun x hx => by have := pcs_short ht x hx; omega) w HT.out).mono ?_
    rintro e w1 (⟨hc1, rfl, hb1⟩ | ⟨hc1, ⟨h, A, c, rfl, hq1⟩, hb1⟩)
    · have HB1 := Lib.hid hb1
      clear hb1
      go_wp2_with (fail)
      refine (HRL.out w1).mono ?_
      rintro e w2 (⟨hc2, rfl, hb2⟩ | ⟨hc2, _⟩)
      · obtain ⟨cd, hcd⟩ : ∃ cd, cd = ldC most t := ⟨_, rfl⟩
        rw [← hcd] at hc1 ⊢
        have hq0 : (cd == 0) = false := by simpa using hc1
        have HB2 := Lib.hid (HB1.out.trans (hb2.mono HB1.out.size))
        clear hb2 HB1 hc1 hc2 hcd
        simp only [rvC, rwC]
        obtain ⟨rb, hrb⟩ : ∃ rb, rb = w2.heap.size := ⟨_, rfl⟩
        obtain ⟨W3, hW3⟩ : ∃ W3, W3 = w2.alloc (.cells #[.int .i64 0, .slice none 0 0, .bool false, .string ⟨#[]⟩, .string ⟨#[]⟩, .int .i64 0] 29) := ⟨_, rfl⟩
        have hb23 : Below w2.heap.size w2 W3 := by rw [hW3]; exact (Below.refl _ _).alloc (Nat.le_refl _) _
        have hbx : Blk W3 rb 29 [.int .i64 0, .slice none 0 0, .bool false, .string ⟨#[]⟩, .string ⟨#[]⟩, .int .i64 0] := by rw [hW3, hrb]; exact Blk.new w2 _ _
        have HB3 := Lib.hid (HB2.out.trans (hb23.mono HB2.out.size))
        clear hb23 hbx HB2
        go_wp2_with (fail)
        rw [← hW3]
        clear hrb hW3
        refine (hawake_any _ (HT.out.below HB3.out)).mono ?_
        rintro e w4 ⟨rfl, hb4⟩
        have HBW := Lib.hid (HB3.out.trans (hb4.mono HB3.out.size))
        clear hb4 HB3
        go_wp2_with (fail)
        refine (HFIL.out _ HBW.out).mono ?_
        rintro e w5 ⟨g, A5, c5, rfl, hq5, hb5⟩
        rw [← HGG.out] at hq5
        have Q5 := Lib.hid hq5
        have HB5 := Lib.hid (HBW.out.trans (hb5.mono HBW.out.size))
        clear hq5 hb5 HBW
        go_wp2_with (fail)
        refine (hsave_any Q5.out).mono ?_
        rintro e w6 ⟨rfl, hb6⟩
        have Q6 := Lib.hid (Q5.out.below hb6)
        have HB6 := Lib.hid (HB5.out.trans (hb6.mono HB5.out.size))
        clear hb6 Q5 HB5
        go_wp2_with (fail)
        refine (HLOAD.out _ HB6.out Q6.out.le).mono ?_
        rintro e w7 ⟨g2, A7, c7, rfl, hq7, hb7⟩
        have Q7 := Lib.hid hq7
        have Q67 := Lib.hid (Q6.out.below hb7)
        have HB7 := Lib.hid (HB6.out.trans (hb7.mono HB6.out.size))
        clear hq7 hb7 Q6 HB6
        go_wp2_with (fail)
        refine (hsave_any Q7.out).mono ?_
        rintro e w8 ⟨rfl, hb8⟩
        have Q8 := Lib.hid (Q7.out.below hb8)
        have Q68 := Lib.hid (Q67.out.below hb8)
        have HB8 := Lib.hid (HB7.out.trans (hb8.mono HB7.out.size))
        clear hb8 Q7 Q67 HB7
        go_wp2_with (fail)
        refine (hsave_any Q68.out).mono ?_
        rintro e w9 ⟨rfl, hb9⟩
        have Q9 := Lib.hid (Q8.out.below hb9)
        have Q69 := Lib.hid (Q68.out.below hb9)
        have HB9 := Lib.hid (HB8.out.trans (hb9.mono HB8.out.size))
        clear hb9 Q8 Q68 HB8
        go_wp2_with (fail)
        refine (hlen_any Q9.out).mono ?_
        rintro e w10 ⟨rfl, rfl⟩
        go_wp2_with (fail)
        refine (hlen_any Q69.out).mono ?_
        rintro e w10 ⟨rfl, rfl⟩
        go_wp2_with (fail)
        go_ret
        exact ⟨rfl, HB9.out⟩
      · exact absurd hc2 hc1
    · have HB1 := Lib.hid hb1
      have HQ1 := Lib.hid hq1
      have hsv := load_saved hc1
      obtain ⟨hm1, hm4⟩ := load_most hc1
      clear hb1 hq1
      go_wp2_with (fail)
      refine (HRL.out w1).mono ?_
      rintro e w2 (⟨hc2, rfl, hb2⟩ | ⟨hc2, ⟨rA, n, rc, rfl, hn, hsl, hnc, hap⟩, hb2⟩)
      · exact absurd hc1 hc2
      · obtain ⟨m, rfl⟩ := Int.eq_ofNat_of_zero_le (show 0 ≤ most by omega)
        simp only [Int.toNat_natCast, rvC, rwC] at HQ1 ⊢
        obtain ⟨L, hL⟩ : ∃ L, L = (lnsOf t).reverse := ⟨_, rfl⟩
        rw [← hL] at HQ1 hn hsl hsv
        obtain ⟨rb, hrb⟩ : ∃ rb, rb = w2.heap.size := ⟨_, rfl⟩
        obtain ⟨W3, hW3⟩ : ∃ W3, W3 = w2.alloc (.cells #[.int .i64 m, .slice rA n rc, .bool false, .string ⟨#[]⟩, .string ⟨#[]⟩, .int .i64 0] 29) := ⟨_, rfl⟩
        have hb23 : Below w2.heap.size w2 W3 := by rw [hW3]; exact (Below.refl _ _).alloc (Nat.le_refl _) _
        have hbx : Blk W3 rb 29 [.int .i64 m, .slice rA n rc, .bool false, .string ⟨#[]⟩, .string ⟨#[]⟩, .int .i64 0] := by rw [hW3, hrb]; exact Blk.new w2 _ _
        have HB2 := Lib.hid (HB1.out.trans (hb2.mono HB1.out.size))
        have HQ3 := Lib.hid ((HQ1.out.below hb2).below hb23)
        have HS3 := Lib.hid ((hsl.below hb23).more hb23.size)
        have HB3 := Lib.hid (HB2.out.trans (hb23.mono HB2.out.size))
        have HBX := Lib.hid hbx
        have HSV := Lib.hid hsv
        have HNL := Lib.hid hn
        clear hb2 hb23 hsl hbx HB1 HB2 HQ1 hsv hap hL hc1 hc2 hn
        go_wp2_with (fail)
        rw [← hW3, ← hrb]
        clear hrb hW3
        refine (hawake_any _ (HT.out.below HB3.out)).mono ?_
        rintro e w4 ⟨rfl, hb4⟩
        have HQ4 := Lib.hid (HQ3.out.below hb4)
        have HS4 := Lib.hid ((HS3.out.below hb4).more hb4.size)
        have HBX4 := Lib.hid (Blk.below HBX.out hb4 (Blk.lt HBX.out))
        have HB4 := Lib.hid (HB3.out.trans (hb4.mono HB3.out.size))
        clear hb4 HQ3 HS3 HBX HB3
        have d0 := HBX4.out.cell 0
        have d1 := HBX4.out.cell 1
        have d2 := HBX4.out.cell 2
        have d3 := HBX4.out.cell 3
        have d4 := HBX4.out.cell 4
        have d5 := HBX4.out.cell 5
        simp only [List.getElem?_cons_succ, List.getElem?_cons_zero] at d0 d1 d2 d3 d4 d5
        have HSH := Lib.hid (hshows_any HQ4.out rA n rc HNL.out HS4.out hnc 0 3 (by omega))
        simp only [rvC, rwC] at HSH
        go_wp2_with (fail)
        refine HSH.out.mono ?_
        rintro e x5 ⟨rfl, hb5⟩
        have HQ5 := Lib.hid (HQ4.out.below hb5)
        have HB5 := Lib.hid (HB4.out.trans (hb5.mono HB4.out.size))
        clear hb5 d0 d1 d2 d3 d4 d5 HBX4 HS4
        go_wp2_with (fail)
        refine (hsave_any HQ5.out).mono ?_
        rintro e x6 ⟨rfl, hb6⟩
        rw [HSV.out]
        have HBW := Lib.hid (HB5.out.trans (hb6.mono HB5.out.size))
        clear hb6 HB5 HQ5 HQ4 HB4 HSH
        go_wp2_with (fail)
        refine (HFIL.out _ HBW.out).mono ?_
        rintro e w5 ⟨g, A5, c5, rfl, hq5, hb5⟩
        rw [← HGG.out] at hq5
        have Q5 := Lib.hid hq5
        have HB5 := Lib.hid (HBW.out.trans (hb5.mono HBW.out.size))
        clear hq5 hb5 HBW
        go_wp2_with (fail)
        refine (hsave_any Q5.out).mono ?_
        rintro e w6 ⟨rfl, hb6⟩
        have Q6 := Lib.hid (Q5.out.below hb6)
        have HB6 := Lib.hid (HB5.out.trans (hb6.mono HB5.out.size))
        clear hb6 Q5 HB5
        go_wp2_with (fail)
        refine (HLOAD.out _ HB6.out Q6.out.le).mono ?_
        rintro e w7 ⟨g2, A7, c7, rfl, hq7, hb7⟩
        have Q7 := Lib.hid hq7
        have Q67 := Lib.hid (Q6.out.below hb7)
        have HB7 := Lib.hid (HB6.out.trans (hb7.mono HB6.out.size))
        clear hq7 hb7 Q6 HB6
        go_wp2_with (fail)
        refine (hsave_any Q7.out).mono ?_
        rintro e w8 ⟨rfl, hb8⟩
        have Q8 := Lib.hid (Q7.out.below hb8)
        have Q68 := Lib.hid (Q67.out.below hb8)
        have HB8 := Lib.hid (HB7.out.trans (hb8.mono HB7.out.size))
        clear hb8 Q7 Q67 HB7
        go_wp2_with (fail)
        refine (hsave_any Q68.out).mono ?_
        rintro e w9 ⟨rfl, hb9⟩
        have Q9 := Lib.hid (Q8.out.below hb9)
        have Q69 := Lib.hid (Q68.out.below hb9)
        have HB9 := Lib.hid (HB8.out.trans (hb9.mono HB8.out.size))
        clear hb9 Q8 Q68 HB8
        go_wp2_with (fail)
        refine (hlen_any Q9.out).mono ?_
        rintro e w10 ⟨rfl, rfl⟩
        go_wp2_with (fail)
        refine (hlen_any Q69.out).mono ?_
        rintro e w10 ⟨rfl, rfl⟩
        go_wp2_with (fail)
        go_ret
        exact ⟨rfl, HB9.out⟩
end Go.Proofs.YtfjiogockpmogaaDoor
