/-
  Walks: the law's shows, forked.
-/
import Derived.Test.YtjdfajgjejpfeaaGreatDoorGhD
import Derived.Test.YtjdfajgjejpfeaaGreatDoorGpText
import Derived.Test.YtjdfajgjejpfeaaGreatDoorGpLine
import Derived.Test.YtjdfajgjejpfeaaGreatDoorGpFork
namespace Go.Proofs.YtjdfajgjejpfeaaGreatDoor
open Go.RowKit Go.Sort
set_option linter.unusedVariables false
set_option linter.unusedSimpArgs false
set_option maxRecDepth 100000

theorem ints_elem : Tryz.prog.underlying 64 = some (.slice (Tryz.prog.elem 64)) := by kernel_rfl
theorem ints_esize (w : World) : (sizeOf (Tryz.prog.elem 64)).run Tryz.prog w = .ok 1 w := by kernel_rfl
theorem isl_h (A : Option Addr) (n C hi : Nat) (h2 : hi ≤ C) (w : World) :
    (Instr.slice 64 (.slice A n C) none (some (.int .i64 hi)) none).run Tryz.prog w = .ok (.slice A hi C) w := by
  rw [run_slice_h w 64 A n C ints_elem .i64 hi (by omega) (by omega), ints_esize]
  cases A <;> simp [Result.andThen, sliced, Addr.add]
theorem OR.ncap {w : World} {base n c : Nat} {e : TypeId} {A : Option Addr} {xs : List Value} (h : OR w base e A n c xs) : n ≤ c := by
  rcases h.1 with ⟨hl, ⟨hv, h0⟩ | ⟨g, cap, cur, hv, hb, hh, hnc, hc, hcur, ht⟩⟩
  · omega
  · injection hv with _ _ e
    omega
theorem gsame_eq (xs : List Int) (A B : Option Addr) (n c d : Nat) (hn : n = xs.length) (h1 : n ≤ 100000) (w : World) (hX : Sl w w.heap.size A (zv xs)) (hY : Sl w w.heap.size B (zv xs)) :
    Calls Tryz.prog 33 #[.slice A n c, .slice B n d] w fun e w' => e = .returned (.bool true) ∧ Below w.heap.size w w' := by
  have h := gsame_any xs xs A B n n c d hn hn h1 h1 w hX hY
  rw [decide_eq_true rfl] at h
  exact h
/-- what told hands back, in plain rows -/
def ToldQ (w : World) (M : Nat) (R : List Int) (L : List (List UInt8)) (e : Ending) (w' : World) : Prop :=
  ∃ A1 c1 A2 c2, e = .returned (.tuple #[.slice A1 M c1, .slice A2 M c2, .bool true]) ∧ OR w' w.heap.size 3 A1 M c1 (zv R) ∧ OR w' w.heap.size 9 A2 M c2 (sv L) ∧ Below w.heap.size w w'
theorem take_min (l : List (List UInt8)) (m : Nat) : l.take m = l.take (min m l.length) := by
  rcases Nat.le_total m l.length with h | h
  · rw [Nat.min_eq_left h]
  · rw [Nat.min_eq_right h, List.take_of_length_le h, List.take_length]
theorem take_minZ (l : List Int) (m : Nat) : l.take m = l.take (min m l.length) := by
  rcases Nat.le_total m l.length with h | h
  · rw [Nat.min_eq_left h]
  · rw [Nat.min_eq_right h, List.take_of_length_le h, List.take_length]
theorem told_all2 {w : World} {lo g n C most f t : Nat} {A : Option Addr} {p s : List (List UInt8)} (h : GpAt w lo g A n C most f t p s) (m M : Nat) (hM : M = min m (ln p s)) :
    Calls Tryz.prog 29 #[.func (.func 57) #[] #[.pointer (some ⟨w.heap.size, 0, none⟩)], .int .i64 m] (w.alloc (.cells #[.pointer (some ⟨g, 0, none⟩)] 23)) (ToldQ w M ((List.range M).map fun k => ((k : Nat) : Int)) ((p ++ s).take M)) := by
  refine (told_all h m).mono ?_
  rintro e w' ⟨A1, c1, A2, c2, he, h1, h2, h3⟩
  have hl : ((ats (p ++ s)).take m).length = M := by rw [List.length_take, ats_length, hM, ln_eq]
  rw [hl] at he h1 h2
  rw [ats_take_iv, ← ln_eq, ← hM] at h1
  rw [ats_take_tv, take_min, ← ln_eq, ← hM] at h2
  exact ⟨A1, c1, A2, c2, he, h1, h2, h3⟩
theorem told_back2 {w : World} {lo g n C most f t : Nat} {A : Option Addr} {p s : List (List UInt8)} (h : GpAt w lo g A n C most f t p s) (m M : Nat) (hM : M = min m f) :
    Calls Tryz.prog 29 #[.func (.func 58) #[] #[.pointer (some ⟨w.heap.size, 0, none⟩)], .int .i64 m] (w.alloc (.cells #[.pointer (some ⟨g, 0, none⟩)] 23)) (ToldQ w M ((fallZ f).take M) (p.reverse.take M)) := by
  refine (told_back h m).mono ?_
  rintro e w' ⟨A1, c1, A2, c2, he, h1, h2, h3⟩
  have hf := h.fp
  have hl : ((ats p).reverse.take m).length = M := by rw [List.length_take, List.length_reverse, ats_length, hM, hf]
  rw [hl] at he h1 h2
  rw [ats_rev_iv, take_minZ, fallZ_length, hf, ← hM] at h1
  rw [ats_rev_tv, take_min, List.length_reverse, hf, ← hM] at h2
  exact ⟨A1, c1, A2, c2, he, h1, h2, h3⟩
/-- At, of both -/
theorem at_both {w : World} {lo g n C most f t : Nat} {A : Option Addr} {p s : List (List UInt8)} (h : GpAt w lo g A n C most f t p s) (a : Int) (rA : Option Addr) (L rc : Nat) (hL : L = ln p s) :
    ∃ (x : ByteArray) (b : Bool), (∀ W, Below w.heap.size w W → Calls Tryz.prog 27 #[.pointer (some ⟨g, 0, none⟩), .int .i64 a] W fun e w' => e = .returned (.tuple #[.string x, .bool b]) ∧ Below W.heap.size W w') ∧
      (∀ W, Sl W W.heap.size rA (sv (p ++ s)) → Calls Tryz.prog 28 #[.agg (rgp rA L rc f most).toArray, .int .i64 a] W fun e w' => e = .returned (.tuple #[.string x, .bool b]) ∧ Below W.heap.size W w') := by
  by_cases ha : 0 ≤ a ∧ a < (ln p s : Nat)
  · obtain ⟨k, rfl⟩ := Int.eq_ofNat_of_zero_le ha.1
    have hk : k < (p ++ s).length := by rw [← ln_eq]; omega
    have hx : (p ++ s)[k]? = some (p ++ s)[k] := List.getElem?_eq_getElem hk
    exact ⟨_, true, fun W hW => gat_yes (h.below hW) k _ hx, fun W hS => rat_yes (p ++ s) rA L rc f most k _ (by rw [hL, ln_eq]) hx W hS⟩
  · have hb : hasB a (ln p s) = false := decide_eq_false ha
    exact ⟨⟨#[]⟩, false, fun W hW => gat_no (h.below hW) a hb, fun W hS => rat_no rA L rc f most a (by rw [hL]; exact hb) W⟩

/-- the document's row beside the buffer -/
structure RowG (w : World) (rA : Option Addr) (L rc : Nat) (l : List (List UInt8)) : Prop where
  n : L = l.length
  s : Sl w w.heap.size rA (sv l)
  nc : L ≤ rc
  nil : rA = none → rc = 0
theorem RowG.below {w w' : World} {rA : Option Addr} {L rc : Nat} {l : List (List UInt8)} (h : RowG w rA L rc l) (hb : Below w.heap.size w w') : RowG w' rA L rc l := ⟨h.n, (h.s.below hb).more hb.size, h.nc, h.nil⟩
set_option maxHeartbeats 16000000 in
theorem shows_any {w : World} {lo g n C most f t : Nat} {A : Option Addr} {p s : List (List UInt8)} (h : GpAt w lo g A n C most f t p s) (hT : Tabs w) (rA : Option Addr) (L rc : Nat) (hR : RowG w rA L rc (p ++ s)) (a : Int) (m : Nat) (hm : m ≤ 255) :
    Calls Tryz.prog 9 #[.pointer (some ⟨g, 0, none⟩), .agg (rgp rA L rc f most).toArray, .int .i64 a, .int .i64 m] w fun e w' => e = .returned (.bool true) ∧ Below w.heap.size w w' := by
  have hL : L = ln p s := by rw [ln_eq]; exact hR.n
  have hL4 : L ≤ 4096 := by have := h.ln_le; have := h.m4; omega
  have hm4 : most ≤ 4096 := h.m4
  have hfL : f ≤ L := by have := h.fp; rw [hL]; unfold ln; omega
  have hLm : L ≤ most := by have := h.ln_le; omega
  obtain ⟨x, bb, hat, hrat⟩ := at_both h a rA L rc hL
  obtain ⟨M1, hM1⟩ : ∃ M, M = min m L := ⟨_, rfl⟩
  obtain ⟨M2, hM2⟩ : ∃ M, M = min m f := ⟨_, rfl⟩
  have hm1 : min ((m : Nat) : Int) ((L : Nat) : Int) = ((M1 : Nat) : Int) := by omega
  have hm2 : min ((m : Nat) : Int) ((f : Nat) : Int) = ((M2 : Nat) : Int) := by omega
  have hM1L : M1 ≤ L := by omega
  have hM2f : M2 ≤ f := by omega
  have hM1c : M1 ≤ rc := by have := hR.nc; omega
  have E1 := fun V => rsl_h rA L rc M1 hM1c V
  have hlen64 : ∀ c ∈ p ++ s, c.length ≤ 64 := fun c hc => isC_len (h.is c hc)
  have hLP : (p ++ s).take f = p := by have := h.fp; rw [List.take_append_of_le_length (by omega), List.take_of_length_le (by omega)]
  obtain ⟨W, hW⟩ : ∃ W, W = w.alloc (.cells (rgp rA L rc f most).toArray 29) := ⟨_, rfl⟩
  have hb0 : Below w.heap.size w W := by rw [hW]; exact (Below.refl _ w).alloc (Nat.le_refl _) _
  have hbx : Blk W w.heap.size 29 (rgp rA L rc f most) := by rw [hW]; exact Blk.new w 29 _
  have hk : ∀ V, Below W.heap.size W V → Blk V w.heap.size 29 (rgp rA L rc f most) := fun V hV => hbx.below hV hbx.lt
  have q1 := fun V (hV : Below W.heap.size W V) => hat V (hb0.trans (hV.mono hb0.size))
  have q2 := fun V (hV : Below W.heap.size W V) => hrat V (hR.below (hb0.trans (hV.mono hb0.size))).s
  have q3 := fun V (hV : Below W.heap.size W V) => told_all2 (h.below (hb0.trans (hV.mono hb0.size))) m M1 (by rw [hM1, hL])
  have q4 := fun V (hV : Below W.heap.size W V) => told_back2 (h.below (hb0.trans (hV.mono hb0.size))) m M2 hM2
  have q5 := fun V (hV : Below W.heap.size W V) => falling_any (p ++ s) rA L rc f most hR.n hL4 hfL V (hR.below (hb0.trans (hV.mono hb0.size))).s
  unfold FallP at q5
  rw [hLP] at q5
  have q6 := fun V => rising_any M1 (by omega) V
  have q7 := fun V (hV : Below W.heap.size W V) => gline_any (h.below (hb0.trans (hV.mono hb0.size)))
  have q8 := fun V (hV : Below W.heap.size W V) => gtext_any (h.below (hb0.trans (hV.mono hb0.size)))
  have q9 := fun V (hV : Below W.heap.size W V) => rgtext_any (p ++ s) rA L rc f most hR.n hL4 hlen64 V (hR.below (hb0.trans (hV.mono hb0.size))).s
  have q10 := fun V (hV : Below W.heap.size W V) => gwidths_any (h.below (hb0.trans (hV.mono hb0.size))) (hT.below (hb0.trans (hV.mono hb0.size)))
  have q11 := fun V (hV : Below W.heap.size W V) => rgwidths_any (p ++ s) rA L rc f most hR.n hL4 (fun x hx => by have := hlen64 x hx; omega) V (hR.below (hb0.trans (hV.mono hb0.size))).s
  have q12 := fun V (hV : Below W.heap.size W V) => gcursor_any (h.below (hb0.trans (hV.mono hb0.size)))
  have q13 := fun V (hV : Below W.heap.size W V) => glen_any (h.below (hb0.trans (hV.mono hb0.size)))
  have q14 := fun V (hV : Below W.heap.size W V) => groom_any (h.below (hb0.trans (hV.mono hb0.size)))
  have hRS : ∀ V, Below W.heap.size W V → Sl V V.heap.size rA (sv (p ++ s)) := fun V hV => (hR.below (hb0.trans (hV.mono hb0.size))).s
  rw [← hL] at q7 q10 q13 q14
  have hpl : p.length = f := h.fp
  have hsl : (p ++ s).length = L := by rw [hR.n]
  have hln : L = ln p s := hL
  clear hat hrat h hT hR hL hM1 hM2 hLP hlen64
  generalize p ++ s = l at *
  obtain ⟨TX, hTX⟩ : ∃ TX, TX = (⟨l.flatten.toArray⟩ : ByteArray) := ⟨_, rfl⟩
  rw [← hTX] at q8 q9
  obtain ⟨Z, hZ⟩ : ∃ Z : List Int, wv l = zv Z ∧ Z.length = L := ⟨l.map fun c => fw (rs c), (by unfold wv zv; rw [List.map_map]; rfl), (by rw [List.length_map]; exact hsl)⟩
  rw [hZ.1] at q10 q11
  have HRS := Lib.hid hRS
  have HK := Lib.hid hk
  have HB0 := Lib.hid hb0
  have Q1 := Lib.hid q1
  have Q2 := Lib.hid q2
  have Q3 := Lib.hid q3
  have Q4 := Lib.hid q4
  have Q5 := Lib.hid q5
  have Q6 := Lib.hid q6
  have Q7 := Lib.hid q7
  have Q8 := Lib.hid q8
  have Q9 := Lib.hid q9
  have Q10 := Lib.hid q10
  have Q11 := Lib.hid q11
  have Q12 := Lib.hid q12
  have Q13 := Lib.hid q13
  have Q14 := Lib.hid q14
  have HZL := Lib.hid hZ.2
  have HSL := Lib.hid hsl
  have HPL := Lib.hid hpl
  have hwr1 : IntKind.i64.wrap ((most : Int) - (L : Int)) = ((most - L : Nat) : Int) := by rw [show ((most : Int) - (L : Int)) = ((most - L : Nat) : Int) by omega]; exact IntWalk.i64_in _ (by omega)
  have HWR := Lib.hid hwr1
  simp only [rgp] at hW Q2 Q5 Q9 Q11 HK ⊢
  have hkw := HK.out W (Below.refl _ _)
  have k0 := hkw.cell 0
  have k1 := hkw.cell 1
  have k2 := hkw.cell 2
  clear q1 q2 q3 q4 q5 q6 q7 q8 q9 q10 q11 q12 q13 q14 hRS hk hb0 hbx hZ hTX hsl hpl hln hkw hwr1
  go_enter Tryz.func9, Tryz.ntmps9
  go_upto_region 1 with (fail)
  rw [← hW]
  clear hW
  go_wp2_with (fail)
  refine (Q1.out _ (Below.refl _ _)).mono ?_
  rintro e w1 ⟨rfl, hb⟩
  have HB1 := Lib.hid hb
  clear hb k0 k1 k2
  have hkw := HK.out _ HB1.out
  have k0 := hkw.cell 0
  have k1 := hkw.cell 1
  have k2 := hkw.cell 2
  clear hkw
  go_wp2_with (fail)
  refine (Q2.out _ HB1.out).mono ?_
  rintro e w2 ⟨rfl, hb⟩
  have HB2 := Lib.hid (HB1.out.trans (hb.mono HB1.out.size))
  have HN2 := Lib.hid hb
  clear hb k0 k1 k2
  have hkw := HK.out _ HB2.out
  have k0 := hkw.cell 0
  have k1 := hkw.cell 1
  have k2 := hkw.cell 2
  clear hkw
  go_wp2_with (go_at_call 30; refine (gall_any _ _).mono ?_; rintro e w' ⟨rfl, rfl⟩)
  refine (Q3.out _ HB2.out).mono ?_
  rintro e w3 ⟨A1, c1, A2, c2, rfl, ho1, ho2, hb⟩
  have HB3 := Lib.hid (HB2.out.trans (hb.mono HB2.out.size))
  have HN3 := Lib.hid hb
  clear hb k0 k1 k2
  have hkw := HK.out _ HB3.out
  have k0 := hkw.cell 0
  have k1 := hkw.cell 1
  have k2 := hkw.cell 2
  clear hkw
  have HO1 := Lib.hid ho1
  have HO2 := Lib.hid ho2
  clear ho1 ho2
  go_wp2_with (go_at_call 31; refine (gback_any _ _).mono ?_; rintro e w' ⟨rfl, rfl⟩)
  refine (Q4.out _ HB3.out).mono ?_
  rintro e w4 ⟨A3, c3, A4, c4, rfl, ho3, ho4, hb⟩
  have HB4 := Lib.hid (HB3.out.trans (hb.mono HB3.out.size))
  have HN4 := Lib.hid hb
  clear hb k0 k1 k2
  have hkw := HK.out _ HB4.out
  have k0 := hkw.cell 0
  have k1 := hkw.cell 1
  have k2 := hkw.cell 2
  clear hkw
  have HO3 := Lib.hid ho3
  have HO4 := Lib.hid ho4
  clear ho3 ho4
  go_wp2_with (fail)
  refine (Q5.out _ HB4.out).mono ?_
  rintro e w5 ⟨A5, c5, A6, c6, rfl, ho5, ho6, hb⟩
  have HB5 := Lib.hid (HB4.out.trans (hb.mono HB4.out.size))
  have HN5 := Lib.hid hb
  clear hb k0 k1 k2
  have hkw := HK.out _ HB5.out
  have k0 := hkw.cell 0
  have k1 := hkw.cell 1
  have k2 := hkw.cell 2
  clear hkw
  have E2 := fun V => isl_h A5 f c5 M2 (by have := ho5.ncap; omega) V
  have E3 := fun V => rsl_h A6 f c6 M2 (by have := ho6.ncap; omega) V
  have HO5 := Lib.hid ho5
  have HO6 := Lib.hid ho6
  clear ho5 ho6
  have HR1 : Hid (((List.range M1).map fun k => ((k : Nat) : Int)).length = M1) := Lib.hid (by simp)
  obtain ⟨R1, hR1⟩ : ∃ R1, R1 = ((List.range M1).map fun k => ((k : Nat) : Int)) := ⟨_, rfl⟩
  have HRISE : Hid (riseV M1 = zv R1) := Lib.hid (by rw [hR1]; exact riseV_zv M1)
  rw [← hR1] at HO1 HR1
  clear hR1
  have S1 := Lib.hid ((HO1.out.sl.below HN4.out).more HN4.out.size)
  have S2 := Lib.hid ((HO2.out.sl.below HN4.out).more HN4.out.size)
  have S1 := Lib.hid ((S1.out.below HN5.out).more HN5.out.size)
  have S2 := Lib.hid ((S2.out.below HN5.out).more HN5.out.size)
  have S3 := Lib.hid ((HO3.out.sl.below HN5.out).more HN5.out.size)
  have S4 := Lib.hid ((HO4.out.sl.below HN5.out).more HN5.out.size)
  have S5 : Hid (Sl w5 w5.heap.size A5 (zv ((fallZ f).take M2))) := Lib.hid (by have h8 := HO5.out.sl.take M2; have e : (zv (fallZ f)).take M2 = zv ((fallZ f).take M2) := by unfold zv; rw [List.map_take]
                                                                                rwa [e] at h8)
  have S6 : Hid (Sl w5 w5.heap.size A6 (sv (p.reverse.take M2))) := Lib.hid (by have h8 := HO6.out.sl.take M2; rwa [sv_take] at h8)
  clear HO1 HO2 HO3 HO4 HO5 HO6
  have HF2 : Hid (((fallZ f).take M2).length = M2) := Lib.hid (by rw [List.length_take, fallZ_length]; omega)
  have HP2 : Hid ((p.reverse.take M2).length = M2) := Lib.hid (by rw [List.length_take, List.length_reverse, HPL.out]; omega)
  have HL1 : Hid ((l.take M1).length = M1) := Lib.hid (by rw [List.length_take, HSL.out]; omega)
  go_wp2_with (fail)
  refine (Q6.out _).mono ?_
  rintro e w6 ⟨A7, c7, rfl, ho7, hb⟩
  have HB6 := Lib.hid (HB5.out.trans (hb.mono HB5.out.size))
  have HN6 := Lib.hid hb
  clear hb k0 k1 k2
  have hkw := HK.out _ HB6.out
  have k0 := hkw.cell 0
  have k1 := hkw.cell 1
  have k2 := hkw.cell 2
  clear hkw
  have S1 := Lib.hid ((S1.out.below HN6.out).more HN6.out.size)
  have S2 := Lib.hid ((S2.out.below HN6.out).more HN6.out.size)
  have S3 := Lib.hid ((S3.out.below HN6.out).more HN6.out.size)
  have S4 := Lib.hid ((S4.out.below HN6.out).more HN6.out.size)
  have S5 := Lib.hid ((S5.out.below HN6.out).more HN6.out.size)
  have S6 := Lib.hid ((S6.out.below HN6.out).more HN6.out.size)
  rw [HRISE.out] at ho7
  have S7 := Lib.hid ho7.sl
  clear ho7
  go_wp2_with (fail)
  refine (gsame_eq R1 A1 A7 M1 c1 c7 HR1.out.symm (by omega) w6 S1.out S7.out).mono ?_
  rintro e w7 ⟨rfl, hb⟩
  have HB7 := Lib.hid (HB6.out.trans (hb.mono HB6.out.size))
  have HN7 := Lib.hid hb
  clear hb k0 k1 k2
  have hkw := HK.out _ HB7.out
  have k0 := hkw.cell 0
  have k1 := hkw.cell 1
  have k2 := hkw.cell 2
  clear hkw
  have S2 := Lib.hid ((S2.out.below HN7.out).more HN7.out.size)
  have S3 := Lib.hid ((S3.out.below HN7.out).more HN7.out.size)
  have S4 := Lib.hid ((S4.out.below HN7.out).more HN7.out.size)
  have S5 := Lib.hid ((S5.out.below HN7.out).more HN7.out.size)
  have S6 := Lib.hid ((S6.out.below HN7.out).more HN7.out.size)
  go_wp2_with (fail)
  refine (sameall_any (l.take M1) M1 M1 A2 rA c2 rc w7 (by rw [HL1.out]; omega) HL1.out.symm HL1.out.symm S2.out (by have h8 := (HRS.out w7 HB7.out).take M1; rwa [sv_take] at h8)).mono ?_
  rintro e w8 ⟨rfl, hb⟩
  have HB8 := Lib.hid (HB7.out.trans (hb.mono HB7.out.size))
  have HN8 := Lib.hid hb
  clear hb k0 k1 k2
  have hkw := HK.out _ HB8.out
  have k0 := hkw.cell 0
  have k1 := hkw.cell 1
  have k2 := hkw.cell 2
  clear hkw
  have S3 := Lib.hid ((S3.out.below HN8.out).more HN8.out.size)
  have S4 := Lib.hid ((S4.out.below HN8.out).more HN8.out.size)
  have S5 := Lib.hid ((S5.out.below HN8.out).more HN8.out.size)
  have S6 := Lib.hid ((S6.out.below HN8.out).more HN8.out.size)
  go_wp2_with (fail)
  refine (gsame_eq ((fallZ f).take M2) A3 A5 M2 c3 c5 HF2.out.symm (by omega) w8 S3.out S5.out).mono ?_
  rintro e w9 ⟨rfl, hb⟩
  have HB9 := Lib.hid (HB8.out.trans (hb.mono HB8.out.size))
  have HN9 := Lib.hid hb
  clear hb k0 k1 k2
  have hkw := HK.out _ HB9.out
  have k0 := hkw.cell 0
  have k1 := hkw.cell 1
  have k2 := hkw.cell 2
  clear hkw
  have S4 := Lib.hid ((S4.out.below HN9.out).more HN9.out.size)
  have S6 := Lib.hid ((S6.out.below HN9.out).more HN9.out.size)
  go_wp2_with (fail)
  refine (sameall_any (p.reverse.take M2) M2 M2 A4 A6 c4 c6 w9 (by rw [HP2.out]; omega) HP2.out.symm HP2.out.symm S4.out S6.out).mono ?_
  rintro e w10 ⟨rfl, hb⟩
  have HB10 := Lib.hid (HB9.out.trans (hb.mono HB9.out.size))
  have HN10 := Lib.hid hb
  clear hb k0 k1 k2
  have hkw := HK.out _ HB10.out
  have k0 := hkw.cell 0
  have k1 := hkw.cell 1
  have k2 := hkw.cell 2
  clear hkw
  have BB := fun (V : World) (hV : Below w10.heap.size w10 V) => HB10.out.trans (hV.mono HB10.out.size)
  have r7 : ∀ ww, Below w10.heap.size w10 ww → Calls Tryz.prog 35 #[.pointer (some ⟨g, 0, none⟩)] ww fun e wx => ∃ A c, e = .returned (.slice A L c) ∧ Sl wx wx.heap.size A (sv l) ∧ Below w10.heap.size w10 wx := fun ww hw => (Q7.out _ (BB _ hw)).mono (by rintro e wx ⟨A, c, rfl, ho, hb⟩; exact ⟨A, c, rfl, ho.sl, hw.trans (hb.mono hw.size)⟩)
  have r7s : ∀ ww A c, Below w10.heap.size w10 ww → Sl ww ww.heap.size A (sv l) → Calls Tryz.prog 21 #[.slice A L c, .slice rA L rc] ww fun e wx => e = .returned (.bool true) ∧ Below w10.heap.size w10 wx := fun ww A c hw hs => (sameall_any l L L A rA c rc ww (by rw [HSL.out]; omega) HSL.out.symm HSL.out.symm hs (HRS.out _ (BB _ hw))).mono (by rintro e wx ⟨rfl, hb⟩; exact ⟨rfl, hw.trans (hb.mono hw.size)⟩)
  have r8 : ∀ ww, Below w10.heap.size w10 ww → Calls Tryz.prog 13 #[.pointer (some ⟨g, 0, none⟩)] ww fun e wx => e = .returned (.string TX) ∧ Below w10.heap.size w10 wx := fun ww hw => (Q8.out _ (BB _ hw)).mono (by rintro e wx ⟨rfl, hb⟩; exact ⟨rfl, hw.trans (hb.mono hw.size)⟩)
  have r9 : ∀ ww, Below w10.heap.size w10 ww → Calls Tryz.prog 36 #[.agg #[.slice rA L rc, .int .i64 f, .int .i64 most]] ww fun e wx => e = .returned (.string TX) ∧ Below w10.heap.size w10 wx := fun ww hw => (Q9.out _ (BB _ hw)).mono (by rintro e wx ⟨rfl, hb⟩; exact ⟨rfl, hw.trans (hb.mono hw.size)⟩)
  have r10 : ∀ ww, Below w10.heap.size w10 ww → Calls Tryz.prog 37 #[.pointer (some ⟨g, 0, none⟩)] ww fun e wx => ∃ A c, e = .returned (.slice A L c) ∧ Sl wx wx.heap.size A (zv Z) ∧ Below w10.heap.size w10 wx := fun ww hw => (Q10.out _ (BB _ hw)).mono (by rintro e wx ⟨A, c, rfl, ho, hb⟩; exact ⟨A, c, rfl, ho.sl, hw.trans (hb.mono hw.size)⟩)
  have r11 : ∀ ww, Below w10.heap.size w10 ww → Calls Tryz.prog 38 #[.agg #[.slice rA L rc, .int .i64 f, .int .i64 most]] ww fun e wx => ∃ A c, e = .returned (.slice A L c) ∧ Sl wx wx.heap.size A (zv Z) ∧ Below ww.heap.size ww wx ∧ Below w10.heap.size w10 wx := fun ww hw => (Q11.out _ (BB _ hw)).mono (by rintro e wx ⟨A, c, rfl, ho, hb⟩; exact ⟨A, c, rfl, ho.sl, hb, hw.trans (hb.mono hw.size)⟩)
  have r12 : ∀ ww A c B d, Below w10.heap.size w10 ww → Sl ww ww.heap.size A (zv Z) → Sl ww ww.heap.size B (zv Z) → Calls Tryz.prog 33 #[.slice A L c, .slice B L d] ww fun e wx => e = .returned (.bool true) ∧ Below w10.heap.size w10 wx := fun ww A c B d hw h1 h2 => (gsame_eq Z A B L c d HZL.out.symm (by omega) ww h1 h2).mono (by rintro e wx ⟨rfl, hb⟩; exact ⟨rfl, hw.trans (hb.mono hw.size)⟩)
  have r13 : ∀ ww, Below w10.heap.size w10 ww → Calls Tryz.prog 15 #[.pointer (some ⟨g, 0, none⟩)] ww fun e wx => e = .returned (.int .i64 f) ∧ Below w10.heap.size w10 wx := fun ww hw => (Q12.out _ (BB _ hw)).mono (by rintro e wx ⟨rfl, hb⟩; exact ⟨rfl, hw.trans (hb.mono hw.size)⟩)
  have r14 : ∀ ww, Below w10.heap.size w10 ww → Calls Tryz.prog 17 #[.pointer (some ⟨g, 0, none⟩)] ww fun e wx => e = .returned (.int .i64 (L : Nat)) ∧ Below w10.heap.size w10 wx := fun ww hw => (Q13.out _ (BB _ hw)).mono (by rintro e wx ⟨rfl, hb⟩; exact ⟨rfl, hw.trans (hb.mono hw.size)⟩)
  have r15 : ∀ ww, Below w10.heap.size w10 ww → Calls Tryz.prog 39 #[.pointer (some ⟨g, 0, none⟩)] ww fun e wx => e = .returned (.int .i64 (most - L : Nat)) ∧ Below w10.heap.size w10 wx := fun ww hw => (Q14.out _ (BB _ hw)).mono (by rintro e wx ⟨rfl, hb⟩; exact ⟨rfl, hw.trans (hb.mono hw.size)⟩)
  have hk9 : ∀ w', Below w10.heap.size w10 w' → Below w10.heap.size w10 w' ∧ w'.cell? ⟨w.heap.size, 0, none⟩ = some (.slice rA L rc) ∧ w'.cell? ⟨w.heap.size, 1, none⟩ = some (.int .i64 f) ∧ w'.cell? ⟨w.heap.size, 2, none⟩ = some (.int .i64 most) := fun w' hb => by
    have hx := HK.out _ (BB _ hb)
    exact ⟨hb, hx.cell 0, hx.cell 1, hx.cell 2⟩
  have P7 := Lib.hid r7
  have P7s := Lib.hid r7s
  have P8 := Lib.hid r8
  have P9 := Lib.hid r9
  have P10 := Lib.hid r10
  have P11 := Lib.hid r11
  have P12 := Lib.hid r12
  have P13 := Lib.hid r13
  have P14 := Lib.hid r14
  have P15 := Lib.hid r15
  have HK9 := Lib.hid hk9
  have HDR := Lib.hid ((Below.refl w10.heap.size w10).drew)
  have hwr1 := HWR.out
  clear BB r7 r7s r8 r9 r10 r11 r12 r13 r14 r15 hk9 E1 E2 E3 hm1 hm2
  obtain ⟨rm, hrm⟩ : ∃ rm, rm = most - L := ⟨_, rfl⟩
  rw [← hrm] at hwr1 P15
  clear hrm
  go_wp2_with (fail)
  go_region_held3 (fun w' => Below w10.heap.size w10 w' ∧ w'.cell? ⟨w.heap.size, 0, none⟩ = some (.slice rA L rc) ∧ w'.cell? ⟨w.heap.size, 1, none⟩ = some (.int .i64 f) ∧ w'.cell? ⟨w.heap.size, 2, none⟩ = some (.int .i64 most))
    (first | exact HK9.out _ hbx | exact HK9.out _ HDR.out)
    (first
      | (go_at_call 35; refine (P7.out _ (by first | assumption | exact And.left (by assumption))).mono ?_; rintro e wx ⟨B1, d1, rfl, hs1, hbx⟩; have HS1 := Lib.hid hs1; clear hs1)
      | (go_at_call 21; refine (P7s.out _ _ _ hbx HS1.out).mono ?_; rintro e wx ⟨rfl, hbx⟩)
      | (go_at_call 13; refine (P8.out _ hbx).mono ?_; rintro e wx ⟨rfl, hbx⟩)
      | (go_at_call 36; refine (P9.out _ hbx).mono ?_; rintro e wx ⟨rfl, hbx⟩)
      | (go_at_call 37; refine (P10.out _ hbx).mono ?_; rintro e wx ⟨B2, d2, rfl, hs2, hbx⟩; have HS2 := Lib.hid hs2; clear hs2)
      | (go_at_call 38; refine (P11.out _ hbx).mono ?_; rintro e wx ⟨B3, d3, rfl, hs3, hbw, hbx⟩; have HS3 := Lib.hid hs3; have HS4 := Lib.hid ((HS2.out.below hbw).more hbw.size); clear hs3 hbw)
      | (go_at_call 33; refine (P12.out _ _ _ _ _ hbx HS4.out HS3.out).mono ?_; rintro e wx ⟨rfl, hbx⟩)
      | (go_at_call 15; refine (P13.out _ hbx).mono ?_; rintro e wx ⟨rfl, hbx⟩)
      | (go_at_call 17; refine (P14.out _ hbx).mono ?_; rintro e wx ⟨rfl, hbx⟩)
      | (go_at_call 39; refine (P15.out _ hbx).mono ?_; rintro e wx ⟨rfl, hbx⟩))
  all_goals
    go_wp2_with (fail)
    go_ret
    exact ⟨rfl, HB0.out.trans ((HB10.out.trans (hbx.mono HB10.out.size)).mono HB0.out.size)⟩
end Go.Proofs.YtjdfajgjejpfeaaGreatDoor
