/-
  Walks: the document's buffer: Insert.
  Walks: the document's buffer: Replace.
  Walks: the document's buffer: Text, Widths.
  Walks: the document's buffer: Delete.
-/
import Derived.Test.YtjdfajgjejpfeaaGreatDoorGhA
import Derived.Test.YtjdfajgjejpfeaaGreatDoorGpIns
import Derived.Test.YtjdfajgjejpfeaaGreatDoorGpWid
namespace Go.Proofs.YtjdfajgjejpfeaaGreatDoor
open Go.RowKit Go.Sort
set_option linter.unusedVariables false
set_option linter.unusedSimpArgs false
set_option maxRecDepth 100000

set_option maxHeartbeats 8000000 in
theorem rins_arg (A : Option Addr) (n c i most : Nat) (M : List (List UInt8)) (X : Option Addr) (m d : Nat) (hm : m = M.length) (hm5 : m ≤ 100000) (w : World) (hX : Sl w w.heap.size X (sv M)) (hlen : ∀ c ∈ M, c.length ≤ 4000000) (hc : ¬ ∀ c ∈ M, isC c = true) :
    Calls Tryz.prog 26 #[.agg (rgp A n c i most).toArray, .slice X m d] w fun e w' => e = .returned (.tuple #[.agg (rgp A n c i most).toArray, .int .i64 1]) ∧ Below w.heap.size w w' := by
  obtain ⟨W, hW⟩ : ∃ W, W = (w.alloc (.cells (rgp A n c i most).toArray 29)).alloc (.cells #[.slice none 0 0, .int .i64 0, .int .i64 0] 29) := ⟨_, rfl⟩
  have hBR : BR W w.heap.size (w.heap.size + 1) (rgp A n c i most) [.slice none 0 0, .int .i64 0, .int .i64 0] := by rw [hW]; exact BR.new w _ _
  have hb0 : Below w.heap.size w W := by rw [hW]; exact ((Below.refl _ w).alloc (Nat.le_refl _) _).alloc (by simp) _
  have hs0 : W.heap.size = w.heap.size + 2 := by rw [hW]; simp
  have HBR := Lib.hid hBR
  have HB0 := Lib.hid hb0
  have HS0 := Lib.hid hs0
  simp only [rgp] at hW ⊢
  have HM := Lib.hid hm
  have HX := Lib.hid hX
  have HLEN := Lib.hid hlen
  have HIE : Hid (∀ c ∈ M, True) := Lib.hid (fun _ _ => trivial)
  have HC := Lib.hid hc
  clear hm hX hlen hc hBR hb0 hs0
  go_enter Tryz.func26, Tryz.ntmps26
  go_upto_region 1 with (fail)
  rw [← hW]
  clear hW
  go_wp2_with (fail)
  go_loopw [6] (fun v wr => ∃ k : Nat, v = .int .i64 k ∧ k ≤ m ∧ (∀ c ∈ M.take k, isC c = true) ∧ Below W.heap.size W wr) (fun v _ => m - (intOf v).toNat)
  case atStart => exact ⟨0, rfl, by omega, by simp, Below.refl _ _⟩
  case round =>
    obtain ⟨k, rfl, hk, hall, hb⟩ := hrel
    have HALL := Lib.hid hall
    have HB := Lib.hid hb
    clear hall hb
    by_cases hlt : k < m
    · have hki : (k : Int) < m := by omega
      have hkl : k < M.length := by have := HM.out; omega
      obtain ⟨b, off, rfl, hbb, hcell⟩ := sv_at HX.out hkl
      have hcr := (HB.out.cell (p := ⟨b, off + k, none⟩) (Nat.lt_of_lt_of_le hbb HB0.out.size)).trans ((HB0.out.cell (p := ⟨b, off + k, none⟩) hbb).trans hcell)
      have hts : M.take (k + 1) = M.take k ++ [M[k]] := List.take_succ_eq_append_getElem hkl
      have hlc := HLEN.out _ (List.getElem_mem hkl)
      have hie := HIE.out _ (List.getElem_mem hkl)
      generalize M[k] = c0 at hcr hts hlc hie
      have HTS := Lib.hid hts
      have HLC := Lib.hid hlc
      clear hcell hts hlc
      cases hi : isC c0 with
      | true =>
        have HI := Lib.hid hi
        clear hi
        go_wp2_with (go_at_call 55; refine (ris_any c0 HLC.out _).mono ?_; rintro e w2 ⟨rfl, hb2⟩; rw [HI.out])
        go_roundw
        case rel => exact ⟨k + 1, by go_num, by omega, by
          rw [HTS.out]
          intro x hx
          rcases List.mem_append.1 hx with hx | hx
          · exact HALL.out x hx
          · obtain rfl : x = c0 := by simpa using hx
            exact HI.out, HB.out.trans (hb2.mono HB.out.size)⟩
        case measure => simp [intOf]; omega
      | false =>
        have HI := Lib.hid hi
        clear hi
        go_wp2_with (go_at_call 55; refine (ris_any c0 HLC.out _).mono ?_; rintro e w2 ⟨rfl, hb2⟩; rw [HI.out]; have HB2 := Lib.hid (HB.out.trans (hb2.mono HB.out.size)); have H2 := Lib.hid (HBR.out.bel (HB.out.trans (hb2.mono HB.out.size))); clear hb2; obtain ⟨⟨⟨a0, a1, a2⟩, ⟨f0, f1, f2⟩⟩, ⟨⟨b0, b1, b2⟩, ⟨g0, g1, g2⟩⟩⟩ := H2.out.all)
        refine bodyPost_ret (hresults_ct (ad := w.heap.size + 1) (cs := rgp A n c i most) rfl rfl rfl (Blk.hwhole (t := 29) ?_) Tryz.underlying29 rfl (by kernel_rfl)) rfl ?_
        · exact (((H2.out.sr 0 _).sr 1 _).sr 2 _).hr
        · exact ⟨rfl, ((((HB0.out.trans (HB2.out.mono HB0.out.size)).setCell (p := ⟨w.heap.size + 1, 0, none⟩) (by simp) _).setCell (p := ⟨w.heap.size + 1, 1, none⟩) (by simp) _).setCell (p := ⟨w.heap.size + 1, 2, none⟩) (by simp) _)⟩
    · exfalso
      refine HC.out ?_
      have : M.take k = M := List.take_of_length_le (by have := HM.out; omega)
      rw [← this]
      exact HALL.out

set_option maxHeartbeats 8000000 in
theorem rins_many (A : Option Addr) (n c i most : Nat) (M : List (List UInt8)) (X : Option Addr) (m d : Nat) (hm : m = M.length) (hm5 : m ≤ 100000) (w : World) (hX : Sl w w.heap.size X (sv M)) (hlen : ∀ c ∈ M, c.length ≤ 4000000) (hc : ∀ c ∈ M, isC c = true) (hn4 : n ≤ 4096) (hmost : most ≤ 4096) (hnm : n ≤ most) (hmm : most - n < m) :
    Calls Tryz.prog 26 #[.agg (rgp A n c i most).toArray, .slice X m d] w fun e w' => e = .returned (.tuple #[.agg (rgp A n c i most).toArray, .int .i64 3]) ∧ Below w.heap.size w w' := by
  obtain ⟨W, hW⟩ : ∃ W, W = (w.alloc (.cells (rgp A n c i most).toArray 29)).alloc (.cells #[.slice none 0 0, .int .i64 0, .int .i64 0] 29) := ⟨_, rfl⟩
  have hBR : BR W w.heap.size (w.heap.size + 1) (rgp A n c i most) [.slice none 0 0, .int .i64 0, .int .i64 0] := by rw [hW]; exact BR.new w _ _
  have hb0 : Below w.heap.size w W := by rw [hW]; exact ((Below.refl _ w).alloc (Nat.le_refl _) _).alloc (by simp) _
  have hs0 : W.heap.size = w.heap.size + 2 := by rw [hW]; simp
  have HBR := Lib.hid hBR
  have HB0 := Lib.hid hb0
  have HS0 := Lib.hid hs0
  simp only [rgp] at hW ⊢
  have HM := Lib.hid hm
  have HX := Lib.hid hX
  have HLEN := Lib.hid hlen
  have HIE : Hid (∀ c ∈ M, isC c = true) := Lib.hid (hc)
  
  clear hm hX hlen hc hBR hb0 hs0
  have hmi : (m : Int) > (most : Int) - (n : Int) := by omega
  have hwr : IntKind.i64.wrap ((most : Int) - (n : Int)) = (most : Int) - (n : Int) := IntWalk.i64_in _ (by omega)
  clear hmm
  go_enter Tryz.func26, Tryz.ntmps26
  go_upto_region 1 with (fail)
  rw [← hW]
  clear hW
  go_wp2_with (fail)
  go_loopw [6] (fun v wr => ∃ k : Nat, v = .int .i64 k ∧ k ≤ m ∧ (∀ c ∈ M.take k, isC c = true) ∧ Below W.heap.size W wr) (fun v _ => m - (intOf v).toNat)
  case atStart => exact ⟨0, rfl, by omega, by simp, Below.refl _ _⟩
  case round =>
    obtain ⟨k, rfl, hk, hall, hb⟩ := hrel
    have HALL := Lib.hid hall
    have HB := Lib.hid hb
    clear hall hb
    by_cases hlt : k < m
    · have hki : (k : Int) < m := by omega
      have hkl : k < M.length := by have := HM.out; omega
      obtain ⟨b, off, rfl, hbb, hcell⟩ := sv_at HX.out hkl
      have hcr := (HB.out.cell (p := ⟨b, off + k, none⟩) (Nat.lt_of_lt_of_le hbb HB0.out.size)).trans ((HB0.out.cell (p := ⟨b, off + k, none⟩) hbb).trans hcell)
      have hts : M.take (k + 1) = M.take k ++ [M[k]] := List.take_succ_eq_append_getElem hkl
      have hlc := HLEN.out _ (List.getElem_mem hkl)
      have hie := HIE.out _ (List.getElem_mem hkl)
      generalize M[k] = c0 at hcr hts hlc hie
      have HTS := Lib.hid hts
      have HLC := Lib.hid hlc
      clear hcell hts hlc
      have HI := Lib.hid hie
      clear hie
      · go_wp2_with (go_at_call 55; refine (ris_any c0 HLC.out _).mono ?_; rintro e w2 ⟨rfl, hb2⟩; rw [HI.out])
        go_roundw
        case rel => exact ⟨k + 1, by go_num, by omega, by
          rw [HTS.out]
          intro x hx
          rcases List.mem_append.1 hx with hx | hx
          · exact HALL.out x hx
          · obtain rfl : x = c0 := by simpa using hx
            exact HI.out, HB.out.trans (hb2.mono HB.out.size)⟩
        case measure => simp [intOf]; omega
    · have hki : ¬ (k : Int) < m := by omega
      have H2 := Lib.hid (HBR.out.bel HB.out)
      obtain ⟨⟨⟨a0, a1, a2⟩, ⟨f0, f1, f2⟩⟩, ⟨⟨b0, b1, b2⟩, ⟨g0, g1, g2⟩⟩⟩ := H2.out.all
      go_wp2_with (fail)
      refine bodyPost_ret (hresults_ct (ad := w.heap.size + 1) (cs := rgp A n c i most) rfl rfl rfl (Blk.hwhole (t := 29) ?_) Tryz.underlying29 rfl (by kernel_rfl)) rfl ?_
      · exact (((H2.out.sr 0 _).sr 1 _).sr 2 _).hr
      · exact ⟨rfl, ((((HB0.out.trans (HB.out.mono HB0.out.size)).setCell (p := ⟨w.heap.size + 1, 0, none⟩) (by simp) _).setCell (p := ⟨w.heap.size + 1, 1, none⟩) (by simp) _).setCell (p := ⟨w.heap.size + 1, 2, none⟩) (by simp) _)⟩

def two (b r k : Nat) : Prop := k = b ∨ k = r
theorem rown_chg {w w' : World} {base n c Z : Nat} {E : TypeId} {A : Option Addr} {xs : List Value} {S : Nat → Prop} (h : w.ownsRow base E Z (.slice A n c) n xs) (hc : Chg S w w') (hn : ∀ k, blk A = some k → ¬ S k) : w'.ownsRow base E Z (.slice A n c) n xs := by
  rcases h with ⟨hl, h0 | ⟨g, cap, cur, hv, hb, hh, hnc, hcc, hcur, ht⟩⟩
  · exact ⟨hl, .inl h0⟩
  · exact ⟨hl, .inr ⟨g, cap, cur, hv, hb, hc.heap hh (hn g (by injection hv with h1; rw [h1]; rfl)), hnc, hcc, hcur, ht⟩⟩
theorem OR.chg2 {w w' : World} {base n c : Nat} {e : TypeId} {A : Option Addr} {xs : List Value} (S : Nat → Prop) (h : OR w base e A n c xs) (hc : Chg S w w') (hn : ∀ k, blk A = some k → ¬ S k) : OR w' base e A n c xs := ⟨rown_chg h.1 hc hn, h.2⟩
/-- what Insert leaves where it inserts -/
def RInsP (w : World) (N I most : Nat) (l : List (List UInt8)) (z : Value) (e : Ending) (w' : World) : Prop :=
  ∃ A c, e = .returned (.tuple #[.agg (rgp A N c I most).toArray, z]) ∧ OR w' w.heap.size 9 A N c (sv l) ∧ Below w.heap.size w w'
set_option maxHeartbeats 8000000 in
theorem rins_ok (A : Option Addr) (n c i most : Nat) (M : List (List UInt8)) (X : Option Addr) (m d : Nat) (hm : m = M.length) (hm5 : m ≤ 100000) (w : World) (hX : Sl w w.heap.size X (sv M)) (hlen : ∀ c ∈ M, c.length ≤ 4000000) (hc : ∀ c ∈ M, isC c = true) (l : List (List UInt8)) (hn : n = l.length) (hS : Sl w w.heap.size A (sv l)) (hnc : n ≤ c) (hA : A = none → c = 0) (hX0 : X = none → d = 0) (hi : i ≤ n) (hn4 : n ≤ 4096) (hmost : most ≤ 4096) (hnm : n ≤ most) (hmm : m ≤ most - n) :
    Calls Tryz.prog 26 #[.agg (rgp A n c i most).toArray, .slice X m d] w (RInsP w (i + m + (n - i)) (i + m) most (l.take i ++ M ++ l.drop i) (.int .i64 0)) := by
  obtain ⟨W, hW⟩ : ∃ W, W = (w.alloc (.cells (rgp A n c i most).toArray 29)).alloc (.cells #[.slice none 0 0, .int .i64 0, .int .i64 0] 29) := ⟨_, rfl⟩
  have hBR : BR W w.heap.size (w.heap.size + 1) (rgp A n c i most) [.slice none 0 0, .int .i64 0, .int .i64 0] := by rw [hW]; exact BR.new w _ _
  have hb0 : Below w.heap.size w W := by rw [hW]; exact ((Below.refl _ w).alloc (Nat.le_refl _) _).alloc (by simp) _
  have hs0 : W.heap.size = w.heap.size + 2 := by rw [hW]; simp
  have HBR := Lib.hid hBR
  have HB0 := Lib.hid hb0
  have HS0 := Lib.hid hs0
  simp only [rgp] at hW ⊢
  have HM := Lib.hid hm
  have HX := Lib.hid hX
  have HLEN := Lib.hid hlen
  have HIE : Hid (∀ c ∈ M, isC c = true) := Lib.hid (hc)
  
  clear hm hX hlen hc hBR hb0 hs0
  have hmi : ¬ ((m : Int) > (most : Int) - (n : Int)) := by omega
  have hwr : IntKind.i64.wrap ((most : Int) - (n : Int)) = (most : Int) - (n : Int) := IntWalk.i64_in _ (by omega)
  have hw3 := fun (V : World) (hV : Below w.heap.size w V) => rwith_any l M A X n c m d i i hn (by have := HM.out; omega) hnc hA hX0 (Nat.le_refl _) hi (by omega) V ((hS.below hV).more hV.size) ((HX.out.below hV).more hV.size)
  have HW3 := Lib.hid hw3
  clear hw3 hS hn hnc hA hX0 hmm
  go_enter Tryz.func26, Tryz.ntmps26
  go_upto_region 1 with (fail)
  rw [← hW]
  clear hW
  go_wp2_with (fail)
  go_loopw [6] (fun v wr => ∃ k : Nat, v = .int .i64 k ∧ k ≤ m ∧ (∀ c ∈ M.take k, isC c = true) ∧ Below W.heap.size W wr) (fun v _ => m - (intOf v).toNat)
  case atStart => exact ⟨0, rfl, by omega, by simp, Below.refl _ _⟩
  case round =>
    obtain ⟨k, rfl, hk, hall, hb⟩ := hrel
    have HALL := Lib.hid hall
    have HB := Lib.hid hb
    clear hall hb
    by_cases hlt : k < m
    · have hki : (k : Int) < m := by omega
      have hkl : k < M.length := by have := HM.out; omega
      obtain ⟨b, off, rfl, hbb, hcell⟩ := sv_at HX.out hkl
      have hcr := (HB.out.cell (p := ⟨b, off + k, none⟩) (Nat.lt_of_lt_of_le hbb HB0.out.size)).trans ((HB0.out.cell (p := ⟨b, off + k, none⟩) hbb).trans hcell)
      have hts : M.take (k + 1) = M.take k ++ [M[k]] := List.take_succ_eq_append_getElem hkl
      have hlc := HLEN.out _ (List.getElem_mem hkl)
      have hie := HIE.out _ (List.getElem_mem hkl)
      generalize M[k] = c0 at hcr hts hlc hie
      have HTS := Lib.hid hts
      have HLC := Lib.hid hlc
      clear hcell hts hlc
      have HI := Lib.hid hie
      clear hie
      · go_wp2_with (go_at_call 55; refine (ris_any c0 HLC.out _).mono ?_; rintro e w2 ⟨rfl, hb2⟩; rw [HI.out])
        go_roundw
        case rel => exact ⟨k + 1, by go_num, by omega, by
          rw [HTS.out]
          intro x hx
          rcases List.mem_append.1 hx with hx | hx
          · exact HALL.out x hx
          · obtain rfl : x = c0 := by simpa using hx
            exact HI.out, HB.out.trans (hb2.mono HB.out.size)⟩
        case measure => simp [intOf]; omega
    · have hki : ¬ (k : Int) < m := by omega
      have H2 := Lib.hid (HBR.out.bel HB.out)
      have HBB := Lib.hid (HB0.out.trans (HB.out.mono HB0.out.size))
      have hwsz := HB.out.size
      have hs2 := HS0.out
      obtain ⟨⟨⟨a0, a1, a2⟩, ⟨f0, f1, f2⟩⟩, ⟨⟨b0, b1, b2⟩, ⟨g0, g1, g2⟩⟩⟩ := H2.out.all
      have HLT : Hid (w.heap.size + 2 ≤ wr.heap.size) := Lib.hid (by omega)
      clear hwsz hs2
      go_wp2_with (go_at_call 52; refine (HW3.out _ HBB.out).mono ?_; rintro e w3 ⟨A3, c3, rfl, ho3, hb3⟩; have HO3 := Lib.hid ho3; have H3 := Lib.hid (H2.out.bel hb3); have HB3 := Lib.hid (HBB.out.trans (hb3.mono HBB.out.size)); clear hb3 ho3 a0 a1 a2 f0 f1 f2 b0 b1 b2 g0 g1 g2; obtain ⟨⟨⟨a0, a1, a2⟩, ⟨f0, f1, f2⟩⟩, ⟨⟨b0, b1, b2⟩, ⟨g0, g1, g2⟩⟩⟩ := H3.out.all)
      refine bodyPost_ret (hresults_ct (ad := w.heap.size + 1) (cs := rgp A3 (i + m + (n - i)) c3 (i + m) most) rfl rfl rfl (Blk.hwhole (t := 29) ?_) Tryz.underlying29 rfl (by kernel_rfl)) rfl ?_
      · exact (((((H3.out.sb 0 _).sb 1 _).sr 0 _).sr 1 _).sr 2 _).hr
      · refine ⟨A3, c3, rfl, ?_, (((((HB3.out.setCell (p := ⟨w.heap.size, 0, none⟩) (by simp) _).setCell (p := ⟨w.heap.size, 1, none⟩) (by simp) _).setCell (p := ⟨w.heap.size + 1, 0, none⟩) (by simp) _).setCell (p := ⟨w.heap.size + 1, 1, none⟩) (by simp) _).setCell (p := ⟨w.heap.size + 1, 2, none⟩) (by simp) _)⟩
        refine OR.chg2 (two w.heap.size (w.heap.size + 1)) (HO3.out.weaken (by have := HLT.out; omega)) ((((((Chg.refl _ w3).setCell (p := ⟨w.heap.size, 0, none⟩) (.inl (.inl rfl)) _).setCell (p := ⟨w.heap.size, 1, none⟩) (.inl (.inl rfl)) _).setCell (p := ⟨w.heap.size + 1, 0, none⟩) (.inl (.inr rfl)) _).setCell (p := ⟨w.heap.size + 1, 1, none⟩) (.inl (.inr rfl)) _).setCell (p := ⟨w.heap.size + 1, 2, none⟩) (.inl (.inr rfl)) _) ?_
        intro q hq h2
        have h3 := (HO3.out.blk_lt q hq).1
        have h4 := HLT.out
        rcases h2 with h2 | h2 <;> (rw [h2] at h3; omega)

end Go.Proofs.YtjdfajgjejpfeaaGreatDoor

namespace Go.Proofs.YtjdfajgjejpfeaaGreatDoor
open Go.RowKit Go.Sort
set_option linter.unusedVariables false
set_option linter.unusedSimpArgs false
set_option maxRecDepth 100000

set_option maxHeartbeats 8000000 in
theorem rrep_no (A : Option Addr) (n c i most : Nat) (a : Int) (x : List UInt8) (ha : hasB a n = false) (w : World) :
    Calls Tryz.prog 23 #[.agg (rgp A n c i most).toArray, .int .i64 a, .string ⟨x.toArray⟩] w fun e w' => e = .returned (.tuple #[.agg (rgp A n c i most).toArray, .int .i64 5]) ∧ Below w.heap.size w w' := by
  obtain ⟨W, hW⟩ : ∃ W, W = (w.alloc (.cells (rgp A n c i most).toArray 29)).alloc (.cells #[.slice none 0 0, .int .i64 0, .int .i64 0] 29) := ⟨_, rfl⟩
  have hBR : BR W w.heap.size (w.heap.size + 1) (rgp A n c i most) [.slice none 0 0, .int .i64 0, .int .i64 0] := by rw [hW]; exact BR.new w _ _
  have hb0 : Below w.heap.size w W := by rw [hW]; exact ((Below.refl _ w).alloc (Nat.le_refl _) _).alloc (by simp) _
  have hs0 : W.heap.size = w.heap.size + 2 := by rw [hW]; simp
  have HBR := Lib.hid hBR
  have HB0 := Lib.hid hb0
  have HS0 := Lib.hid hs0
  simp only [rgp] at hW ⊢
  obtain ⟨⟨⟨a0, a1, a2⟩, ⟨f0, f1, f2⟩⟩, ⟨⟨b0, b1, b2⟩, ⟨g0, g1, g2⟩⟩⟩ := HBR.out.all
  clear hBR hb0 hs0
  by_cases h1 : a < 0
  case' pos => clear ha
  case' neg =>
    have h2 : a ≥ (n : Int) := by
      unfold hasB at ha
      have := of_decide_eq_false ha
      omega
    clear ha
  all_goals
    go_enter Tryz.func23, Tryz.ntmps23
    go_upto_region 1 with (fail)
    rw [← hW]
    clear hW
    go_wp2_with (fail)
    refine bodyPost_ret (hresults_ct (ad := w.heap.size + 1) (cs := rgp A n c i most) rfl rfl rfl (Blk.hwhole (t := 29) ?_) Tryz.underlying29 rfl (by kernel_rfl)) rfl ?_
    · exact (((HBR.out.sr 0 _).sr 1 _).sr 2 _).hr
    · exact ⟨rfl, (((HB0.out.setCell (p := ⟨w.heap.size + 1, 0, none⟩) (by simp) _).setCell (p := ⟨w.heap.size + 1, 1, none⟩) (by simp) _).setCell (p := ⟨w.heap.size + 1, 2, none⟩) (by simp) _)⟩

set_option maxHeartbeats 8000000 in
theorem rrep_arg (A : Option Addr) (n c i most : Nat) (a : Int) (x : List UInt8) (ha : hasB a n = true) (hx : x.length ≤ 4000000) (hi : isC x = false) (w : World) :
    Calls Tryz.prog 23 #[.agg (rgp A n c i most).toArray, .int .i64 a, .string ⟨x.toArray⟩] w fun e w' => e = .returned (.tuple #[.agg (rgp A n c i most).toArray, .int .i64 1]) ∧ Below w.heap.size w w' := by
  obtain ⟨W, hW⟩ : ∃ W, W = (w.alloc (.cells (rgp A n c i most).toArray 29)).alloc (.cells #[.slice none 0 0, .int .i64 0, .int .i64 0] 29) := ⟨_, rfl⟩
  have hBR : BR W w.heap.size (w.heap.size + 1) (rgp A n c i most) [.slice none 0 0, .int .i64 0, .int .i64 0] := by rw [hW]; exact BR.new w _ _
  have hb0 : Below w.heap.size w W := by rw [hW]; exact ((Below.refl _ w).alloc (Nat.le_refl _) _).alloc (by simp) _
  have hs0 : W.heap.size = w.heap.size + 2 := by rw [hW]; simp
  have HBR := Lib.hid hBR
  have HB0 := Lib.hid hb0
  have HS0 := Lib.hid hs0
  simp only [rgp] at hW ⊢
  obtain ⟨⟨⟨a0, a1, a2⟩, ⟨f0, f1, f2⟩⟩, ⟨⟨b0, b1, b2⟩, ⟨g0, g1, g2⟩⟩⟩ := HBR.out.all
  have hh := of_decide_eq_true ha
  have h1 : ¬ (a < 0) := by omega
  have h2 : ¬ (a ≥ (n : Int)) := by omega
  have h3 : a < (n : Int) := by omega
  have HI := Lib.hid hi
  have HXL := Lib.hid hx
  clear hBR hb0 hs0 ha hh hi hx
  go_enter Tryz.func23, Tryz.ntmps23
  go_upto_region 1 with (fail)
  rw [← hW]
  clear hW
  go_wp2_with (go_at_call 55; refine (ris_any x HXL.out _).mono ?_; rintro e w2 ⟨rfl, hb2⟩; rw [HI.out]; have HB2 := Lib.hid (HB0.out.trans (hb2.mono HB0.out.size)); have H2 := Lib.hid (HBR.out.bel hb2); clear hb2; clear a0 a1 a2 f0 f1 f2 b0 b1 b2 g0 g1 g2; obtain ⟨⟨⟨a0, a1, a2⟩, ⟨f0, f1, f2⟩⟩, ⟨⟨b0, b1, b2⟩, ⟨g0, g1, g2⟩⟩⟩ := H2.out.all)
  refine bodyPost_ret (hresults_ct (ad := w.heap.size + 1) (cs := rgp A n c i most) rfl rfl rfl (Blk.hwhole (t := 29) ?_) Tryz.underlying29 rfl (by kernel_rfl)) rfl ?_
  · exact (((H2.out.sr 0 _).sr 1 _).sr 2 _).hr
  · exact ⟨rfl, (((HB2.out.setCell (p := ⟨w.heap.size + 1, 0, none⟩) (by simp) _).setCell (p := ⟨w.heap.size + 1, 1, none⟩) (by simp) _).setCell (p := ⟨w.heap.size + 1, 2, none⟩) (by simp) _)⟩

set_option maxHeartbeats 8000000 in
theorem rrep_ok (l : List (List UInt8)) (A : Option Addr) (n c i most : Nat) (a : Nat) (x : List UInt8) (hn : n = l.length) (hnc : n ≤ c) (hA : A = none → c = 0) (hn4 : n ≤ 4096) (ha : a < n) (hx : x.length ≤ 4000000) (hi : isC x = true) (w : World) (hS : Sl w w.heap.size A (sv l)) :
    Calls Tryz.prog 23 #[.agg (rgp A n c i most).toArray, .int .i64 a, .string ⟨x.toArray⟩] w (RInsP w (a + 1 + (n - (a + 1))) i most (l.take a ++ [x] ++ l.drop (a + 1)) (.int .i64 0)) := by
  obtain ⟨W, hW⟩ : ∃ W, W = (w.alloc (.cells (rgp A n c i most).toArray 29)).alloc (.cells #[.slice none 0 0, .int .i64 0, .int .i64 0] 29) := ⟨_, rfl⟩
  have hBR : BR W w.heap.size (w.heap.size + 1) (rgp A n c i most) [.slice none 0 0, .int .i64 0, .int .i64 0] := by rw [hW]; exact BR.new w _ _
  have hb0 : Below w.heap.size w W := by rw [hW]; exact ((Below.refl _ w).alloc (Nat.le_refl _) _).alloc (by simp) _
  have hs0 : W.heap.size = w.heap.size + 2 := by rw [hW]; simp
  have HBR := Lib.hid hBR
  have HB0 := Lib.hid hb0
  have HS0 := Lib.hid hs0
  simp only [rgp] at hW ⊢
  obtain ⟨⟨⟨a0, a1, a2⟩, ⟨f0, f1, f2⟩⟩, ⟨⟨b0, b1, b2⟩, ⟨g0, g1, g2⟩⟩⟩ := HBR.out.all
  have h1 : ¬ ((a : Int) < 0) := by omega
  have h2 : ¬ ((a : Int) ≥ (n : Int)) := by omega
  have h3 : (a : Int) < (n : Int) := by omega
  have h4 : IntKind.i64.wrap ((a : Int) + 1) = ((a + 1 : Nat) : Int) := by rw [show ((a : Int) + 1) = ((a + 1 : Nat) : Int) by omega]; exact IntWalk.i64_in _ (by omega)
  have hw3 := fun (V : World) (Y : Option Addr) (hV : Below w.heap.size w V) (hY0 : Y = none → 1 = 0) (hY : Sl V V.heap.size Y (sv [x])) => rwith_any l [x] A Y n c 1 1 a (a + 1) hn rfl hnc hA hY0 (by omega) (by omega) (by omega) V ((hS.below hV).more hV.size) hY
  have HW3 := Lib.hid hw3
  have HI := Lib.hid hi
  have HXL := Lib.hid hx
  clear hBR hb0 hs0 hi hx hS hw3 hn hnc hA
  go_enter Tryz.func23, Tryz.ntmps23
  go_upto_region 1 with (fail)
  rw [← hW]
  clear hW
  go_wp2_with (first
    | (go_at_call 55; refine (ris_any x HXL.out _).mono ?_; rintro e w2 ⟨rfl, hb2⟩; rw [HI.out]; have HB2 := Lib.hid (HB0.out.trans (hb2.mono HB0.out.size)); have H2 := Lib.hid (HBR.out.bel hb2); have HLT : Hid (w.heap.size + 2 ≤ w2.heap.size) := Lib.hid (by have h8 := hb2.size; have h9 := HS0.out; omega); clear hb2; clear a0 a1 a2 f0 f1 f2 b0 b1 b2 g0 g1 g2; obtain ⟨⟨⟨a0, a1, a2⟩, ⟨f0, f1, f2⟩⟩, ⟨⟨b0, b1, b2⟩, ⟨g0, g1, g2⟩⟩⟩ := H2.out.all)
    | (go_at_call 52; refine (HW3.out _ (some ⟨w2.heap.size, 0, none⟩) (HB2.out.alloc HB2.out.size _) (fun e => by cases e) (by have := Sl.new w2 #[.string ⟨x.toArray⟩] 9; simpa [sv] using this)).mono ?_; rintro e w3 ⟨A3, c3, rfl, ho3, hb3⟩; have hb23 : Below w2.heap.size w2 w3 := ((Below.refl _ w2).alloc (Nat.le_refl _) _).trans (hb3.mono (by simp)); have HO3 := Lib.hid ho3; have H3 := Lib.hid (H2.out.bel hb23); have HB3 := Lib.hid (HB2.out.trans (hb23.mono HB2.out.size)); clear hb3 hb23 ho3; clear a0 a1 a2 f0 f1 f2 b0 b1 b2 g0 g1 g2; obtain ⟨⟨⟨a0, a1, a2⟩, ⟨f0, f1, f2⟩⟩, ⟨⟨b0, b1, b2⟩, ⟨g0, g1, g2⟩⟩⟩ := H3.out.all))
  refine bodyPost_ret (hresults_ct (ad := w.heap.size + 1) (cs := rgp A3 (a + 1 + (n - (a + 1))) c3 i most) rfl rfl rfl (Blk.hwhole (t := 29) ?_) Tryz.underlying29 rfl (by kernel_rfl)) rfl ?_
  · exact ((((H3.out.sb 0 _).sr 0 _).sr 1 _).sr 2 _).hr
  · refine ⟨A3, c3, rfl, ?_, ((((HB3.out.setCell (p := ⟨w.heap.size, 0, none⟩) (by simp) _).setCell (p := ⟨w.heap.size + 1, 0, none⟩) (by simp) _).setCell (p := ⟨w.heap.size + 1, 1, none⟩) (by simp) _).setCell (p := ⟨w.heap.size + 1, 2, none⟩) (by simp) _)⟩
    refine OR.chg2 (two w.heap.size (w.heap.size + 1)) (HO3.out.weaken (by have := HLT.out; simp; omega)) (((((Chg.refl _ w3).setCell (p := ⟨w.heap.size, 0, none⟩) (.inl (.inl rfl)) _).setCell (p := ⟨w.heap.size + 1, 0, none⟩) (.inl (.inr rfl)) _).setCell (p := ⟨w.heap.size + 1, 1, none⟩) (.inl (.inr rfl)) _).setCell (p := ⟨w.heap.size + 1, 2, none⟩) (.inl (.inr rfl)) _) ?_
    intro q hq h2
    have h3 := (HO3.out.blk_lt q hq).1
    have h4 := HLT.out
    simp at h3
    rcases h2 with h2 | h2 <;> (rw [h2] at h3; omega)

end Go.Proofs.YtjdfajgjejpfeaaGreatDoor

namespace Go.Proofs.YtjdfajgjejpfeaaGreatDoor
open Go.RowKit Go.Sort
set_option linter.unusedVariables false
set_option linter.unusedSimpArgs false
set_option maxRecDepth 100000

def RTx (l : List (List UInt8)) (n : Nat) (W : World) (v3 v4 : Value) (wr : World) : Prop := ∃ k : Nat, v4 = .int .i64 k ∧ k ≤ n ∧ v3 = .string ⟨((l.take k).flatten).toArray⟩ ∧ wr = W
set_option maxHeartbeats 4000000 in
theorem rgtext_any (l : List (List UInt8)) (A : Option Addr) (n c i most : Nat) (hn : n = l.length) (hn4 : n ≤ 4096) (hlen : ∀ x ∈ l, x.length ≤ 64) (w : World) (hS : Sl w w.heap.size A (sv l)) :
    Calls Tryz.prog 36 #[.agg (rgp A n c i most).toArray] w fun e w' => e = .returned (.string ⟨l.flatten.toArray⟩) ∧ Below w.heap.size w w' := by
  obtain ⟨W, hW⟩ : ∃ W, W = w.alloc (.cells (rgp A n c i most).toArray 29) := ⟨_, rfl⟩
  have hc0 : W.cell? ⟨w.heap.size, 0, none⟩ = some (.slice A n c) := by rw [hW]; exact (Blk.new w 29 (rgp A n c i most)).cell 0
  have hc1 : W.cell? ⟨w.heap.size, 1, none⟩ = some (.int .i64 i) := by rw [hW]; exact (Blk.new w 29 (rgp A n c i most)).cell 1
  have hb0 : Below w.heap.size w W := by rw [hW]; exact (Below.refl _ w).alloc (Nat.le_refl _) _
  have hl0 : w.heap.size < W.heap.size := by rw [hW]; simp
  have HB0 := Lib.hid hb0
  have HL0 := Lib.hid hl0
  simp only [rgp] at hW ⊢
  clear hb0 hl0
  have HS := Lib.hid hS
  have HN := Lib.hid hn
  have HLEN := Lib.hid hlen
  clear hS hn hc1 hlen
  go_enter Tryz.func36, Tryz.ntmps36
  go_upto_region 1 with (fail)
  rw [← hW]
  clear hW
  go_wp2_with (fail)
  go_loopw [3, 4] (fun v3 v4 wr => RTx l n W v3 v4 wr) (fun _ v _ => n - (intOf v).toNat)
  case atStart => exact ⟨0, rfl, by omega, by simp, rfl⟩
  case round =>
    obtain ⟨k, rfl, hk, rfl, rfl⟩ := hrel
    by_cases hlt : k < n
    · have hki : (k : Int) < n := by omega
      have hkl : k < l.length := by have := HN.out; omega
      obtain ⟨b, off, rfl, hbb, hcell⟩ := sv_at HS.out hkl
      have hcr := (HB0.out.cell (p := ⟨b, off + k, none⟩) hbb).trans hcell
      have hts : (l.take (k + 1)).flatten = (l.take k).flatten ++ l[k] := by rw [List.take_succ_eq_append_getElem hkl, List.flatten_append, List.flatten_cons, List.flatten_nil, List.append_nil]
      have hadd := str_add (l.take k).flatten l[k]
      have hxl := HLEN.out _ (List.getElem_mem hkl)
      have hql : (l.take k).flatten.length ≤ 262144 := by
        have h1 := flat_le (l := l.take k) (fun c hc => HLEN.out c (List.mem_of_mem_take hc))
        have h2 : (l.take k).length ≤ k := List.length_take_le _ _
        omega
      generalize (l.take k).flatten = Q at hts hadd hql ⊢
      generalize l[k] = x at hcr hadd hts hxl
      have HADD := Lib.hid hadd
      have HTS := Lib.hid hts
      clear hcell hts hadd
      go_wp2_with (fail)
      go_roundw
      case rel => exact ⟨k + 1, by go_num, by omega, by rw [HTS.out, HADD.out], rfl⟩
      case measure => simp [intOf]; omega
    · have hki : ¬ (k : Int) < n := by omega
      have HF : Hid ((l.take k).flatten = l.flatten) := Lib.hid (by rw [List.take_of_length_le (by have := HN.out; omega)])
      go_wp2_with (fail)
      go_ret
      exact ⟨by first | rfl | (rw [HF.out]; rfl), HB0.out⟩

set_option maxHeartbeats 4000000 in
theorem rgwidths_any (l : List (List UInt8)) (A : Option Addr) (n c i most : Nat) (hn : n = l.length) (hn4 : n ≤ 4096) (hlen : ∀ x ∈ l, x.length ≤ 4000000) (w : World) (hS : Sl w w.heap.size A (sv l)) :
    Calls Tryz.prog 38 #[.agg (rgp A n c i most).toArray] w fun e w' => ∃ A2 c2, e = .returned (.slice A2 n c2) ∧ OR w' w.heap.size 3 A2 n c2 (wv l) ∧ Below w.heap.size w w' := by
  obtain ⟨W, hW⟩ : ∃ W, W = w.alloc (.cells (rgp A n c i most).toArray 29) := ⟨_, rfl⟩
  have hc0 : W.cell? ⟨w.heap.size, 0, none⟩ = some (.slice A n c) := by rw [hW]; exact (Blk.new w 29 (rgp A n c i most)).cell 0
  have hc1 : W.cell? ⟨w.heap.size, 1, none⟩ = some (.int .i64 i) := by rw [hW]; exact (Blk.new w 29 (rgp A n c i most)).cell 1
  have hb0 : Below w.heap.size w W := by rw [hW]; exact (Below.refl _ w).alloc (Nat.le_refl _) _
  have hl0 : w.heap.size < W.heap.size := by rw [hW]; simp
  have HB0 := Lib.hid hb0
  have HL0 := Lib.hid hl0
  simp only [rgp] at hW ⊢
  clear hb0 hl0
  have HS := Lib.hid hS
  have HN := Lib.hid hn
  have HLEN := Lib.hid hlen
  have HC0 := Lib.hid hc0
  clear hS hn hc1 hlen hc0
  go_enter Tryz.func38, Tryz.ntmps38
  go_upto_region 1 with (fail)
  rw [← hW]
  clear hW
  go_wp2_with (fail)
  go_loopw [3, 4] (fun v3 v4 wr => ∃ (k : Nat) (A1 : Option Addr) (c1 : Nat), v4 = .int .i64 k ∧ k ≤ n ∧ v3 = .slice A1 k c1 ∧ OR wr W.heap.size 3 A1 k c1 (wv (l.take k)) ∧ Below W.heap.size W wr) (fun _ v _ => n - (intOf v).toNat)
  case atStart => exact ⟨0, none, 0, rfl, by omega, rfl, OR.none_ _ _ _, Below.refl _ _⟩
  case round =>
    obtain ⟨k, A1, c1, rfl, hk, rfl, hor, hb⟩ := hrel
    have HOR := Lib.hid hor
    have HB := Lib.hid hb
    have hcw := (hb.cell (p := ⟨w.heap.size, 0, none⟩) HL0.out).trans HC0.out
    clear hor hb
    by_cases hlt : k < n
    · have hki : (k : Int) < n := by omega
      have hkl : k < l.length := by have := HN.out; omega
      obtain ⟨b, off, rfl, hbb, hcell⟩ := sv_at HS.out hkl
      have hcr := (HB.out.cell (p := ⟨b, off + k, none⟩) (Nat.lt_trans hbb HL0.out)).trans ((HB0.out.cell (p := ⟨b, off + k, none⟩) hbb).trans hcell)
      have hts : wv (l.take (k + 1)) = wv (l.take k) ++ [.int .i64 (fw (rs l[k]))] := by unfold wv; rw [List.take_succ_eq_append_getElem hkl, List.map_append]; rfl
      have hlc := HLEN.out _ (List.getElem_mem hkl)
      have hq := fun (V : World) => rwidth_any ⟨(l[k]).toArray⟩ (by rw [size_of]; exact hlc) V
      simp only at hq
      generalize l[k] = y at hcr hts hq
      obtain ⟨z, hz⟩ : ∃ z, z = fw (rs y) := ⟨_, rfl⟩
      rw [← hz] at hts hq
      have HTS := Lib.hid hts
      have HQ := Lib.hid hq
      clear hcell hts hlc hq hz
      go_wp2_with (first
        | (go_at_call 63; refine (HQ.out _).mono ?_; rintro e w2 ⟨rfl, hb2⟩; have HB2 := Lib.hid (HB.out.trans (hb2.mono HB.out.size)); have HO2 := Lib.hid (OR.chg2 noB HOR.out (Chg.of_below hb2) (fun _ _ h => h)); clear hb2)
        | (at_builtin; refine wpList_app Tryz.underlying64 i64_info rfl (by omega) _ rfl (.tmp 12) (.tmp 19) rfl W.heap.size A1 k c1 _ rfl (HO2.out.alloc _) (some ⟨w2.heap.size, 0, none⟩) 1 1 [.int .i64 z] (w2.heap.size + 1) rfl (Sl.new w2 #[.int .i64 z] 3) rfl (fun e => by cases e) (by intro u hu; simp at hu; subst hu; rfl) (k + 1) rfl (by omega) (by have := HB2.out.size; simp; omega) ?_; intro A3 c3 w3 ho3 hg3 hat3
           have hb3 : Below W.heap.size W w3 := (HB2.out.alloc HB2.out.size _).grown hg3 (HB2.out.alloc HB2.out.size _).size (fun j hj => ((HO2.out.alloc (.cells #[.int .i64 z] 3)).blk_lt j hj).1)
           have HB3 := Lib.hid hb3
           have HO3 := Lib.hid ho3
           clear hb3 ho3 hg3 hat3))
      go_roundw
      case rel => exact ⟨k + 1, A3, c3, by go_num, by omega, rfl, by rw [HTS.out]; exact HO3.out, HB3.out⟩
      case measure => simp [intOf]; omega
    · have hki : ¬ (k : Int) < n := by omega
      obtain rfl : k = n := by omega
      have HF : Hid (wv (l.take k) = wv l) := Lib.hid (by rw [List.take_of_length_le (by have := HN.out; omega)])
      go_wp2_with (fail)
      go_ret
      exact ⟨A1, c1, rfl, by rw [← HF.out]; exact HOR.out.weaken HB0.out.size, HB0.out.trans (HB.out.mono HB0.out.size)⟩
end Go.Proofs.YtjdfajgjejpfeaaGreatDoor

namespace Go.Proofs.YtjdfajgjejpfeaaGreatDoor
open Go.RowKit Go.Sort
set_option linter.unusedVariables false
set_option linter.unusedSimpArgs false
set_option maxRecDepth 100000

set_option maxHeartbeats 8000000 in
theorem rdel_no (A : Option Addr) (n c i most : Nat) (x y : Int) (hlt : clampN y n ≤ clampN x n) (w : World) :
    Calls Tryz.prog 20 #[.agg (rgp A n c i most).toArray, .int .i64 x, .int .i64 y] w fun e w' => e = .returned (.tuple #[.agg (rgp A n c i most).toArray, .slice none 0 0]) ∧ Below w.heap.size w w' := by
  obtain ⟨W, hW⟩ : ∃ W, W = (w.alloc (.cells (rgp A n c i most).toArray 29)).alloc (.cells #[.slice none 0 0, .int .i64 0, .int .i64 0] 29) := ⟨_, rfl⟩
  have hBR : BR W w.heap.size (w.heap.size + 1) (rgp A n c i most) [.slice none 0 0, .int .i64 0, .int .i64 0] := by rw [hW]; exact BR.new w _ _
  have hb0 : Below w.heap.size w W := by rw [hW]; exact ((Below.refl _ w).alloc (Nat.le_refl _) _).alloc (by simp) _
  have hs0 : W.heap.size = w.heap.size + 2 := by rw [hW]; simp
  have HBR := Lib.hid hBR
  have HB0 := Lib.hid hb0
  have HS0 := Lib.hid hs0
  simp only [rgp] at hW ⊢
  obtain ⟨⟨⟨a0, a1, a2⟩, ⟨f0, f1, f2⟩⟩, ⟨⟨b0, b1, b2⟩, ⟨g0, g1, g2⟩⟩⟩ := HBR.out.all
  have hq := fun z W => rheld_any A n c i most z W
  simp only [rgp] at hq
  obtain ⟨a, ha⟩ : ∃ a, a = clampN x n := ⟨_, rfl⟩
  obtain ⟨b, hb⟩ : ∃ b, b = clampN y n := ⟨_, rfl⟩
  have hqx := hq x
  have hqy := hq y
  rw [← ha] at hqx hlt
  rw [← hb] at hqy hlt
  have hli : (b : Int) ≤ (a : Int) := by omega
  have HQX := Lib.hid hqx
  have HQY := Lib.hid hqy
  clear hq hqx hqy ha hb hBR hb0 hs0 hlt
  go_enter Tryz.func20, Tryz.ntmps20
  go_upto_region 1 with (fail)
  rw [← hW]
  clear hW
  go_wp2_with (fail)
  refine (HQX.out _).mono ?_
  rintro e w1 ⟨rfl, hb1⟩
  have HB1 := Lib.hid (HB0.out.trans (hb1.mono HB0.out.size))
  have H1 := Lib.hid (HBR.out.bel hb1)
  clear hb1
  clear a0 a1 a2 f0 f1 f2 b0 b1 b2 g0 g1 g2
  obtain ⟨⟨⟨a0, a1, a2⟩, ⟨f0, f1, f2⟩⟩, ⟨⟨b0, b1, b2⟩, ⟨g0, g1, g2⟩⟩⟩ := H1.out.all
  go_wp2_with (fail)
  refine (HQY.out _).mono ?_
  rintro e w2 ⟨rfl, hb2⟩
  have HB2 := Lib.hid (HB1.out.trans (hb2.mono HB1.out.size))
  have H2 := Lib.hid (H1.out.bel hb2)
  clear hb2
  clear a0 a1 a2 f0 f1 f2 b0 b1 b2 g0 g1 g2
  obtain ⟨⟨⟨a0, a1, a2⟩, ⟨f0, f1, f2⟩⟩, ⟨⟨b0, b1, b2⟩, ⟨g0, g1, g2⟩⟩⟩ := H2.out.all
  go_wp2_with (fail)
  refine bodyPost_ret (hresults_ct (ad := w.heap.size + 1) (cs := rgp A n c i most) rfl rfl rfl (Blk.hwhole (t := 29) ?_) Tryz.underlying29 rfl (by kernel_rfl)) rfl ?_
  · exact (((H2.out.sr 0 _).sr 1 _).sr 2 _).hr
  · exact ⟨rfl, (((HB2.out.setCell (p := ⟨w.heap.size + 1, 0, none⟩) (by simp) _).setCell (p := ⟨w.heap.size + 1, 1, none⟩) (by simp) _).setCell (p := ⟨w.heap.size + 1, 2, none⟩) (by simp) _)⟩

/-- where the cursor is behind a deletion -/
def RDelP (w : World) (N I most K : Nat) (l g : List (List UInt8)) (e : Ending) (w' : World) : Prop :=
  ∃ A c A2 c2, e = .returned (.tuple #[.agg (rgp A N c I most).toArray, .slice A2 K c2]) ∧ OR w' w.heap.size 9 A N c (sv l) ∧ OR w' w.heap.size 9 A2 K c2 (sv g) ∧ Below w.heap.size w w'
set_option maxHeartbeats 8000000 in
theorem rdel_yes (l : List (List UInt8)) (A : Option Addr) (n c i most : Nat) (x y : Int) (hn : n = l.length) (hnc : n ≤ c) (hA : A = none → c = 0) (hn4 : n ≤ 4096) (hi : i ≤ n) (hlt : clampN x n < clampN y n) (w : World) (hS : Sl w w.heap.size A (sv l)) :
    Calls Tryz.prog 20 #[.agg (rgp A n c i most).toArray, .int .i64 x, .int .i64 y] w (RDelP w (clampN x n + (n - clampN y n)) (delC i (clampN x n) (clampN y n)) most (clampN y n - clampN x n) (l.take (clampN x n) ++ l.drop (clampN y n)) ((l.drop (clampN x n)).take (clampN y n - clampN x n))) := by
  obtain ⟨W, hW⟩ : ∃ W, W = (w.alloc (.cells (rgp A n c i most).toArray 29)).alloc (.cells #[.slice none 0 0, .int .i64 0, .int .i64 0] 29) := ⟨_, rfl⟩
  have hBR : BR W w.heap.size (w.heap.size + 1) (rgp A n c i most) [.slice none 0 0, .int .i64 0, .int .i64 0] := by rw [hW]; exact BR.new w _ _
  have hb0 : Below w.heap.size w W := by rw [hW]; exact ((Below.refl _ w).alloc (Nat.le_refl _) _).alloc (by simp) _
  have hs0 : W.heap.size = w.heap.size + 2 := by rw [hW]; simp
  have HBR := Lib.hid hBR
  have HB0 := Lib.hid hb0
  have HS0 := Lib.hid hs0
  simp only [rgp] at hW ⊢
  obtain ⟨⟨⟨a0, a1, a2⟩, ⟨f0, f1, f2⟩⟩, ⟨⟨b0, b1, b2⟩, ⟨g0, g1, g2⟩⟩⟩ := HBR.out.all
  have hq := fun z W => rheld_any A n c i most z W
  simp only [rgp] at hq
  have hbn := clampN_le y n
  obtain ⟨a, ha⟩ : ∃ a, a = clampN x n := ⟨_, rfl⟩
  obtain ⟨b, hb⟩ : ∃ b, b = clampN y n := ⟨_, rfl⟩
  have hqx := hq x
  have hqy := hq y
  rw [← ha] at hqx hlt ⊢
  rw [← hb] at hqy hlt hbn ⊢
  have hli : ¬ ((b : Int) ≤ (a : Int)) := by omega
  have hw3 := fun (V : World) (hV : Below w.heap.size w V) => rwith_any l [] A none n c 0 0 a b hn rfl hnc hA (fun _ => rfl) (by omega) hbn (by omega) V ((hS.below hV).more hV.size) (.inl rfl)
  have HSL : Hid (∀ V, Below w.heap.size w V → Sl V w.heap.size (bh A c a) (sv ((l.drop a).take (b - a)))) := Lib.hid (fun V hV => by
    have h1 := sl_drop (hS.below hV) c a (by rw [sv_length]; omega) (by rw [sv_length]; omega)
    rw [sv_drop] at h1
    have h2 := h1.take (b - a)
    rwa [sv_take] at h2)
  have HSN : Hid ((sv ((l.drop a).take (b - a))).length = b - a) := Lib.hid (by rw [sv_length, List.length_take, List.length_drop]; omega)
  have HBN : Hid (bh A c a = none → c - a = 0) := Lib.hid (bh_nil hA)
  have E1 := fun V => sl_lh A n c a b (by omega) (by omega) V
  have HQX := Lib.hid hqx
  have HQY := Lib.hid hqy
  simp only [Nat.add_zero, List.append_nil] at hw3
  have HW3 := Lib.hid hw3
  clear hq hqx hqy ha hb hBR hb0 hs0 hw3 hS hn hA
  have hab : a < b := hlt
  clear hlt
  have hic : i ≥ b ∨ (i < b ∧ i > a) ∨ i ≤ a := by omega
  rcases hic with hc | ⟨hc, hc2⟩ | hc
  · have h1 : (i : Int) ≥ (b : Int) := by omega
    have HC : Hid (((delC i a b : Nat) : Int) = (i : Int) - ((b : Int) - (a : Int))) := Lib.hid (by unfold delC; split <;> omega)
    go_enter Tryz.func20, Tryz.ntmps20
    go_upto_region 1 with (fail)
    rw [← hW]
    clear hW
    go_wp2_with (fail)
    refine (HQX.out _).mono ?_
    rintro e w1 ⟨rfl, hb1⟩
    have HB1 := Lib.hid (HB0.out.trans (hb1.mono HB0.out.size))
    have H1 := Lib.hid (HBR.out.bel hb1)
    clear hb1
    clear a0 a1 a2 f0 f1 f2 b0 b1 b2 g0 g1 g2
    obtain ⟨⟨⟨a0, a1, a2⟩, ⟨f0, f1, f2⟩⟩, ⟨⟨b0, b1, b2⟩, ⟨g0, g1, g2⟩⟩⟩ := H1.out.all
    go_wp2_with (fail)
    refine (HQY.out _).mono ?_
    rintro e w2 ⟨rfl, hb2⟩
    have HLT : Hid (w.heap.size + 2 ≤ w2.heap.size) := Lib.hid (by have h6 := HB1.out.size; have h8 := hb2.size; have h9 := H1.out.hr.lt; omega)
    have HB2 := Lib.hid (HB1.out.trans (hb2.mono HB1.out.size))
    have hz2 : w.heap.size < w2.heap.size := by have := HLT.out; omega
    have H2 := Lib.hid (H1.out.bel hb2)
    clear hb2
    clear a0 a1 a2 f0 f1 f2 b0 b1 b2 g0 g1 g2
    obtain ⟨⟨⟨a0, a1, a2⟩, ⟨f0, f1, f2⟩⟩, ⟨⟨b0, b1, b2⟩, ⟨g0, g1, g2⟩⟩⟩ := H2.out.all
    have HN0 : Hid (OR (w2.alloc (.cells #[] 9)) w2.heap.size 9 (some ⟨w2.heap.size, 0, none⟩) 0 0 []) := Lib.hid ⟨by have := World.ownsRow_lit (base := w2.heap.size) (e := 9) (size := 1) w2 #[] 0 (Nat.le_refl _) (by simp only [maxLen]; omega) (by simp); simpa using this, fun e => by cases e⟩
    go_wp2_with (first
      | (at_builtin; refine wpList_app Tryz.underlying27 str_info rfl (by omega) _ rfl (.tmp 19) (.tmp 24) rfl w2.heap.size (some ⟨w2.heap.size, 0, none⟩) 0 0 [] rfl HN0.out (bh A c a) (b - a) (c - a) (sv ((l.drop a).take (b - a))) w.heap.size rfl (HSL.out _ (HB2.out.alloc HB2.out.size _)) HSN.out.symm HBN.out (sv_one _) (b - a) (by omega) (by omega) (by simp) ?_; intro A1 c1 w3 ho1 hg1 hat1
         have hb23 : Below w2.heap.size w2 w3 := ((Below.refl _ w2).alloc (Nat.le_refl _) _).grown hg1 (by simp) (fun k hk => by simp [blk] at hk; omega)
         have HO1 := Lib.hid ho1
         have HB3 := Lib.hid (HB2.out.trans (hb23.mono HB2.out.size))
         have H3 := Lib.hid (H2.out.bel hb23)
         clear hb23 ho1 hg1 hat1 HN0
         clear a0 a1 a2 f0 f1 f2 b0 b1 b2 g0 g1 g2
         obtain ⟨⟨⟨a0, a1, a2⟩, ⟨f0, f1, f2⟩⟩, ⟨⟨b0, b1, b2⟩, ⟨g0, g1, g2⟩⟩⟩ := H3.out.all)
      | (go_at_call 52; refine (HW3.out _ HB3.out).mono ?_; rintro e w4 ⟨A4, c4, rfl, ho4, hb4⟩
         have HL3 : Hid (w.heap.size + 2 ≤ w3.heap.size) := Lib.hid (by have h9 := H3.out.hr.lt; omega)
         have HO4 := Lib.hid (ho4.weaken HB3.out.size)
         have HN4 : Hid (∀ q, blk A4 = some q → w.heap.size + 2 ≤ q) := Lib.hid (fun q hq => by have h8 := (ho4.blk_lt q hq).1; have := HL3.out; omega)
         have HO14 := Lib.hid (OR.chg2 noB HO1.out (Chg.of_below hb4) (fun _ _ h => h))
         have H4 := Lib.hid (H3.out.bel hb4)
         have HB4 := Lib.hid (HB3.out.trans (hb4.mono HB3.out.size))
         clear hb4 ho4
         clear a0 a1 a2 f0 f1 f2 b0 b1 b2 g0 g1 g2
         obtain ⟨⟨⟨a0, a1, a2⟩, ⟨f0, f1, f2⟩⟩, ⟨⟨b0, b1, b2⟩, ⟨g0, g1, g2⟩⟩⟩ := H4.out.all))
    refine bodyPost_ret (hresults_ct (ad := w.heap.size + 1) (cs := [.slice A4 (a + (n - b)) c4, .int .i64 ((i : Int) - ((b : Int) - (a : Int))), .int .i64 most]) rfl rfl rfl (Blk.hwhole (t := 29) ?_) Tryz.underlying29 rfl (by kernel_rfl)) rfl ?_
    · exact (((((H4.out.sb 0 _).sb 1 _).sr 0 _).sr 1 _).sr 2 _).hr
    · refine ⟨A4, c4, A1, c1, by unfold rgp; rw [HC.out]; rfl, ?_, ?_, (((((HB4.out.setCell (p := ⟨w.heap.size, 0, none⟩) (by simp) _).setCell (p := ⟨w.heap.size, 1, none⟩) (by simp) _).setCell (p := ⟨w.heap.size + 1, 0, none⟩) (by simp) _).setCell (p := ⟨w.heap.size + 1, 1, none⟩) (by simp) _).setCell (p := ⟨w.heap.size + 1, 2, none⟩) (by simp) _)⟩
      · refine OR.chg2 (two w.heap.size (w.heap.size + 1)) HO4.out ((((((Chg.refl _ w4).setCell (p := ⟨w.heap.size, 0, none⟩) (.inl (.inl rfl)) _).setCell (p := ⟨w.heap.size, 1, none⟩) (.inl (.inl rfl)) _).setCell (p := ⟨w.heap.size + 1, 0, none⟩) (.inl (.inr rfl)) _).setCell (p := ⟨w.heap.size + 1, 1, none⟩) (.inl (.inr rfl)) _).setCell (p := ⟨w.heap.size + 1, 2, none⟩) (.inl (.inr rfl)) _) ?_
        intro q hq h2
        have h3 := HN4.out q hq
        rcases h2 with h2 | h2 <;> omega
      · refine OR.chg2 (two w.heap.size (w.heap.size + 1)) (HO14.out.weaken (by have := HLT.out; omega)) ((((((Chg.refl _ w4).setCell (p := ⟨w.heap.size, 0, none⟩) (.inl (.inl rfl)) _).setCell (p := ⟨w.heap.size, 1, none⟩) (.inl (.inl rfl)) _).setCell (p := ⟨w.heap.size + 1, 0, none⟩) (.inl (.inr rfl)) _).setCell (p := ⟨w.heap.size + 1, 1, none⟩) (.inl (.inr rfl)) _).setCell (p := ⟨w.heap.size + 1, 2, none⟩) (.inl (.inr rfl)) _) ?_
        intro q hq h2
        have h3 := (HO1.out.blk_lt q hq).1
        have h4 := HLT.out
        rcases h2 with h2 | h2 <;> omega
  · have h1 : ¬ ((i : Int) ≥ (b : Int)) := by omega
    have h2 : (i : Int) > (a : Int) := by omega
    have HC : Hid (((delC i a b : Nat) : Int) = (a : Int)) := Lib.hid (by unfold delC; split <;> omega)
    go_enter Tryz.func20, Tryz.ntmps20
    go_upto_region 1 with (fail)
    rw [← hW]
    clear hW
    go_wp2_with (fail)
    refine (HQX.out _).mono ?_
    rintro e w1 ⟨rfl, hb1⟩
    have HB1 := Lib.hid (HB0.out.trans (hb1.mono HB0.out.size))
    have H1 := Lib.hid (HBR.out.bel hb1)
    clear hb1
    clear a0 a1 a2 f0 f1 f2 b0 b1 b2 g0 g1 g2
    obtain ⟨⟨⟨a0, a1, a2⟩, ⟨f0, f1, f2⟩⟩, ⟨⟨b0, b1, b2⟩, ⟨g0, g1, g2⟩⟩⟩ := H1.out.all
    go_wp2_with (fail)
    refine (HQY.out _).mono ?_
    rintro e w2 ⟨rfl, hb2⟩
    have HLT : Hid (w.heap.size + 2 ≤ w2.heap.size) := Lib.hid (by have h6 := HB1.out.size; have h8 := hb2.size; have h9 := H1.out.hr.lt; omega)
    have HB2 := Lib.hid (HB1.out.trans (hb2.mono HB1.out.size))
    have hz2 : w.heap.size < w2.heap.size := by have := HLT.out; omega
    have H2 := Lib.hid (H1.out.bel hb2)
    clear hb2
    clear a0 a1 a2 f0 f1 f2 b0 b1 b2 g0 g1 g2
    obtain ⟨⟨⟨a0, a1, a2⟩, ⟨f0, f1, f2⟩⟩, ⟨⟨b0, b1, b2⟩, ⟨g0, g1, g2⟩⟩⟩ := H2.out.all
    have HN0 : Hid (OR (w2.alloc (.cells #[] 9)) w2.heap.size 9 (some ⟨w2.heap.size, 0, none⟩) 0 0 []) := Lib.hid ⟨by have := World.ownsRow_lit (base := w2.heap.size) (e := 9) (size := 1) w2 #[] 0 (Nat.le_refl _) (by simp only [maxLen]; omega) (by simp); simpa using this, fun e => by cases e⟩
    go_wp2_with (first
      | (at_builtin; refine wpList_app Tryz.underlying27 str_info rfl (by omega) _ rfl (.tmp 19) (.tmp 24) rfl w2.heap.size (some ⟨w2.heap.size, 0, none⟩) 0 0 [] rfl HN0.out (bh A c a) (b - a) (c - a) (sv ((l.drop a).take (b - a))) w.heap.size rfl (HSL.out _ (HB2.out.alloc HB2.out.size _)) HSN.out.symm HBN.out (sv_one _) (b - a) (by omega) (by omega) (by simp) ?_; intro A1 c1 w3 ho1 hg1 hat1
         have hb23 : Below w2.heap.size w2 w3 := ((Below.refl _ w2).alloc (Nat.le_refl _) _).grown hg1 (by simp) (fun k hk => by simp [blk] at hk; omega)
         have HO1 := Lib.hid ho1
         have HB3 := Lib.hid (HB2.out.trans (hb23.mono HB2.out.size))
         have H3 := Lib.hid (H2.out.bel hb23)
         clear hb23 ho1 hg1 hat1 HN0
         clear a0 a1 a2 f0 f1 f2 b0 b1 b2 g0 g1 g2
         obtain ⟨⟨⟨a0, a1, a2⟩, ⟨f0, f1, f2⟩⟩, ⟨⟨b0, b1, b2⟩, ⟨g0, g1, g2⟩⟩⟩ := H3.out.all)
      | (go_at_call 52; refine (HW3.out _ HB3.out).mono ?_; rintro e w4 ⟨A4, c4, rfl, ho4, hb4⟩
         have HL3 : Hid (w.heap.size + 2 ≤ w3.heap.size) := Lib.hid (by have h9 := H3.out.hr.lt; omega)
         have HO4 := Lib.hid (ho4.weaken HB3.out.size)
         have HN4 : Hid (∀ q, blk A4 = some q → w.heap.size + 2 ≤ q) := Lib.hid (fun q hq => by have h8 := (ho4.blk_lt q hq).1; have := HL3.out; omega)
         have HO14 := Lib.hid (OR.chg2 noB HO1.out (Chg.of_below hb4) (fun _ _ h => h))
         have H4 := Lib.hid (H3.out.bel hb4)
         have HB4 := Lib.hid (HB3.out.trans (hb4.mono HB3.out.size))
         clear hb4 ho4
         clear a0 a1 a2 f0 f1 f2 b0 b1 b2 g0 g1 g2
         obtain ⟨⟨⟨a0, a1, a2⟩, ⟨f0, f1, f2⟩⟩, ⟨⟨b0, b1, b2⟩, ⟨g0, g1, g2⟩⟩⟩ := H4.out.all))
    refine bodyPost_ret (hresults_ct (ad := w.heap.size + 1) (cs := [.slice A4 (a + (n - b)) c4, .int .i64 ((a : Int)), .int .i64 most]) rfl rfl rfl (Blk.hwhole (t := 29) ?_) Tryz.underlying29 rfl (by kernel_rfl)) rfl ?_
    · exact (((((H4.out.sb 0 _).sb 1 _).sr 0 _).sr 1 _).sr 2 _).hr
    · refine ⟨A4, c4, A1, c1, by unfold rgp; rw [HC.out]; rfl, ?_, ?_, (((((HB4.out.setCell (p := ⟨w.heap.size, 0, none⟩) (by simp) _).setCell (p := ⟨w.heap.size, 1, none⟩) (by simp) _).setCell (p := ⟨w.heap.size + 1, 0, none⟩) (by simp) _).setCell (p := ⟨w.heap.size + 1, 1, none⟩) (by simp) _).setCell (p := ⟨w.heap.size + 1, 2, none⟩) (by simp) _)⟩
      · refine OR.chg2 (two w.heap.size (w.heap.size + 1)) HO4.out ((((((Chg.refl _ w4).setCell (p := ⟨w.heap.size, 0, none⟩) (.inl (.inl rfl)) _).setCell (p := ⟨w.heap.size, 1, none⟩) (.inl (.inl rfl)) _).setCell (p := ⟨w.heap.size + 1, 0, none⟩) (.inl (.inr rfl)) _).setCell (p := ⟨w.heap.size + 1, 1, none⟩) (.inl (.inr rfl)) _).setCell (p := ⟨w.heap.size + 1, 2, none⟩) (.inl (.inr rfl)) _) ?_
        intro q hq h2
        have h3 := HN4.out q hq
        rcases h2 with h2 | h2 <;> omega
      · refine OR.chg2 (two w.heap.size (w.heap.size + 1)) (HO14.out.weaken (by have := HLT.out; omega)) ((((((Chg.refl _ w4).setCell (p := ⟨w.heap.size, 0, none⟩) (.inl (.inl rfl)) _).setCell (p := ⟨w.heap.size, 1, none⟩) (.inl (.inl rfl)) _).setCell (p := ⟨w.heap.size + 1, 0, none⟩) (.inl (.inr rfl)) _).setCell (p := ⟨w.heap.size + 1, 1, none⟩) (.inl (.inr rfl)) _).setCell (p := ⟨w.heap.size + 1, 2, none⟩) (.inl (.inr rfl)) _) ?_
        intro q hq h2
        have h3 := (HO1.out.blk_lt q hq).1
        have h4 := HLT.out
        rcases h2 with h2 | h2 <;> omega
  · have h1 : ¬ ((i : Int) ≥ (b : Int)) := by omega
    have h2 : ¬ ((i : Int) > (a : Int)) := by omega
    have HC : Hid (((delC i a b : Nat) : Int) = (i : Int)) := Lib.hid (by unfold delC; split <;> omega)
    go_enter Tryz.func20, Tryz.ntmps20
    go_upto_region 1 with (fail)
    rw [← hW]
    clear hW
    go_wp2_with (fail)
    refine (HQX.out _).mono ?_
    rintro e w1 ⟨rfl, hb1⟩
    have HB1 := Lib.hid (HB0.out.trans (hb1.mono HB0.out.size))
    have H1 := Lib.hid (HBR.out.bel hb1)
    clear hb1
    clear a0 a1 a2 f0 f1 f2 b0 b1 b2 g0 g1 g2
    obtain ⟨⟨⟨a0, a1, a2⟩, ⟨f0, f1, f2⟩⟩, ⟨⟨b0, b1, b2⟩, ⟨g0, g1, g2⟩⟩⟩ := H1.out.all
    go_wp2_with (fail)
    refine (HQY.out _).mono ?_
    rintro e w2 ⟨rfl, hb2⟩
    have HLT : Hid (w.heap.size + 2 ≤ w2.heap.size) := Lib.hid (by have h6 := HB1.out.size; have h8 := hb2.size; have h9 := H1.out.hr.lt; omega)
    have HB2 := Lib.hid (HB1.out.trans (hb2.mono HB1.out.size))
    have hz2 : w.heap.size < w2.heap.size := by have := HLT.out; omega
    have H2 := Lib.hid (H1.out.bel hb2)
    clear hb2
    clear a0 a1 a2 f0 f1 f2 b0 b1 b2 g0 g1 g2
    obtain ⟨⟨⟨a0, a1, a2⟩, ⟨f0, f1, f2⟩⟩, ⟨⟨b0, b1, b2⟩, ⟨g0, g1, g2⟩⟩⟩ := H2.out.all
    have HN0 : Hid (OR (w2.alloc (.cells #[] 9)) w2.heap.size 9 (some ⟨w2.heap.size, 0, none⟩) 0 0 []) := Lib.hid ⟨by have := World.ownsRow_lit (base := w2.heap.size) (e := 9) (size := 1) w2 #[] 0 (Nat.le_refl _) (by simp only [maxLen]; omega) (by simp); simpa using this, fun e => by cases e⟩
    go_wp2_with (first
      | (at_builtin; refine wpList_app Tryz.underlying27 str_info rfl (by omega) _ rfl (.tmp 19) (.tmp 24) rfl w2.heap.size (some ⟨w2.heap.size, 0, none⟩) 0 0 [] rfl HN0.out (bh A c a) (b - a) (c - a) (sv ((l.drop a).take (b - a))) w.heap.size rfl (HSL.out _ (HB2.out.alloc HB2.out.size _)) HSN.out.symm HBN.out (sv_one _) (b - a) (by omega) (by omega) (by simp) ?_; intro A1 c1 w3 ho1 hg1 hat1
         have hb23 : Below w2.heap.size w2 w3 := ((Below.refl _ w2).alloc (Nat.le_refl _) _).grown hg1 (by simp) (fun k hk => by simp [blk] at hk; omega)
         have HO1 := Lib.hid ho1
         have HB3 := Lib.hid (HB2.out.trans (hb23.mono HB2.out.size))
         have H3 := Lib.hid (H2.out.bel hb23)
         clear hb23 ho1 hg1 hat1 HN0
         clear a0 a1 a2 f0 f1 f2 b0 b1 b2 g0 g1 g2
         obtain ⟨⟨⟨a0, a1, a2⟩, ⟨f0, f1, f2⟩⟩, ⟨⟨b0, b1, b2⟩, ⟨g0, g1, g2⟩⟩⟩ := H3.out.all)
      | (go_at_call 52; refine (HW3.out _ HB3.out).mono ?_; rintro e w4 ⟨A4, c4, rfl, ho4, hb4⟩
         have HL3 : Hid (w.heap.size + 2 ≤ w3.heap.size) := Lib.hid (by have h9 := H3.out.hr.lt; omega)
         have HO4 := Lib.hid (ho4.weaken HB3.out.size)
         have HN4 : Hid (∀ q, blk A4 = some q → w.heap.size + 2 ≤ q) := Lib.hid (fun q hq => by have h8 := (ho4.blk_lt q hq).1; have := HL3.out; omega)
         have HO14 := Lib.hid (OR.chg2 noB HO1.out (Chg.of_below hb4) (fun _ _ h => h))
         have H4 := Lib.hid (H3.out.bel hb4)
         have HB4 := Lib.hid (HB3.out.trans (hb4.mono HB3.out.size))
         clear hb4 ho4
         clear a0 a1 a2 f0 f1 f2 b0 b1 b2 g0 g1 g2
         obtain ⟨⟨⟨a0, a1, a2⟩, ⟨f0, f1, f2⟩⟩, ⟨⟨b0, b1, b2⟩, ⟨g0, g1, g2⟩⟩⟩ := H4.out.all))
    refine bodyPost_ret (hresults_ct (ad := w.heap.size + 1) (cs := [.slice A4 (a + (n - b)) c4, .int .i64 ((i : Int)), .int .i64 most]) rfl rfl rfl (Blk.hwhole (t := 29) ?_) Tryz.underlying29 rfl (by kernel_rfl)) rfl ?_
    · exact ((((H4.out.sb 0 _).sr 0 _).sr 1 _).sr 2 _).hr
    · refine ⟨A4, c4, A1, c1, by unfold rgp; rw [HC.out]; rfl, ?_, ?_, ((((HB4.out.setCell (p := ⟨w.heap.size, 0, none⟩) (by simp) _).setCell (p := ⟨w.heap.size + 1, 0, none⟩) (by simp) _).setCell (p := ⟨w.heap.size + 1, 1, none⟩) (by simp) _).setCell (p := ⟨w.heap.size + 1, 2, none⟩) (by simp) _)⟩
      · refine OR.chg2 (two w.heap.size (w.heap.size + 1)) HO4.out (((((Chg.refl _ w4).setCell (p := ⟨w.heap.size, 0, none⟩) (.inl (.inl rfl)) _).setCell (p := ⟨w.heap.size + 1, 0, none⟩) (.inl (.inr rfl)) _).setCell (p := ⟨w.heap.size + 1, 1, none⟩) (.inl (.inr rfl)) _).setCell (p := ⟨w.heap.size + 1, 2, none⟩) (.inl (.inr rfl)) _) ?_
        intro q hq h2
        have h3 := HN4.out q hq
        rcases h2 with h2 | h2 <;> omega
      · refine OR.chg2 (two w.heap.size (w.heap.size + 1)) (HO14.out.weaken (by have := HLT.out; omega)) (((((Chg.refl _ w4).setCell (p := ⟨w.heap.size, 0, none⟩) (.inl (.inl rfl)) _).setCell (p := ⟨w.heap.size + 1, 0, none⟩) (.inl (.inr rfl)) _).setCell (p := ⟨w.heap.size + 1, 1, none⟩) (.inl (.inr rfl)) _).setCell (p := ⟨w.heap.size + 1, 2, none⟩) (.inl (.inr rfl)) _) ?_
        intro q hq h2
        have h3 := (HO1.out.blk_lt q hq).1
        have h4 := HLT.out
        rcases h2 with h2 | h2 <;> omega
end Go.Proofs.YtjdfajgjejpfeaaGreatDoor

