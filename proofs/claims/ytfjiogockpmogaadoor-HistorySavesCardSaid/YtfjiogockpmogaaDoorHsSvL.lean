/-
  Walk: Load of the program.
-/
import Derived.Test.YtfjiogockpmogaaDoorHsSvA
import Derived.Test.YtfjiogockpmogaaDoorHsNew
import Derived.Test.YtfjiogockpmogaaDoorHsFns
import Derived.Deep.MidRow
namespace Go.Proofs.YtfjiogockpmogaaDoor
open Go.RowKit Go.Shelf Go.Sort
set_option linter.unusedVariables false
set_option linter.unusedSimpArgs false
set_option maxRecDepth 100000

/-- what Load answers -/
def ldC (most : Int) (s : List UInt8) : Int := if ¬ (1 ≤ most ∧ most ≤ 256) then 140 else if okS s = false then 7 else if ¬ (lnsOf s).Nodup then 1 else if most < (lnsOf s).length then 3 else 0
/-- What Load comes to. -/
def LoadP (w : World) (most : Int) (s : List UInt8) (e : Ending) (w' : World) : Prop :=
  (ldC most s ≠ 0 ∧ e = .returned (.tuple #[.pointer none, .int .i64 (ldC most s)]) ∧ Below w.heap.size w w') ∨
  (ldC most s = 0 ∧ (∃ h A c, e = .returned (.tuple #[.pointer (some ⟨h, 0, none⟩), .int .i64 0]) ∧ HsAt w' w.heap.size h A c most.toNat (lnsOf s).reverse none) ∧ Below w.heap.size w w')
theorem own_blkH {w : World} {base n size : Nat} {e : TypeId} {v : Value} {xs : List Value} (h : w.ownsRow base e size v n xs) (hn : 0 < n) :
    ∃ g cap cur, v = .slice (some ⟨g, 0, none⟩) n cap ∧ base ≤ g ∧ Blk w g e cur ∧ cur.take (n * size) = xs ∧ n * size ≤ cur.length := by
  rcases h with ⟨hl, ⟨hv, h0⟩ | ⟨g, cap, cur, hv, hb, hh, hnc, hc, hcur, ht⟩⟩
  · omega
  · refine ⟨g, cap, cur.toList, hv, hb, by unfold Blk; rw [Array.toArray_toList]; exact hh, ht, ?_⟩
    rw [Array.length_toList, hcur]
    exact Nat.mul_le_mul_right _ hnc
theorem strsOf_eq (L : List (List UInt8)) : Lib.strsOf (fun i => ⟨(L.getD i []).toArray⟩) L.length = L := by
  unfold Lib.strsOf
  apply List.ext_getElem?
  intro k
  rw [List.getElem?_map]
  rcases Nat.lt_or_ge k L.length with h | h
  · rw [List.getElem?_range h, List.getElem?_eq_getElem h]
    simp [List.getD_eq_getElem?_getD, h]
  · rw [List.getElem?_eq_none (by simpa using h), List.getElem?_eq_none h]
    rfl
theorem encStr_sv (L : List (List UInt8)) : L.map encStr = sv L := rfl
theorem chg_setCells {S : Nat → Prop} {w0 : World} {g : Nat} (hS : S g) : ∀ (vs : List Value) (o : Nat) (w : World), Chg S w0 w → Chg S w0 (w.setCells g o vs)
  | [], _, _, h => h
  | v :: r, o, w, h => chg_setCells hS r (o + 1) _ (h.setCell (p := ⟨g, o, none⟩) (.inl hS) v)
theorem hrev_any {w : World} {base n c : Nat} {A : Option Addr} {L : List (List UInt8)} (ho : OR w base 9 A n c (sv L)) (hn : n = L.length) (h1 : n ≤ 1000000) :
    Calls Tryd.prog 41 #[.slice A n c] w fun e w' => e = .returned (.tuple #[]) ∧ Sl w' w'.heap.size A (sv L.reverse) ∧ Chg (fun k => blk A = some k) w w' := by
  subst hn
  rcases Nat.eq_zero_or_pos L.length with h0 | h0
  · obtain rfl : L = [] := List.eq_nil_of_length_eq_zero h0
    exact (sh_slices_Reverse_string_empty A c w).mono (by rintro e w' ⟨rfl, rfl⟩; exact ⟨rfl, .inl rfl, Chg.refl _ _⟩)
  · obtain ⟨g, cap, cur, hv, hb, hk, ht, hle⟩ := own_blkH ho.1 h0
    injection hv with hA _ hC
    subst hA
    subst hC
    simp only [Nat.mul_one] at ht hle
    have hcell : ∀ i, i < L.length → w.cell? ⟨g, 0 + i, none⟩ = some (.string ⟨(L.getD i []).toArray⟩) := fun i hi => by
      have h2 := hk.cell i
      rw [Nat.zero_add, h2]
      have h3 : (sv L)[i]? = some (.string ⟨(L.getD i []).toArray⟩) := by simp [sv, List.getD_eq_getElem?_getD, hi]
      rw [← ht, List.getElem?_take, if_pos hi] at h3
      exact h3
    have hfr : ∀ j, j < L.length → w.frozen? ⟨g, 0 + j, none⟩ = false := fun j _ => hk.frozen (0 + j)
    refine (sh_slices_Reverse_string_cells g 0 L.length c (fun i => ⟨(L.getD i []).toArray⟩) w (by omega) hcell hfr).mono ?_
    rintro e w' ⟨rfl, q, rfl⟩
    rw [strsOf_eq, encStr_sv]
    have hth : (w.drewN q).there g 0 (sv L.reverse).length := fun j hj => by
      rw [sv_length, List.length_reverse] at hj
      have h2 : (w.drewN q).cell? ⟨g, 0 + j, none⟩ = w.cell? ⟨g, 0 + j, none⟩ := rfl
      have h3 : (w.drewN q).frozen? ⟨g, 0 + j, none⟩ = w.frozen? ⟨g, 0 + j, none⟩ := rfl
      rw [h2, h3, hcell j hj, hfr j hj]
      exact ⟨rfl, rfl⟩
    have hra := World.rangeAt_setCells_same (w.drewN q) g 0 (sv L.reverse) hth
    have hch : Chg (fun k => blk (some (⟨g, 0, none⟩ : Addr)) = some k) w ((w.drewN q).setCells g 0 (sv L.reverse)) := chg_setCells (S := fun k => blk (some (⟨g, 0, none⟩ : Addr)) = some k) rfl _ _ _ ((Chg.refl _ w).drewN q)
    exact ⟨rfl, .inr ⟨g, 0, rfl, Nat.lt_of_lt_of_le hk.lt hch.size, hra⟩, hch⟩
set_option maxHeartbeats 4000000 in
theorem hload_any (most : Int) (s : List UInt8) (hs : s.length ≤ 1000000) (hx : ∀ x ∈ pcs s, x.length ≤ 1000) (w : World) (hT : Tabs w) :
    Calls Tryd.prog 19 #[.int .i64 most, .string ⟨s.toArray⟩] w (LoadP w most s) := by
  by_cases hm : 1 ≤ most ∧ most ≤ 256
  · obtain ⟨m, rfl⟩ := Int.eq_ofNat_of_zero_le (show 0 ≤ most by omega)
    have H1 := Lib.hid (hnew_ok m (by omega) (by omega) w)
    have HRD : Hid (∀ V, Below w.heap.size w V → Calls Tryd.prog 40 #[.string ⟨s.toArray⟩] V (ReadP V s)) := Lib.hid (fun V hV => hread_any s hs hx V (hT.below hV))
    have hcnt := lns_count s
    have HOKL : Hid (okS s = true → ∀ l ∈ (lnsOf s).reverse, l ≠ [] ∧ l.length ≤ 3000) := Lib.hid (fun h l hl => by
      have hl' := List.mem_reverse.1 hl
      have h1 := h
      unfold okS at h1
      simp only [Bool.and_eq_true, beq_iff_eq] at h1
      have h2 := List.all_eq_true.1 h1.2 l hl'
      unfold okL at h2
      simp only [Bool.and_eq_true] at h2
      have h3 : l ++ [10] ∈ pcs s := by
        unfold pcs
        exact List.mem_append_left _ (List.mem_map.2 ⟨l, hl', rfl⟩)
      have h4 := hx _ h3
      rw [List.length_append, List.length_singleton] at h4
      exact ⟨by simpa using h2.1, by omega⟩)
    clear hT hx
    go_enter Tryd.func19, Tryd.ntmps19
    go_wp2_with (fail)
    refine H1.out.mono ?_
    rintro e w1 ⟨h0, rfl, _, hb1⟩
    have HB1 := Lib.hid hb1
    clear hb1
    go_wp2_with (fail)
    refine (HRD.out _ HB1.out).mono ?_
    rintro e w2 (⟨hok, rfl, hb2⟩ | ⟨hok, hnd, rfl, hb2⟩ | ⟨hok, hnd, ⟨A, c, rfl, ho, hnil⟩, hb2⟩)
    · have HLD : Hid (ldC m s = 7) := Lib.hid (by unfold ldC; rw [if_neg (by omega), if_pos hok])
      have HB2 := Lib.hid (HB1.out.trans (hb2.mono HB1.out.size))
      clear hok hb2
      go_wp2_with (fail)
      go_ret2
      exact .inl ⟨by rw [HLD.out]; decide, by rw [HLD.out]; rfl, HB2.out⟩
    · have HLD : Hid (ldC m s = 1) := Lib.hid (by unfold ldC; rw [if_neg (by omega), if_neg (by simp [hok]), if_pos hnd])
      have HB2 := Lib.hid (HB1.out.trans (hb2.mono HB1.out.size))
      clear hok hnd hb2
      go_wp2_with (fail)
      go_ret2
      exact .inl ⟨by rw [HLD.out]; decide, by rw [HLD.out]; rfl, HB2.out⟩
    · by_cases hlt : (m : Int) < (lnsOf s).length
      · have HLD : Hid (ldC m s = 3) := Lib.hid (by unfold ldC; rw [if_neg (by omega), if_neg (by simp [hok]), if_neg (by simpa using hnd), if_pos hlt])
        have HB2 := Lib.hid (HB1.out.trans (hb2.mono HB1.out.size))
        clear hok hnd hb2 ho hnil
        go_wp2_with (fail)
        go_ret2
        exact .inl ⟨by rw [HLD.out]; decide, by rw [HLD.out]; rfl, HB2.out⟩
      · have HLD : Hid (ldC m s = 0) := Lib.hid (by unfold ldC; rw [if_neg (by omega), if_neg (by simp [hok]), if_neg (by simpa using hnd), if_neg hlt])
        have HOK := Lib.hid (HOKL.out hok)
        have HREV := Lib.hid (hrev_any ho rfl (by omega))
        have HO := Lib.hid ho
        have HNIL := Lib.hid hnil
        have HB2 := Lib.hid (HB1.out.trans (hb2.mono HB1.out.size))
        have HW : Hid (∀ V, Calls Tryd.prog 22 #[.int .i64 m, .slice A (lnsOf s).length c, .agg #[.string ⟨#[]⟩, .nilFunc, .int .i64 0]] V fun e w' => ∃ h, e = .returned (.pointer (some ⟨h, 0, none⟩)) ∧
            Blk w' h 71 (.pointer (some ⟨h, 0, none⟩) :: .int .i64 m :: .slice A (lnsOf s).reverse.length c :: wkC none) ∧ V.heap.size ≤ h ∧ Below V.heap.size V w') := Lib.hid (fun V => by
          have h1 := hwith_any m (lnsOf s).reverse A c none V
          rw [List.length_reverse] at h1 ⊢
          exact h1)
        clear hok hnd hb2 ho hnil
        go_wp2_with (fail)
        refine HREV.out.mono ?_
        rintro e w3 ⟨rfl, hsl, hch⟩
        have HSL := Lib.hid hsl
        have HCH := Lib.hid hch
        clear hsl hch
        go_wp2_with (fail)
        refine (HW.out _).mono ?_
        rintro e w4 ⟨h, rfl, hbk, hlo, hb4⟩
        have HBK := Lib.hid hbk
        have HLO := Lib.hid hlo
        have HB4 := Lib.hid hb4
        clear hbk hlo hb4
        go_wp2_with (fail)
        go_ret2
        have hblk : ∀ g, blk A = some g → w1.heap.size ≤ g ∧ g < w2.heap.size := fun g hg => HO.out.blk_lt g hg
        have hcap := HO.out.capH
        have hz1 := HB1.out.size
        have hz2 := HB2.out.size
        have hz3 := HCH.out.size
        refine .inr ⟨HLD.out, ⟨h, A, c, rfl, HBK.out, ?_, fun g hg => ?_, ⟨by rw [List.length_reverse]; exact hcap.1, hcap.2, HO.out.2⟩, (fun k hk => by cases hk), ?_, ?_, ?_, ?_, HOK.out, fun e => (HNIL.out (by simpa using e)).1⟩, ?_⟩
        · exact (HSL.out.below HB4.out).more HB4.out.size
        · have h1 := hblk g hg
          have h2 := HLO.out
          have h3 := HB4.out.size
          exact ⟨by omega, by omega, by omega⟩
        · rw [List.length_reverse]; simp only [Int.toNat_natCast]; omega
        · simp only [Int.toNat_natCast]; omega
        · simp only [Int.toNat_natCast]; omega
        · have h2 := HLO.out; omega
        · exact (HB2.out.trans (HCH.out.below HB2.out.size (fun k hk => by have := (hblk k hk).1; omega))).trans (HB4.out.mono (by omega))
  · have HLD : Hid (ldC most s = 140) := Lib.hid (by unfold ldC; rw [if_pos hm])
    have H1 := Lib.hid (hnew_no most hm w)
    clear hm hT hx
    go_enter Tryd.func19, Tryd.ntmps19
    go_wp2_with (fail)
    refine H1.out.mono ?_
    rintro e w1 ⟨rfl, rfl⟩
    go_wp2_with (fail)
    go_ret2
    exact .inl ⟨by rw [HLD.out]; decide, by rw [HLD.out]; rfl, Below.refl _ _⟩
end Go.Proofs.YtfjiogockpmogaaDoor
