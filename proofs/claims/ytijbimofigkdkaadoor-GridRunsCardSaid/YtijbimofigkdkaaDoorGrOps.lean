/-
  Walks: Join, Erase.
-/
import Derived.Test.YtijbimofigkdkaaDoorGrPut
namespace Go.Proofs.YtijbimofigkdkaaDoor
open Go.RowKit
set_option linter.unusedVariables false
set_option linter.unusedSimpArgs false

theorem rc_set {l : List Cl} {k j : Nat} {c d : Cl} {v : Value} (h : l[k]? = some c) (hj : j < 7) (hd : d.cells = c.cells.set j v) : (rc l).set (k * 7 + j) v = rc (l.set k d) := by
  induction l generalizing k with
  | nil => simp at h
  | cons x l ih =>
    cases k with
    | zero =>
      simp at h
      subst h
      rw [List.set_cons_zero, rc_cons, rc_cons, hd, show 0 * 7 + j = j by omega, List.set_append_left _ _ (by rw [Cl.len]; exact hj)]
    | succ k =>
      rw [List.set_cons_succ, rc_cons, rc_cons, List.set_append_right _ _ (by rw [Cl.len]; omega), Cl.len, show (k + 1) * 7 + j - 7 = k * 7 + j by omega, ih (by simpa using h)]
theorem rc_set_s {l : List Cl} {k : Nat} {c : Cl} (h : l[k]? = some c) (s : List UInt8) : (rc l).set (k * 7) (.string ⟨s.toArray⟩) = rc (l.set k { c with s := s }) :=
  rc_set (j := 0) h (by omega) rfl

/-- The text of a cell that is no tail grows. -/
theorem Wf.text {l : List Cl} (hl : Wf l) {k : Nat} {c : Cl} (hc : l[k]? = some c) (hw : c.w ≠ 0) {s : List UInt8} (hs : s ≠ []) (h64 : s.length ≤ 64) : Wf (l.set k { c with s := s }) := by
  have hk : k < l.length := (List.getElem?_eq_some_iff.1 hc).1
  have hg : ∀ i : Nat, (l.set k { c with s := s })[i]? = if i = k then some { c with s := s } else l[i]? := fun i => by
    by_cases h : i = k
    · subst h; simp [hk]
    · rw [if_neg h, List.getElem?_set_ne (by omega)]
  refine ⟨?_, ?_, ?_, ?_, ?_⟩
  · intro i d hd
    rw [hg] at hd
    split at hd
    · next h => cases hd; exact hl.w k c hc
    · exact hl.w i d hd
  · intro i d hd h2
    rw [hg] at hd
    split at hd
    · next h =>
      cases hd
      subst h
      have := hl.wide i c hc h2
      rw [hg, if_neg (by omega)]
      exact this
    · have := hl.wide i d hd h2
      rw [hg, if_neg]
      · exact this
      · intro h; subst h; rw [this] at hc; cases hc; exact hw rfl
  · intro i d hd h0
    rw [hg] at hd
    split at hd
    · cases hd; exact absurd h0 hw
    · obtain ⟨j, e, hj, he, hew⟩ := hl.tail i d hd h0
      by_cases hjk : j = k
      · subst hjk
        rw [he] at hc
        cases hc
        exact ⟨j, { c with s := s }, hj, by rw [hg, if_pos rfl], hew⟩
      · exact ⟨j, e, hj, by rw [hg, if_neg hjk]; exact he, hew⟩
  · intro i d hd h0
    rw [hg] at hd
    split at hd
    · cases hd; exact hs
    · exact hl.full i d hd h0
  · intro i d hd
    rw [hg] at hd
    split at hd
    · cases hd; exact h64
    · exact hl.short i d hd

/-- where a text is joined to what stands at a position -/
def joinK (l : List Cl) (col : Nat) : Nat := match l[col]? with | none => col | some c => if c.w = 0 then col - 1 else col
def joinR (l : List Cl) (col : Nat) (s : List UInt8) : List Cl × Bool :=
  match l[joinK l col]? with
  | none => (l, false)
  | some c => if 64 < c.s.length + s.length then (l, false) else (l.set (joinK l col) { c with s := c.s ++ s }, true)
/-- what Join comes to -/
def joinM (W : Nat) (L : List (List Cl)) (row col : Int) (s : List UInt8) : List (List Cl) × Bool × Int :=
  if inB row col W L.length = false then (L, false, 5)
  else (L.set row.toNat (joinR (L.getD row.toNat []) col.toNat s).1, (joinR (L.getD row.toNat []) col.toNat s).2, 0)
theorem joinR_length (l : List Cl) (col : Nat) (s : List UInt8) : (joinR l col s).1.length = l.length := by
  unfold joinR
  split
  · rfl
  · split <;> simp
theorem joinK_get {l : List Cl} (hl : Wf l) {col : Nat} (hc : col < l.length) : ∃ c, l[joinK l col]? = some c ∧ c.w ≠ 0 := by
  have h : l[col]? = some l[col] := List.getElem?_eq_getElem hc
  unfold joinK
  rw [h]
  simp only
  split
  · next h0 =>
    obtain ⟨j, d, hj, hd, hdw⟩ := hl.tail col _ h h0
    rw [hj, show j + 1 - 1 = j by omega]
    exact ⟨d, hd, by omega⟩
  · next h0 => exact ⟨_, h, h0⟩
theorem Wf.join {l : List Cl} (hl : Wf l) (col : Nat) (s : List UInt8) : Wf (joinR l col s).1 := by
  unfold joinR
  split
  · exact hl
  · next c hc =>
    split
    · exact hl
    · next h64 =>
      by_cases hcol : col < l.length
      · obtain ⟨d, hd, hdw⟩ := joinK_get hl hcol
        rw [hc] at hd
        injection hd with hd
        subst hd
        refine hl.text hc hdw ?_ (by rw [List.length_append]; omega)
        have := hl.full _ _ hc hdw
        intro e
        exact this (List.append_eq_nil_iff.1 e).1
      · exfalso
        have : l[col]? = none := List.getElem?_eq_none (by omega)
        unfold joinK at hc
        rw [this] at hc
        simp only at hc
        rw [this] at hc
        cases hc

set_option maxRecDepth 100000 in
set_option maxHeartbeats 4000000 in
theorem join_ok {w : World} {lo g rb W : Nat} {bs : List Nat} {L : List (List Cl)} (h : GrAt w lo g rb bs W L) (row col : Nat) (s : List UInt8) (l : List Cl) (hl : L[row]? = some l) (hc : col < W) (hs : s.length ≤ 1000000) :
    Calls Tryd.prog 24 #[.pointer (some ⟨g, 0, none⟩), .int .i64 row, .int .i64 col, .string ⟨s.toArray⟩] w fun e w' => e = .returned (.tuple #[.bool (joinR l col s).2, .int .i64 0]) ∧
      GrAt w' lo g rb bs W (L.set row (joinR l col s).1) ∧ Chg (GrOwn g rb bs) w w' := by
  have hr : row < L.length := (List.getElem?_eq_some_iff.1 hl).1
  obtain ⟨hlen, hwf⟩ := h.some_at hl
  have hw5 := h.w5
  have hh5 := h.h5
  have HIN := Lib.hid (show inB row col W L.length = true by unfold inB; simp; omega)
  have hsz : (⟨s.toArray⟩ : ByteArray).size = s.length := by show s.toArray.size = _; simp
  have HSZ := Lib.hid hsz
  have hri : (row : Int) < L.length := by omega
  have hci : (col : Int) < W := by omega
  have hcb : (col : Int) < 500 := by omega
  obtain ⟨c, hkc, hcw⟩ := joinK_get hwf (col := col) (by omega)
  have hJ : joinR l col s = if 64 < c.s.length + s.length then (l, false) else (l.set (joinK l col) { c with s := c.s ++ s }, true) := by unfold joinR; rw [hkc]
  have hcol : l[col]? = some (l[col]'(by omega)) := List.getElem?_eq_getElem (by omega)
  have hK : joinK l col = if (l[col]'(by omega)).w = 0 then col - 1 else col := by unfold joinK; rw [hcol]
  have htail := fun h0 => hwf.tail col _ hcol h0
  generalize l[col]'(by omega) = d at hcol hK htail
  have hc64 := hwf.short _ _ hkc
  have hszc : (⟨c.s.toArray⟩ : ByteArray).size = c.s.length := by show c.s.toArray.size = _; simp
  have HSZC := Lib.hid hszc
  have hwj := hwf.join col s
  have hlj : (joinR l col s).1.length = W := by rw [joinR_length]; exact hlen
  obtain ⟨kk, hkk⟩ : ∃ kk, joinK l col = kk := ⟨_, rfl⟩
  rw [hkk] at hJ hK hkc
  have hkl : kk < W := by have := (List.getElem?_eq_some_iff.1 hkc).1; omega
  have hcase : (d.w = 0 ∧ col = kk + 1) ∨ (d.w ≠ 0 ∧ col = kk) := by
    by_cases h0 : d.w = 0
    · obtain ⟨j, e, hj, _, _⟩ := htail h0
      rw [if_pos h0] at hK
      exact .inl ⟨h0, by omega⟩
    · rw [if_neg h0] at hK
      exact .inr ⟨h0, by omega⟩
  obtain ⟨R1, hR1⟩ : ∃ R1, (joinR l col s).1 = R1 := ⟨_, rfl⟩
  obtain ⟨R2, hR2⟩ : ∃ R2, (joinR l col s).2 = R2 := ⟨_, rfl⟩
  rw [hR1] at hwj hlj ⊢
  rw [hR2]
  have HWJ := Lib.hid hwj
  have HLJ := Lib.hid hlj
  have H := Lib.hid h
  have HL := Lib.hid hl
  have HC := Lib.hid hcol
  have HKC := Lib.hid hkc
  clear h hl hlen hwf hsz hszc hcol hwj hlj hcw htail hK hkk hkc
  -- to the row's cells
  have pre : ∀ w1, Below w.heap.size w w1 → ∃ b, bs[row]? = some b ∧ w1.cell? ⟨rb, row, none⟩ = some (.slice (some ⟨b, 0, none⟩) W W) ∧ w1.cell? ⟨g, 1, none⟩ = some (.slice (some ⟨rb, 0, none⟩) L.length L.length) ∧ Blk w1 b 51 (rc l) := fun w1 hb1 => by
    have H1 := H.out.below hb1
    obtain ⟨b, l', hbi, hl', hrv, _, _, hb⟩ := H1.at_ hr
    obtain rfl : l' = l := by have := HL.out; rw [this] at hl'; injection hl' with hl'; exact hl'.symm
    exact ⟨b, hbi, hrv, H1.rws, hb⟩
  have fin : ∀ w1 w2 b, Below w.heap.size w w1 → bs[row]? = some b → Chg (one b) w1 w2 → Blk w2 b 51 (rc R1) → GrAt w2 lo g rb bs W (L.set row R1) ∧ Chg (GrOwn g rb bs) w w2 := fun w1 w2 b hb1 hbi hch hb => by
    refine ⟨(H.out.below hb1).set hbi hch HLJ.out HWJ.out hb, (Chg.of_below (S := GrOwn g rb bs) hb1).trans hch (fun j e => .inl (by have e' : j = b := e; subst e'; exact .inr (.inr (List.mem_of_getElem? hbi))))⟩
  have PRE := Lib.hid pre
  have FIN := Lib.hid fin
  clear pre fin
  by_cases h64 : 64 < c.s.length + s.length
  · rw [if_pos h64] at hJ
    rw [hJ] at hR1 hR2
    obtain rfl : l = R1 := hR1
    obtain rfl : false = R2 := hR2
    clear hJ
    have h64i : (64 : Int) < (c.s.length : Int) + (s.length : Int) := by omega
    rcases hcase with ⟨h0, rfl⟩ | ⟨h0, hcc⟩
    · have hjj : ((kk + 1 : Nat) : Int) - 1 = (kk : Int) := by omega
      have hji : (kk : Int) < W := by omega
      go_enter Tryd.func24, Tryd.ntmps24
      go_wp2_with (go_at_call 33; refine (made_yes g _ H.out.ptr).mono ?_; rintro e w' ⟨rfl, rfl⟩)
      refine (has_bel H.out row _).mono ?_
      rintro e w1 ⟨rfl, hb1⟩
      have hin := HIN.out
      first | rw [hin] | (simp only [Int.natCast_add, Int.natCast_one] at hin; rw [hin])
      obtain ⟨b, hbi, hrv, hrw, hb⟩ := PRE.out w1 hb1
      have hc1 := goInt_cell HC.out hb
      rw [h0] at hc1
      have hc0 : w1.cell? ⟨b, kk * 7, none⟩ = some (.string ⟨c.s.toArray⟩) := by rw [hb.cell (kk * 7)]; exact rc_get HKC.out (j := 0) rfl
      have HB := Lib.hid hb
      have HBI := Lib.hid hbi
      have HB1 := Lib.hid hb1
      clear hb hbi hb1 hin
      go_wp2
      go_ret2
      exact ⟨rfl, FIN.out w1 w1 b HB1.out HBI.out (Chg.refl _ _) HB.out⟩
    · obtain rfl : kk = col := hcc.symm
      have h0' : (d.w == 0) = false := by simp [h0]
      go_enter Tryd.func24, Tryd.ntmps24
      go_wp2_with (go_at_call 33; refine (made_yes g _ H.out.ptr).mono ?_; rintro e w' ⟨rfl, rfl⟩)
      refine (has_bel H.out row _).mono ?_
      rintro e w1 ⟨rfl, hb1⟩
      have hin := HIN.out
      first | rw [hin] | (simp only [Int.natCast_add, Int.natCast_one] at hin; rw [hin])
      obtain ⟨b, hbi, hrv, hrw, hb⟩ := PRE.out w1 hb1
      have hc1 := goInt_cell HC.out hb
      have hc0 : w1.cell? ⟨b, kk * 7, none⟩ = some (.string ⟨c.s.toArray⟩) := by rw [hb.cell (kk * 7)]; exact rc_get HKC.out (j := 0) rfl
      have HB := Lib.hid hb
      have HBI := Lib.hid hbi
      have HB1 := Lib.hid hb1
      clear hb hbi hb1 hin
      go_wp2
      go_ret2
      exact ⟨rfl, FIN.out w1 w1 b HB1.out HBI.out (Chg.refl _ _) HB.out⟩
  · rw [if_neg h64] at hJ
    rw [hJ] at hR1 hR2
    obtain rfl : true = R2 := hR2
    have HR1 := Lib.hid hR1
    clear hJ hR1
    have h64i : ¬ (64 : Int) < (c.s.length : Int) + (s.length : Int) := by omega
    rcases hcase with ⟨h0, rfl⟩ | ⟨h0, hcc⟩
    · have hjj : ((kk + 1 : Nat) : Int) - 1 = (kk : Int) := by omega
      have hji : (kk : Int) < W := by omega
      go_enter Tryd.func24, Tryd.ntmps24
      go_wp2_with (go_at_call 33; refine (made_yes g _ H.out.ptr).mono ?_; rintro e w' ⟨rfl, rfl⟩)
      refine (has_bel H.out row _).mono ?_
      rintro e w1 ⟨rfl, hb1⟩
      have hin := HIN.out
      first | rw [hin] | (simp only [Int.natCast_add, Int.natCast_one] at hin; rw [hin])
      obtain ⟨b, hbi, hrv, hrw, hb⟩ := PRE.out w1 hb1
      have hc1 := goInt_cell HC.out hb
      rw [h0] at hc1
      have hc0 : w1.cell? ⟨b, kk * 7, none⟩ = some (.string ⟨c.s.toArray⟩) := by rw [hb.cell (kk * 7)]; exact rc_get HKC.out (j := 0) rfl
      have HB := Lib.hid hb
      have HBI := Lib.hid hbi
      have HB1 := Lib.hid hb1
      clear hb hbi hb1 hin
      go_wp2_with (((with_reducible refine at_store 54 ?_); refine wpList_store_cell rfl _ _ _ rfl rfl b (kk * 7) _ (rc l) (.string (⟨c.s.toArray⟩ ++ ⟨s.toArray⟩)) rfl rfl HB.out (by have h1 := rc_length l; have h2 := (List.getElem?_eq_some_iff.1 HKC.out).1; omega) (by kernel_rfl) rfl ?_; intro w4 hn4 hg4))
      go_ret2
      have e : (⟨c.s.toArray⟩ : ByteArray) ++ ⟨s.toArray⟩ = ⟨(c.s ++ s).toArray⟩ := by apply ByteArray.ext; simp [ByteArray.data_append]
      rw [e, rc_set_s HKC.out, HR1.out] at hn4
      exact ⟨rfl, FIN.out w1 w4 b HB1.out HBI.out (chg_of_grown hg4) hn4⟩
    · obtain rfl : kk = col := hcc.symm
      have h0' : (d.w == 0) = false := by simp [h0]
      go_enter Tryd.func24, Tryd.ntmps24
      go_wp2_with (go_at_call 33; refine (made_yes g _ H.out.ptr).mono ?_; rintro e w' ⟨rfl, rfl⟩)
      refine (has_bel H.out row _).mono ?_
      rintro e w1 ⟨rfl, hb1⟩
      have hin := HIN.out
      first | rw [hin] | (simp only [Int.natCast_add, Int.natCast_one] at hin; rw [hin])
      obtain ⟨b, hbi, hrv, hrw, hb⟩ := PRE.out w1 hb1
      have hc1 := goInt_cell HC.out hb
      have hc0 : w1.cell? ⟨b, kk * 7, none⟩ = some (.string ⟨c.s.toArray⟩) := by rw [hb.cell (kk * 7)]; exact rc_get HKC.out (j := 0) rfl
      have HB := Lib.hid hb
      have HBI := Lib.hid hbi
      have HB1 := Lib.hid hb1
      clear hb hbi hb1 hin
      go_wp2_with (((with_reducible refine at_store 54 ?_); refine wpList_store_cell rfl _ _ _ rfl rfl b (kk * 7) _ (rc l) (.string (⟨c.s.toArray⟩ ++ ⟨s.toArray⟩)) rfl rfl HB.out (by have h1 := rc_length l; have h2 := (List.getElem?_eq_some_iff.1 HKC.out).1; omega) (by kernel_rfl) rfl ?_; intro w4 hn4 hg4))
      go_ret2
      have e : (⟨c.s.toArray⟩ : ByteArray) ++ ⟨s.toArray⟩ = ⟨(c.s ++ s).toArray⟩ := by apply ByteArray.ext; simp [ByteArray.data_append]
      rw [e, rc_set_s HKC.out, HR1.out] at hn4
      exact ⟨rfl, FIN.out w1 w4 b HB1.out HBI.out (chg_of_grown hg4) hn4⟩

set_option maxHeartbeats 1000000 in
theorem join_not {w : World} {p : Option Addr} (h : GrNo w p) (row col : Int) (s : ByteArray) :
    Calls Tryd.prog 24 #[.pointer p, .int .i64 row, .int .i64 col, .string s] w fun e w' => e = .returned (.tuple #[.bool false, .int .i64 4]) ∧ w = w' := by
  have H := Lib.hid h
  clear h
  go_enter Tryd.func24, Tryd.ntmps24
  go_wp2_with (go_at_call 33; refine (made_not H.out).mono ?_; rintro e w' ⟨rfl, rfl⟩)
  go_ret2
  exact ⟨rfl, rfl⟩
set_option maxHeartbeats 1000000 in
theorem join_range {w : World} {lo g rb W : Nat} {bs : List Nat} {L : List (List Cl)} (h : GrAt w lo g rb bs W L) (row col : Int) (s : ByteArray) (hbad : inB row col W L.length = false) :
    Calls Tryd.prog 24 #[.pointer (some ⟨g, 0, none⟩), .int .i64 row, .int .i64 col, .string s] w fun e w' => e = .returned (.tuple #[.bool false, .int .i64 5]) ∧ Below w.heap.size w w' := by
  have H := Lib.hid h
  have HIN := Lib.hid hbad
  clear h hbad
  go_enter Tryd.func24, Tryd.ntmps24
  go_wp2_with (first
    | (go_at_call 33; refine (made_yes g _ H.out.ptr).mono ?_; rintro e w' ⟨rfl, rfl⟩)
    | (go_at_call 35; refine (has_bel H.out row col).mono ?_; rintro e w1 ⟨rfl, hb1⟩; rw [HIN.out]))
  go_ret2
  exact ⟨rfl, hb1⟩
theorem getD_some {L : List (List Cl)} {r : Nat} (h : r < L.length) : L[r]? = some (L.getD r []) := by
  rw [List.getElem?_eq_getElem h, List.getD_eq_getElem?_getD, List.getElem?_eq_getElem h]
  rfl
theorem join_any {w : World} {lo g rb W : Nat} {bs : List Nat} {L : List (List Cl)} (h : GrAt w lo g rb bs W L) (row col : Int) (s : List UInt8) (hs : s.length ≤ 1000000) :
    Calls Tryd.prog 24 #[.pointer (some ⟨g, 0, none⟩), .int .i64 row, .int .i64 col, .string ⟨s.toArray⟩] w fun e w' => e = .returned (.tuple #[.bool (joinM W L row col s).2.1, .int .i64 (joinM W L row col s).2.2]) ∧
      GrAt w' lo g rb bs W (joinM W L row col s).1 ∧ Chg (GrOwn g rb bs) w w' := by
  unfold joinM
  by_cases h1 : inB row col W L.length = false
  · rw [if_pos h1]
    exact (join_range h row col _ h1).mono fun e w' ⟨he, hb⟩ => ⟨he, h.below hb, Chg.of_below hb⟩
  · rw [if_neg h1]
    have a : inB row col W L.length = true := by simpa using h1
    obtain ⟨a0, a1, a2, a3⟩ : 0 ≤ row ∧ row < L.length ∧ 0 ≤ col ∧ col < W := by simpa [inB] using a
    obtain ⟨r, rfl⟩ := Int.eq_ofNat_of_zero_le a0
    obtain ⟨c, rfl⟩ := Int.eq_ofNat_of_zero_le a2
    exact join_ok h r c s _ (getD_some (by omega)) (by omega) hs

/-- what Erase comes to -/
def eraseG (W : Nat) (L : List (List Cl)) (row a z : Int) : List (List Cl) × Int :=
  if inB row 0 W L.length = false then (L, 5)
  else (L.set row.toNat (eraseM (L.getD row.toNat []) (max a 0).toNat (min z W - max a 0).toNat), 0)
set_option maxHeartbeats 1000000 in
theorem erase_not {w : World} {p : Option Addr} (h : GrNo w p) (row a z : Int) :
    Calls Tryd.prog 27 #[.pointer p, .int .i64 row, .int .i64 a, .int .i64 z] w fun e w' => e = .returned (.int .i64 4) ∧ w = w' := by
  have H := Lib.hid h
  clear h
  go_enter Tryd.func27, Tryd.ntmps27
  go_wp2_with (go_at_call 33; refine (made_not H.out).mono ?_; rintro e w' ⟨rfl, rfl⟩)
  go_ret
  exact ⟨rfl, rfl⟩
set_option maxHeartbeats 1000000 in
theorem erase_range {w : World} {lo g rb W : Nat} {bs : List Nat} {L : List (List Cl)} (h : GrAt w lo g rb bs W L) (row a z : Int) (hbad : inB row 0 W L.length = false) :
    Calls Tryd.prog 27 #[.pointer (some ⟨g, 0, none⟩), .int .i64 row, .int .i64 a, .int .i64 z] w fun e w' => e = .returned (.int .i64 5) ∧ Below w.heap.size w w' := by
  have H := Lib.hid h
  have HIN := Lib.hid hbad
  clear h hbad
  go_enter Tryd.func27, Tryd.ntmps27
  go_wp2_with (first
    | (go_at_call 33; refine (made_yes g _ H.out.ptr).mono ?_; rintro e w' ⟨rfl, rfl⟩)
    | (go_at_call 35; refine (has_bel H.out row 0).mono ?_; rintro e w1 ⟨rfl, hb1⟩; rw [HIN.out]))
  go_ret
  exact ⟨rfl, hb1⟩

set_option maxRecDepth 100000 in
set_option maxHeartbeats 4000000 in
theorem erase_ok {w : World} {lo g rb W : Nat} {bs : List Nat} {L : List (List Cl)} (h : GrAt w lo g rb bs W L) (hT : BlankT w) (hlo : 0 < lo) (row : Nat) (a z : Int) (ha1 : -9223372036854775808 ≤ a) (ha2 : a ≤ 9223372036854775807) (l : List Cl) (hl : L[row]? = some l) :
    Calls Tryd.prog 27 #[.pointer (some ⟨g, 0, none⟩), .int .i64 row, .int .i64 a, .int .i64 z] w fun e w' => e = .returned (.int .i64 0) ∧
      GrAt w' lo g rb bs W (L.set row (eraseM l (max a 0).toNat (min z W - max a 0).toNat)) ∧ Chg (GrOwn g rb bs) w w' := by
  have hr : row < L.length := (List.getElem?_eq_some_iff.1 hl).1
  obtain ⟨hlen, hwf⟩ := h.some_at hl
  have hw5 := h.w5
  have hw1 := h.w1
  have hh5 := h.h5
  have HIN := Lib.hid (show inB row 0 W L.length = true by unfold inB; simp; omega)
  have hri : (row : Int) < L.length := by omega
  have H := Lib.hid h
  have HT := Lib.hid hT
  have HL := Lib.hid hl
  have HLEN := Lib.hid hlen
  have HWF := Lib.hid hwf
  clear h hT hl hlen hwf
  obtain ⟨a', ha'⟩ : ∃ a', max a 0 = a' := ⟨_, rfl⟩
  obtain ⟨z', hz'⟩ : ∃ z', min z (W : Int) = z' := ⟨_, rfl⟩
  obtain ⟨m, hm⟩ : ∃ m, (z' - a').toNat = m := ⟨_, rfl⟩
  rw [ha', hz', hm]
  have ha0 : 0 ≤ a' := by omega
  have hab : a' ≤ 9223372036854775807 := by omega
  have HA := Lib.hid ha'
  have HZ := Lib.hid hz'
  have HM := Lib.hid hm
  clear ha' hz' hm
  by_cases hzw : z ≤ (W : Int)
  all_goals
   go_enter Tryd.func27, Tryd.ntmps27
   go_wp2_with (go_at_call 33; refine (made_yes g _ H.out.ptr).mono ?_; rintro e w' ⟨rfl, rfl⟩)
   refine (has_bel H.out row 0).mono ?_
   rintro e w2 ⟨rfl, hb2⟩
   rw [HIN.out]
   have H2 := Lib.hid (H.out.below hb2)
   have HB2 := Lib.hid hb2
   have hs2 := H2.out.rws
   obtain ⟨b, l', hbi, hl', hrv, hlen', hwf', hb⟩ := H2.out.at_ hr
   obtain rfl : l' = l := by have := HL.out; rw [this] at hl'; injection hl' with hl'; exact hl'.symm
   unfold rowV at hrv
   have HB := Lib.hid hb
   have HBI := Lib.hid hbi
   have HT2 := Lib.hid (HT.out.bel HB2.out)
   have hbne : b ≠ 0 := by have := H2.out.lo b (.inr (.inr (List.mem_of_getElem? hbi))); omega
   have HBN := Lib.hid hbne
   clear hb2 hl' hlen' hwf' hb hbi hbne
   go_wp2
   all_goals
    go_loopw [10] (fun v10 wr => ∃ k : Nat, v10 = .int .i64 (a' + k) ∧ k ≤ m ∧ Blk wr b 51 (rc (eraseM l' a'.toNat k)) ∧ Chg (one b) w2 wr) (fun v10 _ => (z' - intOf v10).toNat)
    case atStart => exact ⟨0, by have := HA.out; congr 1; omega, by omega, HB.out, Chg.refl _ _⟩
    case round =>
      obtain ⟨k, rfl, hk, hbk, hck⟩ := hrel
      have HBK := Lib.hid hbk
      have HCK := Lib.hid hck
      clear hbk hck
      by_cases hlt : k < m
      · have hz1 : a' + (k : Int) < z' := by have := HM.out; omega
        have hz2 : a' + (k : Int) < z ∧ a' + (k : Int) < W := by have := HZ.out; omega
        obtain ⟨hz3, hz4⟩ := hz2
        have hak : 0 ≤ a' + (k : Int) := by omega
        have HTr := Lib.hid (HT2.out.chg HCK.out (fun e => HBN.out e.symm))
        go_wp2_with (fail)
        rw [show a' + (k : Int) = ((a'.toNat + k : Nat) : Int) by omega]
        refine (blankAt_any b (eraseM l' a'.toNat k) W (a'.toNat + k) (by rw [eraseM_length]; exact HLEN.out) (HWF.out.erase _ k) (by omega) (by omega) wr HBK.out HTr.out HBN.out).mono ?_
        rintro e w4 ⟨rfl, hb4, hg4⟩
        rw [← eraseM_snoc] at hb4
        have HB4 := Lib.hid hb4
        have HG4 := Lib.hid hg4
        clear hb4 hg4
        go_wp2
        go_roundw
        case rel => exact ⟨k + 1, by congr 1; omega, by omega, HB4.out, HCK.out.trans (chg_of_grown HG4.out) (fun _ h => .inl h)⟩
        case measure => simp [intOf]; omega
      · obtain rfl : k = m := by omega
        have hz1 : ¬ a' + (k : Int) < z' := by have := HM.out; omega
        have HFIN : Hid (GrAt wr lo g rb bs W (L.set row (eraseM l' a'.toNat k)) ∧ Chg (GrOwn g rb bs) w wr) :=
          ⟨H2.out.set HBI.out HCK.out (by rw [eraseM_length]; exact HLEN.out) (HWF.out.erase _ _) HBK.out, (Chg.of_below (S := GrOwn g rb bs) HB2.out).trans HCK.out (fun j e => .inl (by have e' : j = b := e; subst e'; exact .inr (.inr (List.mem_of_getElem? HBI.out))))⟩
        first
          | (have hz5 : ¬ a' + (k : Int) < z := (by have := HZ.out; omega)
             go_wp2
             go_ret
             exact ⟨rfl, HFIN.out⟩)
          | (have hz5 : ¬ a' + (k : Int) < W := (by have := HZ.out; omega)
             go_wp2
             go_ret
             exact ⟨rfl, HFIN.out⟩)
end Go.Proofs.YtijbimofigkdkaaDoor
