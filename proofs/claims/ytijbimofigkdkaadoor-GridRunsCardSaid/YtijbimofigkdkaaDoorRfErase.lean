/-
  Walks: the reference's Put whatever comes; Erase.
-/
import Derived.Test.YtijbimofigkdkaaDoorRfPut2
namespace Go.Proofs.YtijbimofigkdkaaDoor
open Go.RowKit
set_option linter.unusedVariables false
set_option linter.unusedSimpArgs false

/-- a reference's rows are all of a width and well formed -/
structure Rws (W : Nat) (L : List (List Cl)) : Prop where
  wd : ∀ (i : Nat) l, L[i]? = some l → l.length = W ∧ Wf l
  w1 : 1 ≤ W
  w5 : W ≤ 500
  h1 : 1 ≤ L.length
  h5 : L.length ≤ 500
theorem GrAt.rws_ {w : World} {lo g rb W : Nat} {bs : List Nat} {L : List (List Cl)} (h : GrAt w lo g rb bs W L) : Rws W L := ⟨fun i l hl => h.some_at hl, h.w1, h.w5, h.h1, h.h5⟩

theorem rput_any {w : World} {D : Nat → Prop} {A : Option Addr} {c W : Nat} {L : List (List Cl)} (h : RfAt w D A c L) (hq : Rws W L) (row col : Int) (s : List UInt8) (m : Int) (y : Sty) (hs : s.length ≤ 1000000) :
    Calls Tryd.prog 41 #[.agg #[.int .i64 W, .int .i64 L.length, .slice A L.length c], .int .i64 row, .int .i64 col, .string ⟨s.toArray⟩, .int .i64 m, .agg y.cells.toArray] w fun e w' => ∃ V, e = .returned (.tuple #[V, .int .i64 (putM W L row col s m y).2]) ∧ RfV w' (fun b => D b ∨ w.heap.size ≤ b) V W (putM W L row col s m y).1 ∧ Below w.heap.size w w' := by
  unfold putM
  by_cases h1 : s = [] ∨ 64 < s.length ∨ (m ≠ 1 ∧ m ≠ 2)
  · rw [if_pos h1]
    exact (rput_no (W := W) (n := L.length) (A := A) (c := c) row col s m y hs 1 hq.w5 (.inl ⟨h1, rfl⟩)).mono fun e w' ⟨he, hb⟩ => ⟨_, he, (h.v.mono (fun b _ h => .inl h)).below hb, hb⟩
  · rw [if_neg h1]
    have hs0 : s ≠ [] := fun e => h1 (.inl e)
    have hs64 : s.length ≤ 64 := by
      rcases Nat.lt_or_ge 64 s.length with h' | h'
      · exact absurd (.inr (.inl h')) h1
      · exact h'
    have hm : m = 1 ∨ m = 2 := by
      by_cases a : m = 1
      · exact .inl a
      · by_cases b : m = 2
        · exact .inr b
        · exact absurd (.inr (.inr ⟨a, b⟩)) h1
    by_cases h2 : inB row col W L.length = false ∨ inB row (col + m - 1) W L.length = false
    · rw [if_pos h2]
      exact (rput_no (W := W) (n := L.length) (A := A) (c := c) row col s m y hs 5 hq.w5 (.inr ⟨⟨hs0, hs64, hm⟩, h2, rfl⟩)).mono fun e w' ⟨he, hb⟩ => ⟨_, he, (h.v.mono (fun b _ h => .inl h)).below hb, hb⟩
    · rw [if_neg h2]
      have a : inB row col W L.length = true := by simpa using fun e => h2 (.inl e)
      have b : inB row (col + m - 1) W L.length = true := by simpa using fun e => h2 (.inr e)
      obtain ⟨a0, a1, a2, a3⟩ : 0 ≤ row ∧ row < L.length ∧ 0 ≤ col ∧ col < W := by simpa [inB] using a
      obtain ⟨b0, b1, b2, b3⟩ : 0 ≤ row ∧ row < L.length ∧ 0 ≤ col + m - 1 ∧ col + m - 1 < W := by simpa [inB] using b
      obtain ⟨r, rfl⟩ := Int.eq_ofNat_of_zero_le a0
      obtain ⟨k, rfl⟩ := Int.eq_ofNat_of_zero_le a2
      obtain ⟨n, rfl⟩ := Int.eq_ofNat_of_zero_le (show 0 ≤ m by omega)
      have hl := getD_some (L := L) (r := r) (by omega)
      exact rput_ok h r k s n y _ hl (hq.wd r _ hl).1 hq.w5 hq.h5 hs0 hs64 (by omega) (by omega)

/-- the worlds in which Erase, Scroll begin -/
def erW0 (w : World) (W n : Nat) (A : Option Addr) (c : Nat) : World := (w.alloc (.cells #[.int .i64 W, .int .i64 n, .slice A n c] 29)).alloc (.cells #[.int .i64 0, .int .i64 0, .slice none 0 0] 29)
theorem erW0_is (w : World) (W n : Nat) (A : Option Addr) (c : Nat) : Below w.heap.size w (erW0 w W n A c) ∧ Blk (erW0 w W n A c) w.heap.size 29 (rgC W n A c) ∧ Blk (erW0 w W n A c) (w.heap.size + 1) 29 (rgC 0 0 none 0) := by
  unfold erW0
  exact ⟨((Below.refl _ _).alloc (Nat.le_refl _) _).alloc (by simp) _, (Blk.new w _ (rgC W n A c)).alloc _, Blk.new1 w _ _ (rgC 0 0 none 0)⟩
theorem grid_fin1 {w w6 w7 : World} {D : Nat → Prop} {V : Value} {W : Nat} {L : List (List Cl)} (hb : Below w.heap.size w w6) (hv : RfV w6 (fun b => (D b ∧ b < w.heap.size) ∨ w.heap.size + 2 ≤ b) V W L) (hc : Chg (one (w.heap.size + 1)) w6 w7) :
    RfV w7 (fun b => D b ∨ w.heap.size ≤ b) V W L ∧ Below w.heap.size w w7 :=
  ⟨(hv.chg hc (fun b _ h e => by have e' : b = w.heap.size + 1 := e; omega)).mono (fun b _ h => h.elim (fun h => .inl h.1) (fun h => .inr (by omega))), hb.trans (hc.below hb.size (fun j e => by have e' : j = w.heap.size + 1 := e; omega))⟩

set_option maxRecDepth 100000 in
set_option maxHeartbeats 4000000 in
theorem rerase_no {w : World} {W n : Nat} {A : Option Addr} {c : Nat} (row a z : Int) (hr : row < 0 ∨ (n : Int) ≤ row) :
    Calls Tryd.prog 38 #[.agg #[.int .i64 W, .int .i64 n, .slice A n c], .int .i64 row, .int .i64 a, .int .i64 z] w fun e w' => e = .returned (.tuple #[.agg (rgC W n A c).toArray, .int .i64 5]) ∧ Below w.heap.size w w' := by
  obtain ⟨hb0, h1, h2⟩ := erW0_is w W n A c
  have hW0 : erW0 w W n A c = (w.alloc (.cells #[.int .i64 W, .int .i64 n, .slice A n c] 29)).alloc (.cells #[.int .i64 0, .int .i64 0, .slice none 0 0] 29) := rfl
  generalize erW0 w W n A c = W0 at hb0 h1 h2 hW0
  have HB0 := Lib.hid hb0
  have H1 := Lib.hid h1
  have H2 := Lib.hid h2
  have HW0 := Lib.hid hW0
  clear hb0 h1 h2 hW0
  have key : row < 0 ∨ (¬ row < 0 ∧ (n : Int) ≤ row) := by omega
  clear hr
  rcases key with hr | ⟨hr, hr2⟩
  all_goals
    go_enter Tryd.func38, Tryd.ntmps38
    go_upto_region 1 with fail
    rw [← HW0.out]
    obtain ⟨e0, e1, e2⟩ := blk3 H1.out
    go_wp2_with ((with_reducible refine at_store 8 ?_); refine wpList_store_blk rfl _ _ _ rfl rfl (w.heap.size + 1) 0 _ (rgC 0 0 none 0) (rgC W n A c) rfl rfl H2.out (by simp [rgC]) rg_size (rgC_one _ _ _ _) ?_; intro w2 hn2 hg2; have hn2' : Blk w2 (w.heap.size + 1) 29 (rgC W n A c) := hn2)
    exact bodyPost_ret (results_ct rfl rfl rfl hn2'.whole Tryd.underlying29 rfl rg_size) rfl ⟨rfl, HB0.out.grown hg2 HB0.out.size (fun j hj => by injection hj with hj; omega)⟩

set_option maxRecDepth 100000 in
set_option maxHeartbeats 4000000 in
theorem rerase_ok {w : World} {D : Nat → Prop} {A : Option Addr} {c W : Nat} {L : List (List Cl)} (h : RfAt w D A c L) (hq : Rws W L) (row : Nat) (a z : Int) (l : List Cl) (hl : L[row]? = some l) :
    Calls Tryd.prog 38 #[.agg #[.int .i64 W, .int .i64 L.length, .slice A L.length c], .int .i64 row, .int .i64 a, .int .i64 z] w fun e w' => ∃ V, e = .returned (.tuple #[V, .int .i64 0]) ∧ RfV w' (fun b => D b ∨ w.heap.size ≤ b) V W (L.set row (eraseM l (max a 0).toNat (min z W - max a 0).toNat)) ∧ Below w.heap.size w w' := by
  have hr : row < L.length := (List.getElem?_eq_some_iff.1 hl).1
  have hri : (row : Int) < L.length := by omega
  have hrj : ¬ (L.length : Int) ≤ row := by omega
  have hlen := (hq.wd row l hl).1
  have hw5 := hq.w5
  have hh5 := hq.h5
  obtain ⟨hb0, h1, h2⟩ := erW0_is w W L.length A c
  have hW0 : erW0 w W L.length A c = (w.alloc (.cells #[.int .i64 W, .int .i64 L.length, .slice A L.length c] 29)).alloc (.cells #[.int .i64 0, .int .i64 0, .slice none 0 0] 29) := rfl
  generalize erW0 w W L.length A c = W0 at hb0 h1 h2 hW0
  have hd1 := h.mono (D' := (fun b => (D b ∧ b < w.heap.size) ∨ w.heap.size + 2 ≤ b)) (fun b hb h => .inl ⟨h, hb⟩)
  obtain ⟨b, off, Ai, ci, rfl, hlat⟩ := hd1.row_later hl
  have HLAT := Lib.hid hlat
  have HB0 := Lib.hid hb0
  have H1 := Lib.hid h1
  have H2 := Lib.hid h2
  have HW0 := Lib.hid hW0
  have HR := Lib.hid hd1
  have HLEN := Lib.hid hlen
  obtain ⟨n, hn⟩ : ∃ n, n = L.length := ⟨_, rfl⟩
  have HN := Lib.hid hn
  obtain ⟨a0, ha0⟩ : ∃ a0 : Nat, max 0 a = (a0 : Int) := ⟨(max 0 a).toNat, by omega⟩
  obtain ⟨E, hE⟩ : ∃ E : Int, min z (W : Int) = E := ⟨_, rfl⟩
  have hEW : E ≤ W := by omega
  have haz : (max a 0).toNat = a0 := by omega
  have hzn : (min z W - max a 0).toNat = (E - a0).toNat := by omega
  rw [haz, hzn]
  rw [← hn] at hr hri hrj hh5 H1 HW0 ⊢
  clear hb0 h1 h2 hW0 h hl hlat hn hq hlen haz hzn hd1
  have pre : ∀ w1, Below W0.heap.size W0 w1 → Blk w1 w.heap.size 29 (rgC W n (some ⟨b, off, none⟩) c) ∧ Blk w1 (w.heap.size + 1) 29 (rgC 0 0 none 0) ∧ Below w.heap.size w w1 := fun w1 hb =>
    ⟨H1.out.below hb H1.out.lt, H2.out.below hb H2.out.lt, HB0.out.trans (hb.mono HB0.out.size)⟩
  have PRE := Lib.hid pre
  obtain ⟨hcr, hrow⟩ := HLAT.out _ HB0.out
  have HROW := Lib.hid hrow
  obtain ⟨e0, e1, e2⟩ := blk3 H1.out
  have HWS := Lib.hid H2.out.lt
  clear pre H1 H2 HB0 hrow
  go_enter Tryd.func38, Tryd.ntmps38
  go_upto_region 1 with fail
  rw [← HW0.out]
  go_wp2_with (fail)
  clear hcr e0 e1 e2
  go_loopw [10, 11] (fun v10 v11 wr => ∃ (j : Nat) (A1 : Option Addr) (c1 : Nat), v11 = .int .i64 j ∧ a0 ≤ j ∧ (j : Int) ≤ max E a0 ∧ v10 = .slice A1 l.length c1 ∧ RowD wr (fun b => (D b ∧ b < w.heap.size) ∨ w.heap.size + 2 ≤ b) (.slice A1 l.length c1) (eraseM l a0 (j - a0)) ∧ Below W0.heap.size W0 wr) (fun _ v11 _ => (E - intOf v11).toNat)
  case atStart => exact ⟨a0, Ai, ci, by first | rfl | rw [ha0], by omega, by omega, rfl, by rw [Nat.sub_self]; exact HROW.out, Below.refl _ _⟩
  case round =>
    obtain ⟨j, A1, c1, rfl, hj, hjE, rfl, hrow, hbr⟩ := hrel
    have HROWJ := Lib.hid hrow
    have HBR := Lib.hid hbr
    obtain ⟨h1, h2, hbw⟩ := PRE.out _ hbr
    obtain ⟨e0, e1, e2⟩ := blk3 h1
    clear hrow hbr h1 h2 hbw
    by_cases hlt : (j : Int) < E
    · have hjl : j < l.length := by have := HLEN.out; omega
      have hl5 : l.length ≤ 500 := by have := HLEN.out; omega
      have hel : Hid ((eraseM l a0 (j - a0)).length = l.length) := eraseM_length l a0 (j - a0)
      go_wp2_with (fail)
      refine (rblank_any HROWJ.out j (by rw [hel.out]; exact hjl) (by rw [hel.out]; omega)).mono ?_
      rintro e w2 ⟨v2, rfl, hr2, hb2⟩
      have hsn : eraseM l a0 (j + 1 - a0) = blankM (eraseM l a0 (j - a0)) j := by
        rw [show j + 1 - a0 = (j - a0) + 1 by omega, eraseM_snoc, show a0 + (j - a0) = j by omega]
      rw [← hsn] at hr2
      have HR2 := Lib.hid hr2
      have HB2 := Lib.hid (HBR.out.trans (hb2.mono HBR.out.size))
      have hsz := HBR.out.size
      have hel2 : Hid ((eraseM l a0 (j + 1 - a0)).length = l.length) := eraseM_length l a0 (j + 1 - a0)
      obtain ⟨A2, c2, rfl⟩ := HR2.out.len
      rw [hel2.out] at HR2 ⊢
      clear hr2 hb2 hsn
      go_wp2_with (fail)
      go_roundw
      case rel => exact ⟨j + 1, A2, c2, by go_num, by omega, by omega, rfl, HR2.out.mono (fun b _ h => .inr (by have h' : _ ≤ b := h; have := HWS.out; omega)), HB2.out⟩
      case measure => simp [intOf]; omega
    · have hje : j - a0 = (E - a0).toNat := by omega
      have hl5 : l.length ≤ 500 := by have := HLEN.out; omega
      rw [hje] at HROWJ
      have hel : Hid ((eraseM l a0 (E - a0).toNat).length = l.length) := eraseM_length l a0 _
      have hwith := rwith_any (W := W) (HR.out.below (PRE.out _ HBR.out).2.2) row (by have := HN.out; omega) (by have := HN.out; omega) HROWJ.out
      rw [← HN.out] at hwith
      have HWITH := Lib.hid hwith
      clear hwith hje
      go_wp2_with (fail)
      refine HWITH.out.mono ?_
      rintro e w5 ⟨V, rfl, hv5, hb5⟩
      have HV5 := Lib.hid (hv5.mono (D' := fun b => (D b ∧ b < w.heap.size) ∨ w.heap.size + 2 ≤ b) (fun b _ h => h.elim id (fun h => .inr (by have := HWS.out; have := HBR.out.size; omega))))
      obtain ⟨A5, c5, rfl, _⟩ := hv5
      rw [List.length_set, ← HN.out] at HV5 ⊢
      have HB5 := Lib.hid (HBR.out.trans (hb5.mono HBR.out.size))
      obtain ⟨h1, h2, hbw⟩ := PRE.out _ HB5.out
      have H25 := Lib.hid h2
      have HBW5 := Lib.hid hbw
      clear h1 h2 hbw hb5 e0 e1 e2
      go_wp2_with ((with_reducible refine at_store 8 ?_); refine wpList_store_blk rfl _ _ _ rfl rfl (w.heap.size + 1) 0 _ (rgC 0 0 none 0) (rgC W n A5 c5) rfl rfl H25.out (by simp [rgC]) rg_size (rgC_one _ _ _ _) ?_; intro w6 hn6 hg6; have hn6' : Blk w6 (w.heap.size + 1) 29 (rgC W n A5 c5) := hn6)
      exact bodyPost_ret (results_ct rfl rfl rfl hn6'.whole Tryd.underlying29 rfl rg_size) rfl ⟨_, rfl, grid_fin1 HBW5.out HV5.out (chg_of_grown hg6)⟩

theorem rerase_any {w : World} {D : Nat → Prop} {A : Option Addr} {c W : Nat} {L : List (List Cl)} (h : RfAt w D A c L) (hq : Rws W L) (row a z : Int) :
    Calls Tryd.prog 38 #[.agg #[.int .i64 W, .int .i64 L.length, .slice A L.length c], .int .i64 row, .int .i64 a, .int .i64 z] w fun e w' => ∃ V, e = .returned (.tuple #[V, .int .i64 (eraseG W L row a z).2]) ∧ RfV w' (fun b => D b ∨ w.heap.size ≤ b) V W (eraseG W L row a z).1 ∧ Below w.heap.size w w' := by
  unfold eraseG
  by_cases h1 : inB row 0 W L.length = false
  · rw [if_pos h1]
    have hr : row < 0 ∨ (L.length : Int) ≤ row := by
      have := hq.w1
      simp [inB] at h1
      omega
    exact (rerase_no (W := W) (n := L.length) (A := A) (c := c) row a z hr).mono fun e w' ⟨he, hb⟩ => ⟨_, he, (h.v.mono (fun b _ h => .inl h)).below hb, hb⟩
  · rw [if_neg h1]
    have a' : inB row 0 W L.length = true := by simpa using h1
    obtain ⟨a0, a1⟩ : 0 ≤ row ∧ row < L.length := by simp [inB] at a'; omega
    obtain ⟨r, rfl⟩ := Int.eq_ofNat_of_zero_le a0
    exact rerase_ok h hq r a z _ (getD_some (by omega))
end Go.Proofs.YtijbimofigkdkaaDoor
