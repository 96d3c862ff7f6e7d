/-
  Walks: blankAt, Put.
-/
import Derived.Test.YtijbimofigkdkaaDoorGrMem
namespace Go.Proofs.YtijbimofigkdkaaDoor
open Go.RowKit
set_option linter.unusedVariables false
set_option linter.unusedSimpArgs false

theorem goInt_cell {l : List Cl} {k : Nat} {c : Cl} (h : l[k]? = some c) {w : World} {b : Nat} {t : TypeId} (hb : Blk w b t (rc l)) : w.cell? ⟨b, k * 7 + 1, none⟩ = some (.int .i64 c.w) := by
  rw [hb.cell]
  exact rc_get h (j := 1) rfl

set_option maxHeartbeats 1000000 in
theorem blankAt_any (b : Nat) (l : List Cl) (n k : Nat) (hn : l.length = n) (hl : Wf l) (hk : k < n) (h5 : n ≤ 500) (w : World) (hb : Blk w b 51 (rc l)) (hB : BlankT w) (hne : b ≠ 0) :
    Calls Tryd.prog 36 #[.slice (some ⟨b, 0, none⟩) n n, .int .i64 k] w fun e w' => e = .returned (.tuple #[]) ∧ Blk w' b 51 (rc (blankM l k)) ∧ w.grownBy w' (some b) := by
  have hki : (k : Int) < n := by omega
  have hc : l[k]? = some (l[k]'(by omega)) := List.getElem?_eq_getElem (by omega)
  generalize l[k]'(by omega) = c at hc
  have hcell := goInt_cell hc hb
  have hw := hl.w k c hc
  have hrl := rc_length l
  have HB := Lib.hid hb
  have HT := Lib.hid hB
  have HNE := Lib.hid hne
  have hM : blankM l k = (if c.w = 2 then l.set (k + 1) bl else if c.w = 0 then l.set (k - 1) bl else l).set k bl := by unfold blankM; rw [hc]
  rcases hw with h0 | h1 | h2
  · obtain ⟨j, d, rfl, hd, _⟩ := hl.tail k c hc h0
    rw [h0] at hcell
    rw [hM, h0, if_neg (by omega), if_pos rfl, show j + 1 - 1 = j by omega]
    have hsp : splice (rc l) (j * 7) bl.cells = rc (l.set j bl) := rc_splice l j bl (by omega)
    have hsp2 : splice (rc (l.set j bl)) ((j + 1) * 7) bl.cells = rc ((l.set j bl).set (j + 1) bl) := rc_splice _ _ bl (by simp; omega)
    have hrl2 := rc_length (l.set j bl)
    have hls : (l.set j bl).length = n := by simp [hn]
    have HSP := Lib.hid hsp
    have HSP2 := Lib.hid hsp2
    have HRL := Lib.hid hrl
    have HRL2 := Lib.hid hrl2
    have HN := Lib.hid hn
    have HLS := Lib.hid hls
    clear hb hB hne hM hsp hsp2 hrl hrl2 hc hl h0 hd hn hls
    have hjj : ((j + 1 : Nat) : Int) - 1 = (j : Int) := by omega
    go_enter Tryd.func36, Tryd.ntmps36
    go_wp2_with (first
      | ((with_reducible refine at_dst 21 ?_); refine wpList_load_mid rfl _ _ rfl 0 0 rfl bl.cells _ HT.out.1 Tryd.underlying51 rfl cl_size ?_)
      | ((with_reducible refine at_store 22 ?_); refine wpList_store_blk rfl _ _ _ rfl rfl b (j * 7) _ (rc l) bl.cells rfl rfl HB.out (by have := HRL.out; have := HN.out; rw [Cl.len]; omega) cl_size bl.one ?_; intro w2 hn2 hg2; rw [HSP.out] at hn2; have HT2 := Lib.hid (HT.out.grown hg2 HNE.out); have HB2 := Lib.hid hn2; clear hn2)
      | ((with_reducible refine at_dst 25 ?_); refine wpList_load_mid rfl _ _ rfl 0 0 rfl bl.cells _ HT2.out.1 Tryd.underlying51 rfl cl_size ?_)
      | ((with_reducible refine at_store 26 ?_); refine wpList_store_blk rfl _ _ _ rfl rfl b ((j + 1) * 7) _ (rc (l.set j bl)) bl.cells rfl rfl HB2.out (by have := HRL2.out; have := HLS.out; rw [Cl.len]; omega) cl_size bl.one ?_; intro w3 hn3 hg3))
    rw [HSP2.out] at hn3
    exact bodyPost_end (results_none rfl _ _ _) rfl ⟨rfl, hn3, grown_trans hg2 hg3⟩
  · rw [h1] at hcell
    rw [hM, h1, if_neg (by omega), if_neg (by omega)]
    have hsp : splice (rc l) (k * 7) bl.cells = rc (l.set k bl) := rc_splice l k bl (by omega)
    have HSP := Lib.hid hsp
    have HRL := Lib.hid hrl
    have HN := Lib.hid hn
    clear hb hB hne hM hsp hrl hc hl h1 hn
    go_enter Tryd.func36, Tryd.ntmps36
    go_wp2_with (first
      | ((with_reducible refine at_dst 25 ?_); refine wpList_load_mid rfl _ _ rfl 0 0 rfl bl.cells _ HT.out.1 Tryd.underlying51 rfl cl_size ?_)
      | ((with_reducible refine at_store 26 ?_); refine wpList_store_blk rfl _ _ _ rfl rfl b (k * 7) _ (rc l) bl.cells rfl rfl HB.out (by have := HRL.out; have := HN.out; rw [Cl.len]; omega) cl_size bl.one ?_; intro w3 hn3 hg3))
    rw [HSP.out] at hn3
    exact bodyPost_end (results_none rfl _ _ _) rfl ⟨rfl, hn3, hg3⟩
  · have hk1 : k + 1 < n := by have := (List.getElem?_eq_some_iff.1 (hl.wide k c hc h2)).1; omega
    rw [h2] at hcell
    rw [hM, h2, if_pos rfl]
    have hsp : splice (rc l) ((k + 1) * 7) bl.cells = rc (l.set (k + 1) bl) := rc_splice l (k + 1) bl (by omega)
    have hsp2 : splice (rc (l.set (k + 1) bl)) (k * 7) bl.cells = rc ((l.set (k + 1) bl).set k bl) := rc_splice _ _ bl (by simp; omega)
    have hrl2 := rc_length (l.set (k + 1) bl)
    have hls : (l.set (k + 1) bl).length = n := by simp [hn]
    have HSP := Lib.hid hsp
    have HSP2 := Lib.hid hsp2
    have HRL := Lib.hid hrl
    have HRL2 := Lib.hid hrl2
    have HN := Lib.hid hn
    have HLS := Lib.hid hls
    clear hb hB hne hM hsp hsp2 hrl hrl2 hc hl h2 hn hls
    have hk1i : (k : Int) + 1 < n := by omega
    go_enter Tryd.func36, Tryd.ntmps36
    go_wp2_with (first
      | ((with_reducible refine at_dst 14 ?_); refine wpList_load_mid rfl _ _ rfl 0 0 rfl bl.cells _ HT.out.1 Tryd.underlying51 rfl cl_size ?_)
      | ((with_reducible refine at_store 15 ?_); refine wpList_store_blk rfl _ _ _ rfl rfl b ((k + 1) * 7) _ (rc l) bl.cells rfl rfl HB.out (by have := HRL.out; have := HN.out; rw [Cl.len]; omega) cl_size bl.one ?_; intro w2 hn2 hg2; rw [HSP.out] at hn2; have HT2 := Lib.hid (HT.out.grown hg2 HNE.out); have HB2 := Lib.hid hn2; clear hn2)
      | ((with_reducible refine at_dst 25 ?_); refine wpList_load_mid rfl _ _ rfl 0 0 rfl bl.cells _ HT2.out.1 Tryd.underlying51 rfl cl_size ?_)
      | ((with_reducible refine at_store 26 ?_); refine wpList_store_blk rfl _ _ _ rfl rfl b (k * 7) _ (rc (l.set (k + 1) bl)) bl.cells rfl rfl HB2.out (by have := HRL2.out; have := HLS.out; rw [Cl.len]; omega) cl_size bl.one ?_; intro w3 hn3 hg3))
    rw [HSP2.out] at hn3
    exact bodyPost_end (results_none rfl _ _ _) rfl ⟨rfl, hn3, grown_trans hg2 hg3⟩

def putR (l : List Cl) (col : Nat) (s : List UInt8) (m : Nat) (y : Sty) : List Cl :=
  if m = 2 then ((eraseM l col 2).set col ⟨s, 2, y⟩).set (col + 1) (tail_ y) else (eraseM l col 1).set col ⟨s, 1, y⟩
theorem putR_length (l : List Cl) (col : Nat) (s : List UInt8) (m : Nat) (y : Sty) : (putR l col s m y).length = l.length := by
  unfold putR
  split <;> simp [eraseM_length]
theorem Wf.put {l : List Cl} (hl : Wf l) {col m : Nat} {s : List UInt8} {y : Sty} (hm : m = 1 ∨ m = 2) (hc : col + m ≤ l.length) (hs : s ≠ []) (h64 : s.length ≤ 64) : Wf (putR l col s m y) := by
  unfold putR
  rcases hm with rfl | rfl
  · rw [if_neg (by omega)]
    exact (hl.erase col 1).set1 ⟨bl, blankM_self hl (by omega), rfl⟩ rfl hs h64
  · rw [if_pos rfl]
    refine (hl.erase col 2).set2 ?_ ⟨bl, blankM_self (hl.blank col) (by rw [blankM_length]; omega), rfl⟩ hs h64
    have hc1 : (blankM l col)[col + 1]? = some ((blankM l col)[col + 1]'(by rw [blankM_length]; omega)) := List.getElem?_eq_getElem _
    have hself := blankM_self hl (k := col) (by omega)
    show ∃ d, (blankM (blankM l col) (col + 1))[col]? = some d ∧ d.w = 1
    rw [blankM_get (hl.blank col) hc1, if_neg (by omega), if_neg (by omega)]
    split
    · exact ⟨bl, rfl, rfl⟩
    · exact ⟨bl, hself, rfl⟩

theorem sty_size : (Tryd.prog.info? 34).map (·.size) = some 5 := by kernel_rfl
theorem Sty.one (y : Sty) : ∀ v ∈ y.cells, v.oneCell' = true := by
  intro v hv
  simp [Sty.cells] at hv
  rcases hv with rfl | rfl | rfl | rfl | rfl <;> rfl

set_option maxRecDepth 100000 in
set_option maxHeartbeats 4000000 in
theorem put_ok {w : World} {lo g rb W : Nat} {bs : List Nat} {L : List (List Cl)} (h : GrAt w lo g rb bs W L) (hT : BlankT w) (hlo : 0 < lo) (row col m : Nat) (s : List UInt8) (y : Sty) (l : List Cl) (hl : L[row]? = some l) (hm : m = 1 ∨ m = 2) (hc : col + m ≤ W) (hs : s ≠ []) (h64 : s.length ≤ 64) :
    Calls Tryd.prog 13 #[.pointer (some ⟨g, 0, none⟩), .int .i64 row, .int .i64 col, .string ⟨s.toArray⟩, .int .i64 m, .agg y.cells.toArray] w fun e w' => e = .returned (.int .i64 0) ∧
      GrAt w' lo g rb bs W (L.set row (putR l col s m y)) ∧ Chg (GrOwn g rb bs) w w' := by
  have hr : row < L.length := (List.getElem?_eq_some_iff.1 hl).1
  obtain ⟨hlen, hwf⟩ := h.some_at hl
  have hw5 := h.w5
  have hh5 := h.h5
  have HIN := Lib.hid (show inB row col W L.length = true by unfold inB; simp; omega)
  have HIN2 := Lib.hid (show inB row ((col : Int) + m - 1) W L.length = true by unfold inB; simp; omega)
  have hsz : (⟨s.toArray⟩ : ByteArray).size = s.length := by show s.toArray.size = _; simp
  have HSZ := Lib.hid hsz
  have hri : (row : Int) < L.length := by omega
  have H := Lib.hid h
  have HT := Lib.hid hT
  have HL := Lib.hid hl
  have HLEN := Lib.hid hlen
  have HWF := Lib.hid hwf
  clear h hT hl hlen hwf hsz
  have hcb : (col : Int) < 500 := by omega
  have hse : s.isEmpty = false := by cases s with
    | nil => exact absurd rfl hs
    | cons _ _ => rfl
  have hs64 : decide (64 < (s.length : Int)) = false := by simp; omega
  have hbel0 : Below w.heap.size w (w.alloc (.cells y.cells.toArray 34)) := (Below.refl _ _).alloc (Nat.le_refl _) _
  have H0 := Lib.hid (H.out.below hbel0)
  have HY0 := Lib.hid (Blk.new w 34 y.cells)
  have HZ0 := Lib.hid hbel0
  have HSS := Lib.hid hs
  clear hs hbel0
  rcases hm with rfl | rfl
  · have hc1 : (col : Int) + 1 - 1 = (col : Int) := by omega
    go_enter Tryd.func13, Tryd.ntmps13
    go_wp2_with (first
      | (go_at_call 33; refine (made_yes g _ H0.out.ptr).mono ?_; rintro e w' ⟨rfl, rfl⟩))
    refine (has_bel H0.out row col).mono ?_
    rintro e w1 ⟨rfl, hb1⟩
    rw [HIN.out]
    have H1 := Lib.hid (H0.out.below hb1)
    have HB1 := Lib.hid hb1
    clear hb1
    go_wp2_with (fail)
    refine (has_bel H1.out row _).mono ?_
    rintro e w2 ⟨rfl, hb2⟩
    have hi2 := HIN2.out
    simp only [Int.natCast_one, hc1] at hi2
    rw [hi2]
    have H2 := Lib.hid (H1.out.below hb2)
    have HB2 := Lib.hid (HB1.out.trans (hb2.mono HB1.out.size))
    have hs2 := H2.out.rws
    obtain ⟨b, l', hbi, hl', hrv, hlen', hwf', hb⟩ := H2.out.at_ hr
    obtain rfl : l' = l := by have := HL.out; rw [this] at hl'; injection hl' with hl'; exact hl'.symm
    unfold rowV at hrv
    have HB := Lib.hid hb
    have HBI := Lib.hid hbi
    have HT2 := Lib.hid ((HT.out.bel HZ0.out).bel HB2.out)
    have hbne : b ≠ 0 := by have := H2.out.lo b (.inr (.inr (List.mem_of_getElem? hbi))); omega
    have HBN := Lib.hid hbne
    clear hb2 hi2 hl' hlen' hwf' hb hbi hbne
    go_wp2
    go_loopw [59] (fun v59 wr => ∃ k : Nat, v59 = .int .i64 k ∧ k ≤ 1 ∧ Blk wr b 51 (rc (eraseM l' col k)) ∧ Chg (one b) w2 wr) (fun v59 _ => 1 - (intOf v59).toNat)
    case atStart => exact ⟨0, rfl, by omega, HB.out, Chg.refl _ _⟩
    case round =>
      obtain ⟨k, rfl, hk, hbk, hck⟩ := hrel
      have HBK := Lib.hid hbk
      have HCK := Lib.hid hck
      clear hbk hck
      by_cases hlt : k < 1
      · have hlti : (k : Int) < 1 := by omega
        have HTr := Lib.hid (HT2.out.chg HCK.out (fun e => HBN.out e.symm))
        go_wp2_with (fail)
        rw [show (col : Int) + (k : Int) = ((col + k : Nat) : Int) by omega]
        refine (blankAt_any b (eraseM l' col k) W (col + k) (by rw [eraseM_length]; exact HLEN.out) (HWF.out.erase col k) (by omega) (by omega) wr HBK.out HTr.out HBN.out).mono ?_
        rintro e w4 ⟨rfl, hb4, hg4⟩
        rw [← eraseM_snoc] at hb4
        have HB4 := Lib.hid hb4
        have HG4 := Lib.hid hg4
        clear hb4 hg4
        go_wp2
        go_roundw
        case rel => exact ⟨k + 1, by go_num, by omega, HB4.out, HCK.out.trans (chg_of_grown HG4.out) (fun _ h => .inl h)⟩
        case measure => simp [intOf]; omega
      · have hlti : ¬ (k : Int) < 1 := by omega
        obtain rfl : k = 1 := by omega
        have hYr : Blk wr w.heap.size 34 y.cells := ((HY0.out.below HB2.out (by simp)).chg HCK.out (fun e => by have := H0.out.own_lt b (.inr (.inr (List.mem_of_getElem? HBI.out))); have e' : w.heap.size = b := e; have := H.out.own_lt b (.inr (.inr (List.mem_of_getElem? HBI.out))); omega))
        have HYR := Lib.hid hYr
        have hel : (eraseM l' col 1).length = W := by rw [eraseM_length]; exact HLEN.out
        have HEL := Lib.hid hel
        have hrl := rc_length (eraseM l' col 1)
        rw [hel] at hrl
        have HRL := Lib.hid hrl
        have hci : (col : Int) < W := by omega
        clear hYr hel hrl
        have hsp : splice (rc (eraseM l' col 1)) (col * 7) (Cl.mk s 1 y).cells = rc (putR l' col s 1 y) := by unfold putR; rw [if_neg (by omega)]; exact rc_splice _ _ _ (by rw [HEL.out]; omega)
        have HSP := Lib.hid hsp
        clear hsp
        go_wp2_with (first
          | ((with_reducible refine at_dst 72 ?_); refine wpList_load_mid rfl _ _ rfl w.heap.size 0 rfl [.bool y.b, .bool y.u, .bool y.i, .int .i64 y.f, .int .i64 y.g] _ (HYR.out.range 0 y.cells (fun j v hv => by simpa using hv)) Tryd.underlying34 rfl sty_size ?_)
          | ((with_reducible refine at_store 74 ?_); refine wpList_store_blk rfl _ _ _ rfl rfl b (col * 7) _ (rc (eraseM l' col 1)) (Cl.mk s 1 y).cells rfl rfl HBK.out (by have := HRL.out; rw [Cl.len]; omega) cl_size (Cl.one _) ?_; intro w5 hn5 hg5))
        go_ret
        rw [HSP.out] at hn5
        have hch : Chg (one b) w2 w5 := HCK.out.trans (chg_of_grown hg5) (fun _ h => .inl h)
        refine ⟨rfl, H2.out.set HBI.out hch (by rw [putR_length]; exact HLEN.out) (HWF.out.put (by omega) (by rw [HLEN.out]; omega) HSS.out h64) hn5, ?_⟩
        exact (Chg.of_below (S := GrOwn g rb bs) HZ0.out).trans ((Chg.of_below (S := GrOwn g rb bs) HB2.out).trans hch (fun j e => .inl (by have e' : j = b := e; subst e'; exact .inr (.inr (List.mem_of_getElem? HBI.out))))) (fun _ h => .inl h)
  · have hc1 : (col : Int) + 2 - 1 = (col : Int) + 1 := by omega
    go_enter Tryd.func13, Tryd.ntmps13
    go_wp2_with (first
      | (go_at_call 33; refine (made_yes g _ H0.out.ptr).mono ?_; rintro e w' ⟨rfl, rfl⟩))
    refine (has_bel H0.out row col).mono ?_
    rintro e w1 ⟨rfl, hb1⟩
    rw [HIN.out]
    have H1 := Lib.hid (H0.out.below hb1)
    have HB1 := Lib.hid hb1
    clear hb1
    go_wp2_with (fail)
    refine (has_bel H1.out row _).mono ?_
    rintro e w2 ⟨rfl, hb2⟩
    have hi2 := HIN2.out
    simp only [Int.cast_ofNat_Int, hc1] at hi2
    rw [hi2]
    have H2 := Lib.hid (H1.out.below hb2)
    have HB2 := Lib.hid (HB1.out.trans (hb2.mono HB1.out.size))
    have hs2 := H2.out.rws
    obtain ⟨b, l', hbi, hl', hrv, hlen', hwf', hb⟩ := H2.out.at_ hr
    obtain rfl : l' = l := by have := HL.out; rw [this] at hl'; injection hl' with hl'; exact hl'.symm
    unfold rowV at hrv
    have HB := Lib.hid hb
    have HBI := Lib.hid hbi
    have HT2 := Lib.hid ((HT.out.bel HZ0.out).bel HB2.out)
    have hbne : b ≠ 0 := by have := H2.out.lo b (.inr (.inr (List.mem_of_getElem? hbi))); omega
    have HBN := Lib.hid hbne
    clear hb2 hi2 hl' hlen' hwf' hb hbi hbne
    go_wp2
    go_loopw [59] (fun v59 wr => ∃ k : Nat, v59 = .int .i64 k ∧ k ≤ 2 ∧ Blk wr b 51 (rc (eraseM l' col k)) ∧ Chg (one b) w2 wr) (fun v59 _ => 2 - (intOf v59).toNat)
    case atStart => exact ⟨0, rfl, by omega, HB.out, Chg.refl _ _⟩
    case round =>
      obtain ⟨k, rfl, hk, hbk, hck⟩ := hrel
      have HBK := Lib.hid hbk
      have HCK := Lib.hid hck
      clear hbk hck
      by_cases hlt : k < 2
      · have hlti : (k : Int) < 2 := by omega
        have HTr := Lib.hid (HT2.out.chg HCK.out (fun e => HBN.out e.symm))
        go_wp2_with (fail)
        rw [show (col : Int) + (k : Int) = ((col + k : Nat) : Int) by omega]
        refine (blankAt_any b (eraseM l' col k) W (col + k) (by rw [eraseM_length]; exact HLEN.out) (HWF.out.erase col k) (by omega) (by omega) wr HBK.out HTr.out HBN.out).mono ?_
        rintro e w4 ⟨rfl, hb4, hg4⟩
        rw [← eraseM_snoc] at hb4
        have HB4 := Lib.hid hb4
        have HG4 := Lib.hid hg4
        clear hb4 hg4
        go_wp2
        go_roundw
        case rel => exact ⟨k + 1, by go_num, by omega, HB4.out, HCK.out.trans (chg_of_grown HG4.out) (fun _ h => .inl h)⟩
        case measure => simp [intOf]; omega
      · have hlti : ¬ (k : Int) < 2 := by omega
        obtain rfl : k = 2 := by omega
        have hYr : Blk wr w.heap.size 34 y.cells := ((HY0.out.below HB2.out (by simp)).chg HCK.out (fun e => by have := H0.out.own_lt b (.inr (.inr (List.mem_of_getElem? HBI.out))); have e' : w.heap.size = b := e; have := H.out.own_lt b (.inr (.inr (List.mem_of_getElem? HBI.out))); omega))
        have HYR := Lib.hid hYr
        have hel : (eraseM l' col 2).length = W := by rw [eraseM_length]; exact HLEN.out
        have HEL := Lib.hid hel
        have hrl := rc_length (eraseM l' col 2)
        rw [hel] at hrl
        have HRL := Lib.hid hrl
        have hci : (col : Int) < W := by omega
        clear hYr hel hrl
        have hsp : splice (rc (eraseM l' col 2)) (col * 7) (Cl.mk s 2 y).cells = rc ((eraseM l' col 2).set col ⟨s, 2, y⟩) := rc_splice _ _ _ (by rw [HEL.out]; omega)
        have hsp2 : splice (rc ((eraseM l' col 2).set col ⟨s, 2, y⟩)) ((col + 1) * 7) (tail_ y).cells = rc (putR l' col s 2 y) := by unfold putR; rw [if_pos rfl]; exact rc_splice _ _ _ (by rw [List.length_set, HEL.out]; omega)
        have HSP := Lib.hid hsp
        have HSP2 := Lib.hid hsp2
        have hrl2 := rc_length ((eraseM l' col 2).set col ⟨s, 2, y⟩)
        rw [List.length_set, HEL.out] at hrl2
        have HRL2 := Lib.hid hrl2
        have hc1i : (col : Int) + 1 < W := by omega
        have hyb : b ≠ w.heap.size := fun e => by have := H.out.own_lt b (.inr (.inr (List.mem_of_getElem? HBI.out))); omega
        have HYB := Lib.hid hyb
        clear hsp hsp2 hrl2 hyb
        go_wp2_with (first
          | ((with_reducible refine at_dst 72 ?_); refine wpList_load_mid rfl _ _ rfl w.heap.size 0 rfl [.bool y.b, .bool y.u, .bool y.i, .int .i64 y.f, .int .i64 y.g] _ (HYR.out.range 0 y.cells (fun j v hv => by simpa using hv)) Tryd.underlying34 rfl sty_size ?_)
          | ((with_reducible refine at_store 74 ?_); refine wpList_store_blk rfl _ _ _ rfl rfl b (col * 7) _ (rc (eraseM l' col 2)) (Cl.mk s 2 y).cells rfl rfl HBK.out (by have := HRL.out; rw [Cl.len]; omega) cl_size (Cl.one _) ?_; intro w4 hn4 hg4; rw [HSP.out] at hn4; have HN4 := Lib.hid hn4; have HY4 := Lib.hid (HYR.out.chg (chg_of_grown hg4) (fun e => HYB.out e.symm)); clear hn4)
          | ((with_reducible refine at_dst 80 ?_); refine wpList_load_mid rfl _ _ rfl w.heap.size 0 rfl [.bool y.b, .bool y.u, .bool y.i, .int .i64 y.f, .int .i64 y.g] _ (HY4.out.range 0 y.cells (fun j v hv => by simpa using hv)) Tryd.underlying34 rfl sty_size ?_)
          | ((with_reducible refine at_store 82 ?_); refine wpList_store_blk rfl _ _ _ rfl rfl b ((col + 1) * 7) _ (rc ((eraseM l' col 2).set col ⟨s, 2, y⟩)) (tail_ y).cells rfl rfl HN4.out (by have := HRL2.out; rw [Cl.len]; omega) cl_size (Cl.one _) ?_; intro w5 hn5 hg5'; have hg5 := grown_trans hg4 hg5'))
        go_ret
        rw [HSP2.out] at hn5
        have hch : Chg (one b) w2 w5 := HCK.out.trans (chg_of_grown hg5) (fun _ h => .inl h)
        refine ⟨rfl, H2.out.set HBI.out hch (by rw [putR_length]; exact HLEN.out) (HWF.out.put (by omega) (by rw [HLEN.out]; omega) HSS.out h64) hn5, ?_⟩
        exact (Chg.of_below (S := GrOwn g rb bs) HZ0.out).trans ((Chg.of_below (S := GrOwn g rb bs) HB2.out).trans hch (fun j e => .inl (by have e' : j = b := e; subst e'; exact .inr (.inr (List.mem_of_getElem? HBI.out))))) (fun _ h => .inl h)

/-- what Put comes to -/
def putM (W : Nat) (L : List (List Cl)) (row col : Int) (s : List UInt8) (m : Int) (y : Sty) : List (List Cl) × Int :=
  if s = [] ∨ 64 < s.length ∨ (m ≠ 1 ∧ m ≠ 2) then (L, 1)
  else if inB row col W L.length = false ∨ inB row (col + m - 1) W L.length = false then (L, 5)
  else (L.set row.toNat (putR (L.getD row.toNat []) col.toNat s m.toNat y), 0)

set_option maxRecDepth 100000 in
set_option maxHeartbeats 1000000 in
theorem put_not {w : World} {p : Option Addr} (h : GrNo w p) (row col : Int) (s : ByteArray) (m : Int) (y : Sty) :
    Calls Tryd.prog 13 #[.pointer p, .int .i64 row, .int .i64 col, .string s, .int .i64 m, .agg y.cells.toArray] w fun e w' => e = .returned (.int .i64 4) ∧ Below w.heap.size w w' := by
  have H := Lib.hid (h.below ((Below.refl _ _).alloc (Nat.le_refl _) (.cells y.cells.toArray 34)))
  clear h
  go_enter Tryd.func13, Tryd.ntmps13
  go_wp2_with (go_at_call 33; refine (made_not H.out).mono ?_; rintro e w' ⟨rfl, rfl⟩)
  go_ret
  exact ⟨rfl, (Below.refl _ _).alloc (Nat.le_refl _) _⟩

set_option maxRecDepth 100000 in
set_option maxHeartbeats 4000000 in
theorem put_arg {w : World} (g : Nat) (hp : w.cell? ⟨g, 0, none⟩ = some (.pointer (some ⟨g, 0, none⟩))) (row col : Int) (s : List UInt8) (m : Int) (y : Sty) (hs : s.length ≤ 1000000) (hbad : s = [] ∨ 64 < s.length ∨ (m ≠ 1 ∧ m ≠ 2)) :
    Calls Tryd.prog 13 #[.pointer (some ⟨g, 0, none⟩), .int .i64 row, .int .i64 col, .string ⟨s.toArray⟩, .int .i64 m, .agg y.cells.toArray] w fun e w' => e = .returned (.int .i64 1) ∧ Below w.heap.size w w' := by
  have hp' := Lib.hid ((((Below.refl _ _).alloc (Nat.le_refl _) (.cells y.cells.toArray 34)).cell (p := ⟨g, 0, none⟩) (World.block_lt_of_cell? w _ hp)).trans hp)
  clear hp
  have hsz : (⟨s.toArray⟩ : ByteArray).size = s.length := by show s.toArray.size = _; simp
  have HSZ := Lib.hid hsz
  clear hsz
  by_cases h1 : s = []
  · subst h1
    go_enter Tryd.func13, Tryd.ntmps13
    go_wp2_with (go_at_call 33; refine (made_yes g _ hp'.out).mono ?_; rintro e w' ⟨rfl, rfl⟩)
    all_goals
      go_ret
      exact ⟨rfl, (Below.refl _ _).alloc (Nat.le_refl _) _⟩
  · have hse : s.isEmpty = false := by cases s with
      | nil => exact absurd rfl h1
      | cons _ _ => rfl
    by_cases h2 : 64 < s.length
    · have h64 : decide (64 < (s.length : Int)) = true := by simp; omega
      clear h1 hbad h2
      go_enter Tryd.func13, Tryd.ntmps13
      go_wp2_with (go_at_call 33; refine (made_yes g _ hp'.out).mono ?_; rintro e w' ⟨rfl, rfl⟩)
      all_goals
        go_ret
        exact ⟨rfl, (Below.refl _ _).alloc (Nat.le_refl _) _⟩
    · have h64 : decide (64 < (s.length : Int)) = false := by simp; omega
      obtain ⟨hm1, hm2⟩ : m ≠ 1 ∧ m ≠ 2 := by
        rcases hbad with h | h | h
        · exact absurd h h1
        · exact absurd h h2
        · exact h
      have hm1' : (m != 1) = true := by simp [hm1]
      have hm2' : (m != 2) = true := by simp [hm2]
      clear h1 hbad h2 hm1 hm2
      go_enter Tryd.func13, Tryd.ntmps13
      go_wp2_with (go_at_call 33; refine (made_yes g _ hp'.out).mono ?_; rintro e w' ⟨rfl, rfl⟩)
      all_goals
        go_ret
        exact ⟨rfl, (Below.refl _ _).alloc (Nat.le_refl _) _⟩

set_option maxRecDepth 100000 in
set_option maxHeartbeats 4000000 in
theorem put_range {w : World} {lo g rb W : Nat} {bs : List Nat} {L : List (List Cl)} (h : GrAt w lo g rb bs W L) (row col : Int) (s : List UInt8) (m : Int) (y : Sty) (hs : s ≠ []) (h64 : s.length ≤ 64) (hm : m = 1 ∨ m = 2)
    (hbad : inB row col W L.length = false ∨ inB row (col + m - 1) W L.length = false) :
    Calls Tryd.prog 13 #[.pointer (some ⟨g, 0, none⟩), .int .i64 row, .int .i64 col, .string ⟨s.toArray⟩, .int .i64 m, .agg y.cells.toArray] w fun e w' => e = .returned (.int .i64 5) ∧ Below w.heap.size w w' := by
  have hsz : (⟨s.toArray⟩ : ByteArray).size = s.length := by show s.toArray.size = _; simp
  have HSZ := Lib.hid hsz
  have hse : s.isEmpty = false := by cases s with
    | nil => exact absurd rfl hs
    | cons _ _ => rfl
  have hs64 : decide (64 < (s.length : Int)) = false := by simp; omega
  have hbel0 : Below w.heap.size w (w.alloc (.cells y.cells.toArray 34)) := (Below.refl _ _).alloc (Nat.le_refl _) _
  have H0 := Lib.hid (h.below hbel0)
  have HZ0 := Lib.hid hbel0
  have hw5 := h.w5
  clear hs hbel0 hsz h
  by_cases hin : inB row col W L.length = false
  · have HIN := Lib.hid hin
    clear hin hbad
    rcases hm with rfl | rfl
    all_goals
      go_enter Tryd.func13, Tryd.ntmps13
      go_wp2_with (first
        | (go_at_call 33; refine (made_yes g _ H0.out.ptr).mono ?_; rintro e w' ⟨rfl, rfl⟩)
        | (go_at_call 35; refine (has_bel H0.out row col).mono ?_; rintro e w1 ⟨rfl, hb1⟩; rw [HIN.out]))
      go_ret
      exact ⟨rfl, HZ0.out.trans (hb1.mono HZ0.out.size)⟩
  · have hin1 : inB row col W L.length = true := by simpa using hin
    have hin2 : inB row (col + m - 1) W L.length = false := hbad.resolve_left hin
    obtain ⟨h0, h1, h2, h3⟩ : 0 ≤ row ∧ row < L.length ∧ 0 ≤ col ∧ col < W := by simpa [inB] using hin1
    have hcb : col < 500 := by omega
    have HIN := Lib.hid hin1
    have HIN2 := Lib.hid hin2
    clear hin hin1 hin2 hbad
    rcases hm with rfl | rfl
    all_goals
      go_enter Tryd.func13, Tryd.ntmps13
      go_wp2_with (go_at_call 33; refine (made_yes g _ H0.out.ptr).mono ?_; rintro e w' ⟨rfl, rfl⟩)
      refine (has_bel H0.out row col).mono ?_
      rintro e w1 ⟨rfl, hb1⟩
      rw [HIN.out]
      go_wp2_with (fail)
      refine (has_bel (H0.out.below hb1) row _).mono ?_
      rintro e w2 ⟨rfl, hb2⟩
      have hi2 := HIN2.out
      first | rw [hi2] | (simp only [show col + 1 - 1 = col by omega, show col + 2 - 1 = col + 1 by omega] at hi2; rw [hi2])
      go_wp2
      go_ret
      exact ⟨rfl, HZ0.out.trans ((hb1.trans (hb2.mono hb1.size)).mono HZ0.out.size)⟩

theorem put_any {w : World} {lo g rb W : Nat} {bs : List Nat} {L : List (List Cl)} (h : GrAt w lo g rb bs W L) (hT : BlankT w) (hlo : 0 < lo) (row col : Int) (s : List UInt8) (m : Int) (y : Sty) (hs : s.length ≤ 1000000) :
    Calls Tryd.prog 13 #[.pointer (some ⟨g, 0, none⟩), .int .i64 row, .int .i64 col, .string ⟨s.toArray⟩, .int .i64 m, .agg y.cells.toArray] w fun e w' => e = .returned (.int .i64 (putM W L row col s m y).2) ∧
      GrAt w' lo g rb bs W (putM W L row col s m y).1 ∧ Chg (GrOwn g rb bs) w w' := by
  unfold putM
  by_cases h1 : s = [] ∨ 64 < s.length ∨ (m ≠ 1 ∧ m ≠ 2)
  · rw [if_pos h1]
    exact (put_arg g h.ptr row col s m y hs h1).mono fun e w' ⟨he, hb⟩ => ⟨he, h.below hb, Chg.of_below hb⟩
  · rw [if_neg h1]
    have hs0 : s ≠ [] := fun e => h1 (.inl e)
    have hs64 : s.length ≤ 64 := by
      rcases Nat.lt_or_ge 64 s.length with h' | h'
      · exact absurd (.inr (.inl h')) h1
      · exact h'
    have hm : m = 1 ∨ m = 2 := by
      by_cases a : m = 1
      · exact .inl a
      · by_cases b : m = 2
        · exact .inr b
        · exact absurd (.inr (.inr ⟨a, b⟩)) h1
    by_cases h2 : inB row col W L.length = false ∨ inB row (col + m - 1) W L.length = false
    · rw [if_pos h2]
      exact (put_range h row col s m y hs0 hs64 hm h2).mono fun e w' ⟨he, hb⟩ => ⟨he, h.below hb, Chg.of_below hb⟩
    · rw [if_neg h2]
      have a : inB row col W L.length = true := by simpa using fun e => h2 (.inl e)
      have b : inB row (col + m - 1) W L.length = true := by simpa using fun e => h2 (.inr e)
      obtain ⟨a0, a1, a2, a3⟩ : 0 ≤ row ∧ row < L.length ∧ 0 ≤ col ∧ col < W := by simpa [inB] using a
      obtain ⟨b0, b1, b2, b3⟩ : 0 ≤ row ∧ row < L.length ∧ 0 ≤ col + m - 1 ∧ col + m - 1 < W := by simpa [inB] using b
      obtain ⟨r, rfl⟩ := Int.eq_ofNat_of_zero_le a0
      obtain ⟨c, rfl⟩ := Int.eq_ofNat_of_zero_le a2
      obtain ⟨n, rfl⟩ := Int.eq_ofNat_of_zero_le (show 0 ≤ m by omega)
      have hl : L[r]? = some (L.getD r []) := by
        rw [List.getElem?_eq_getElem (by omega), List.getD_eq_getElem?_getD, List.getElem?_eq_getElem (by omega)]
        rfl
      exact put_ok h hT hlo r c n s y _ hl (by omega) (by omega) hs0 hs64
end Go.Proofs.YtijbimofigkdkaaDoor
