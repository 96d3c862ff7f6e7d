/-
  Walk: the reference's Join.
-/
import Derived.Test.YtijbimofigkdkaaDoorRfErase
namespace Go.Proofs.YtijbimofigkdkaaDoor
open Go.RowKit
set_option linter.unusedVariables false
set_option linter.unusedSimpArgs false

set_option maxRecDepth 100000 in
set_option maxHeartbeats 4000000 in
theorem rjoin_no {w : World} {W n : Nat} {A : Option Addr} {c : Nat} (row col : Int) (s : ByteArray) (hbad : inB row col W n = false) :
    Calls Tryd.prog 37 #[.agg #[.int .i64 W, .int .i64 n, .slice A n c], .int .i64 row, .int .i64 col, .string s] w fun e w' => e = .returned (.tuple #[.agg (rgC W n A c).toArray, .bool false, .int .i64 5]) ∧ Below w.heap.size w w' := by
  obtain ⟨hb0, h1, h2⟩ := erW0_is w W n A c
  have hW0 : erW0 w W n A c = (w.alloc (.cells #[.int .i64 W, .int .i64 n, .slice A n c] 29)).alloc (.cells #[.int .i64 0, .int .i64 0, .slice none 0 0] 29) := rfl
  generalize erW0 w W n A c = W0 at hb0 h1 h2 hW0
  have HB0 := Lib.hid hb0
  have H1 := Lib.hid h1
  have H2 := Lib.hid h2
  have HIN := Lib.hid hbad
  clear hb0 h1 h2 hbad
  go_enter Tryd.func37, Tryd.ntmps37
  go_wp2_with (fail)
  rw [← hW0]
  clear hW0
  refine (rthere_any W n A n c row col W0).mono ?_
  rintro e w1 ⟨rfl, hb1⟩
  rw [HIN.out]
  obtain ⟨f0, f1, f2⟩ := blk3 (H1.out.below hb1 H1.out.lt)
  have H2' := Lib.hid (H2.out.below hb1 H2.out.lt)
  have HB1 := Lib.hid (HB0.out.trans (hb1.mono HB0.out.size))
  clear hb1
  go_wp2_with ((with_reducible refine at_store 8 ?_); refine wpList_store_blk rfl _ _ _ rfl rfl (w.heap.size + 1) 0 _ (rgC 0 0 none 0) (rgC W n A c) rfl rfl H2'.out (by simp [rgC]) rg_size (rgC_one _ _ _ _) ?_; intro w2 hn2 hg2; have hn2' : Blk w2 (w.heap.size + 1) 29 (rgC W n A c) := hn2)
  exact bodyPost_ret (results_ctt rfl rfl rfl rfl hn2'.whole Tryd.underlying29 rfl rg_size) rfl ⟨rfl, HB1.out.grown hg2 HB1.out.size (fun j hj => by injection hj with hj; omega)⟩

set_option maxRecDepth 100000 in
set_option maxHeartbeats 16000000 in
theorem rjoin_ok {w : World} {D : Nat → Prop} {A : Option Addr} {c W : Nat} {L : List (List Cl)} (h : RfAt w D A c L) (hq : Rws W L) (row col : Nat) (s : List UInt8) (hs : s.length ≤ 1000000) (l : List Cl) (hl : L[row]? = some l) (hc : col < W) :
    Calls Tryd.prog 37 #[.agg #[.int .i64 W, .int .i64 L.length, .slice A L.length c], .int .i64 row, .int .i64 col, .string ⟨s.toArray⟩] w fun e w' => ∃ V, e = .returned (.tuple #[V, .bool (joinR l col s).2, .int .i64 0]) ∧ RfV w' (fun b => D b ∨ w.heap.size ≤ b) V W (L.set row (joinR l col s).1) ∧ Below w.heap.size w w' := by
  have hr : row < L.length := (List.getElem?_eq_some_iff.1 hl).1
  have hri : (row : Int) < L.length := by omega
  obtain ⟨hlen, hwf⟩ := hq.wd row l hl
  have hw5 := hq.w5
  have hh5 := hq.h5
  have hin1 : inB row col W L.length = true := by unfold inB; simp; omega
  obtain ⟨x, hkc, hcw⟩ := joinK_get hwf (col := col) (by omega)
  have hJ : joinR l col s = if 64 < x.s.length + s.length then (l, false) else (l.set (joinK l col) { x with s := x.s ++ s }, true) := by unfold joinR; rw [hkc]
  have hcol : l[col]? = some (l[col]'(by omega)) := List.getElem?_eq_getElem (by omega)
  have hK : joinK l col = if (l[col]'(by omega)).w = 0 then col - 1 else col := by unfold joinK; rw [hcol]
  have htail := fun h0 => hwf.tail col _ hcol h0
  generalize l[col]'(by omega) = d at hcol hK htail
  have hc64 := hwf.short _ _ hkc
  obtain ⟨kk, hkk⟩ : ∃ kk, joinK l col = kk := ⟨_, rfl⟩
  rw [hkk] at hJ hK hkc
  have hkl : kk < W := by have := (List.getElem?_eq_some_iff.1 hkc).1; omega
  have hcase : (d.w = 0 ∧ col = kk + 1) ∨ (d.w ≠ 0 ∧ col = kk) := by
    by_cases h0 : d.w = 0
    · obtain ⟨j, e, hj, _, _⟩ := htail h0
      rw [if_pos h0] at hK
      exact .inl ⟨h0, by omega⟩
    · rw [if_neg h0] at hK
      exact .inr ⟨h0, by omega⟩
  have hset0 : L.set row l = L := by
    rw [List.getElem?_eq_getElem hr] at hl
    injection hl with hl
    rw [← hl]
    exact List.set_getElem_self hr
  obtain ⟨hb0, h1, h2⟩ := erW0_is w W L.length A c
  have hW0 : erW0 w W L.length A c = (w.alloc (.cells #[.int .i64 W, .int .i64 L.length, .slice A L.length c] 29)).alloc (.cells #[.int .i64 0, .int .i64 0, .slice none 0 0] 29) := rfl
  generalize erW0 w W L.length A c = W0 at hb0 h1 h2 hW0
  have hd1 := h.mono (D' := fun b => (D b ∧ b < w.heap.size) ∨ w.heap.size + 2 ≤ b) (fun b hb h => .inl ⟨h, hb⟩)
  obtain ⟨b, off, Ai, ci, rfl, hlat⟩ := hd1.row_later hl
  have HLAT := Lib.hid hlat
  have HB0 := Lib.hid hb0
  have H1 := Lib.hid h1
  have H2 := Lib.hid h2
  have HW0 := Lib.hid hW0
  have HR := Lib.hid hd1
  have HLEN := Lib.hid hlen
  have HIN := Lib.hid hin1
  have HKC := Lib.hid hkc
  have HKK : Hid (joinK l col = kk) := hkk
  have HCL := Lib.hid hcol
  have HSET0 := Lib.hid hset0
  obtain ⟨R, hRJ⟩ : ∃ R, joinR l col s = R := ⟨_, rfl⟩
  rw [hRJ] at hJ ⊢
  have HJ := Lib.hid hJ
  obtain ⟨n, hn⟩ : ∃ n, n = L.length := ⟨_, rfl⟩
  have HN := Lib.hid hn
  have hcl : col < l.length := by omega
  have hkl2 : kk < l.length := by omega
  have hl5 : l.length ≤ 500 := by omega
  rw [← hn] at hr hri hh5 H1 HW0 HIN ⊢
  have pre : ∀ w1, Below W0.heap.size W0 w1 → Blk w1 w.heap.size 29 (rgC W n (some ⟨b, off, none⟩) c) ∧ Blk w1 (w.heap.size + 1) 29 (rgC 0 0 none 0) ∧ Below w.heap.size w w1 := fun w1 hb => by
    refine ⟨?_, H2.out.below hb H2.out.lt, HB0.out.trans (hb.mono HB0.out.size)⟩
    exact H1.out.below hb H1.out.lt
  have PRE := Lib.hid pre
  have HWS := Lib.hid H2.out.lt
  clear hb0 h1 h2 hW0 h hl hlat hn hq hlen hwf hin1 hkc hJ hcol hK htail hkk hset0 hd1 pre H1 H2 HB0 hcw hRJ
  -- to the row's cells, behind There
  have rowc : ∀ w1, Below W0.heap.size W0 w1 → ∃ bi oi, w1.cell? ⟨b, off + row, none⟩ = some (.slice (some ⟨bi, oi, none⟩) l.length ci) ∧ w1.cell? ⟨bi, oi + col * 7 + 1, none⟩ = some (.int .i64 d.w) ∧ w1.rangeAt bi (oi + kk * 7) x.cells ∧ RowD w1 (fun b => (D b ∧ b < w.heap.size) ∨ w.heap.size + 2 ≤ b) (.slice (some ⟨bi, oi, none⟩) l.length ci) l := fun w1 hb1 => by
    obtain ⟨hcr, hrow⟩ := HLAT.out w1 (PRE.out w1 hb1).2.2
    have hrow' := hrow
    obtain ⟨A1, c1, e3, hnil, hs⟩ := hrow'
    injection e3 with e3 e4 e5
    subst e3 e5
    obtain ⟨bi, oi, rfl, hbi, _, hcx⟩ := hs.open_ (by rw [rc_length]; omega)
    refine ⟨bi, oi, hcr, ?_, fun j v hv => ?_, hrow⟩
    · rw [Nat.add_assoc]; exact hcx _ _ (rc_get HCL.out (j := 1) rfl)
    · rw [Nat.add_assoc]; exact hcx _ v (rc_get HKC.out hv)
  have ROWC := Lib.hid rowc
  clear rowc HLAT HCL
  rcases hcase with ⟨h0, hcc⟩ | ⟨h0, hcc⟩
  · have e0' : (d.w == 0) = true := by simp [h0]
    have hpos : 0 < (col : Int) := by omega
    have hjj : (col : Int) - 1 = (kk : Int) := by omega
    have hkki : (kk : Int) < l.length := by omega
    have hcli : (col : Int) < l.length := by omega
    clear h0 hcc
    go_enter Tryd.func37, Tryd.ntmps37
    go_wp2_with (fail)
    rw [← HW0.out]
    refine (rthere_any W n _ n c row col W0).mono ?_
    rintro e w1 ⟨rfl, hb1⟩
    rw [HIN.out]
    obtain ⟨h1, h2, hbw⟩ := PRE.out w1 hb1
    obtain ⟨f0, f1, f2⟩ := blk3 h1
    obtain ⟨bi, oi, hcr, hcd, hrx, hrow⟩ := ROWC.out w1 hb1
    have HRX := Lib.hid hrx
    have HROW := Lib.hid hrow
    have HB1 := Lib.hid hb1
    have HN1 := Lib.hid (Blk.new w1 51 czero.cells)
    clear h1 h2 hbw hrx hrow hb1
    have hszs : (⟨s.toArray⟩ : ByteArray).size = s.length := by show s.toArray.size = _; simp
    have hszx : (⟨x.s.toArray⟩ : ByteArray).size = x.s.length := by show x.s.toArray.size = _; simp
    have HSZS := Lib.hid hszs
    have HSZX := Lib.hid hszx
    clear hszs hszx
    by_cases h64 : 64 < x.s.length + s.length
    · have hJ := HJ.out
      rw [if_pos h64] at hJ
      have HR1 := Lib.hid hJ
      have h64i : (64 : Int) < (x.s.length : Int) + (s.length : Int) := by omega
      clear hJ h64
      by_cases hs64 : 64 < s.length
      all_goals
        first
          | (have hd64 : decide (64 < (s.length : Int)) = true := (by simp; omega); clear hs64)
          | (have hd64 : decide (64 < (s.length : Int)) = false := (by simp; omega); clear hs64)
        go_wp2_with (first
          | ((with_reducible refine at_dst 40 ?_); refine wpList_load_mid rfl _ _ rfl bi (oi + kk * 7) rfl x.cells _ HRX.out Tryd.underlying51 rfl cl_size ?_)
          | ((with_reducible refine at_store 12 ?_); refine wpList_store_blk rfl _ _ _ rfl rfl w1.heap.size 0 _ czero.cells x.cells rfl rfl HN1.out (by simp [Cl.len]) cl_size x.one ?_; intro w2 hn2 hg2; have hn2' : Blk w2 w1.heap.size 51 x.cells := hn2; have q0 : w2.cell? ⟨w1.heap.size, 0, none⟩ = some (.string ⟨x.s.toArray⟩) := hn2'.cell 0; have hb2 : Below w1.heap.size w1 w2 := ((Below.refl _ _).alloc (Nat.le_refl _) _).grown hg2 (by simp) (fun j hj => by injection hj with hj; omega); have HB2 := Lib.hid (HB1.out.trans (hb2.mono HB1.out.size)); obtain ⟨k1, k2, hbw2⟩ := PRE.out w2 HB2.out; obtain ⟨g0, g1, g2⟩ := blk3 k1; have H22 := Lib.hid k2; have HBW2 := Lib.hid hbw2; clear hn2 hn2' hg2 hb2 k1 k2 hbw2)
          | ((with_reducible refine at_store 8 ?_); refine wpList_store_blk rfl _ _ _ rfl rfl (w.heap.size + 1) 0 _ (rgC 0 0 none 0) (rgC W n (some ⟨b, off, none⟩) c) rfl rfl H22.out (by simp [rgC]) rg_size (rgC_one _ _ _ _) ?_; intro w6 hn6 hg6; have hn6' : Blk w6 (w.heap.size + 1) 29 (rgC W n (some ⟨b, off, none⟩) c) := hn6))
        have hv := (HR.out.below HBW2.out).v (W := W)
        rw [← HN.out] at hv
        obtain rfl := HR1.out
        rw [HSET0.out]
        exact bodyPost_ret (results_ctt rfl rfl rfl rfl hn6'.whole Tryd.underlying29 rfl rg_size) rfl ⟨_, rfl, grid_fin1 HBW2.out hv (chg_of_grown hg6)⟩
    · have hJ := HJ.out
      rw [if_neg h64] at hJ
      have HR1 := Lib.hid hJ
      have hd64 : decide (64 < (s.length : Int)) = false := by simp; omega
      have h64i : ¬ (64 : Int) < (x.s.length : Int) + (s.length : Int) := by omega
      have hst : ∀ w, (Op.stringOp .add ⟨x.s.toArray⟩ ⟨s.toArray⟩).run Tryd.prog w = .ok (.string ⟨(x.s ++ s).toArray⟩) w := fun w => by
        rw [run_string_add_sum w _ _ (by have := HSZS.out; have := HSZX.out; omega)]
        have : (⟨x.s.toArray⟩ : ByteArray) ++ ⟨s.toArray⟩ = ⟨(x.s ++ s).toArray⟩ := by apply ByteArray.ext; simp [ByteArray.data_append]
        rw [this]
      clear hJ h64
      go_upto_region 10 with (first
        | ((with_reducible refine at_dst 40 ?_); refine wpList_load_mid rfl _ _ rfl bi (oi + kk * 7) rfl x.cells _ HRX.out Tryd.underlying51 rfl cl_size ?_)
        | ((with_reducible refine at_store 12 ?_); refine wpList_store_blk rfl _ _ _ rfl rfl w1.heap.size 0 _ czero.cells x.cells rfl rfl HN1.out (by simp [Cl.len]) cl_size x.one ?_; intro w2 hn2 hg2; have hn2' : Blk w2 w1.heap.size 51 x.cells := hn2; have q0 : w2.cell? ⟨w1.heap.size, 0, none⟩ = some (.string ⟨x.s.toArray⟩) := hn2'.cell 0; have hb2 : Below w1.heap.size w1 w2 := ((Below.refl _ _).alloc (Nat.le_refl _) _).grown hg2 (by simp) (fun j hj => by injection hj with hj; omega); have HB2 := Lib.hid (HB1.out.trans (hb2.mono HB1.out.size)); have HX2 := Lib.hid hn2'; have HBX2 := Lib.hid hb2; clear hn2 hn2' hg2 hb2)
        | ((with_reducible refine at_store 58 ?_); refine wpList_store_cell rfl _ _ _ rfl rfl w1.heap.size 0 _ x.cells (.string ⟨(x.s ++ s).toArray⟩) rfl rfl HX2.out (by simp [Cl.len]) (by kernel_rfl) rfl ?_; intro w3 hn3 hg3; have hn3' : Blk w3 w1.heap.size 51 (Cl.cells { x with s := x.s ++ s }) := hn3; have hb3 : Below W0.heap.size w2 w3 := (Below.refl _ _).grown hg3 HB2.out.size (fun j hj => by injection hj with hj; have := HB1.out.size; omega); have HB3 := Lib.hid (HB2.out.trans hb3); have HX3 := Lib.hid hn3'; have HBX3 := Lib.hid (HBX2.out.grown hg3 HBX2.out.size (fun j hj => by injection hj with hj; omega)); clear hn3 hn3' hg3 hb3 q0))
      obtain ⟨y0, y1, y2, y3, y4, y5, y6⟩ := blk7 HX3.out
      obtain ⟨k1, k2, hbw3⟩ := PRE.out w3 HB3.out
      obtain ⟨g0, g1, g2⟩ := blk3 k1
      have H23 := Lib.hid k2
      have HBW3 := Lib.hid hbw3
      have hrow3 : RowD w3 (fun b => (D b ∧ b < w.heap.size) ∨ w.heap.size + 2 ≤ b) (.slice (some ⟨bi, oi, none⟩) l.length ci) l := HROW.out.below HBX3.out
      have hset := rset_any (w := w3.drew) (hrow3.below (Below.refl _ _).drew) kk { x with s := x.s ++ s } hkl2 (by omega)
      have HSET := Lib.hid hset
      clear k1 k2 hbw3 hset hrow3 f0 f1 f2 hcr hcd
      go_region_law (first
        | (refine step_call rfl 54 _ _ rfl enters_rset #[.slice (some ⟨bi, oi, none⟩) l.length ci, .int .i64 kk, .agg #[.string ⟨(x.s ++ s).toArray⟩, .int .i64 x.w, .bool x.y.b, .bool x.y.u, .bool x.y.i, .int .i64 x.y.f, .int .i64 x.y.g]] (by simp [Act.eval, Act.put]) HSET.out ?_; rintro e w5 ⟨v5, rfl, hr5, hb5⟩; refine ⟨_, rfl, ?_⟩; have HR5 := Lib.hid hr5; have HB5 := Lib.hid (HB3.out.trans (((Below.refl _ _).drew.trans hb5).mono HB3.out.size)); obtain ⟨h1, h2, hb0⟩ := PRE.out w5 HB5.out; obtain ⟨x0, x1, x2⟩ := blk3 h1; have H35 := Lib.hid h2; have HBW5 := Lib.hid hb0; have hwith := rwith_any (W := W) (HR.out.below HBW5.out) row (by have := HN.out; omega) (by have := HN.out; omega) (HR5.out.mono (D' := fun b => (D b ∧ b < w.heap.size) ∨ w.heap.size + 2 ≤ b) (fun b _ h => .inr (by have := H23.out.lt; have : w3.heap.size ≤ b := h; omega))); rw [← HN.out] at hwith; have HWITH := Lib.hid hwith; clear h1 h2 hb0 hr5 hb5 hwith)
        | (refine step_call rfl 53 _ _ rfl enters_rwith #[.agg #[.int .i64 W, .int .i64 n, .slice (some ⟨b, off, none⟩) n c], .int .i64 row, v5] (by simp [Act.eval, Act.put]) HWITH.out ?_; rintro e w6 ⟨V, rfl, hv6, hb6⟩; refine ⟨_, rfl, ?_⟩; have HV6 := Lib.hid (hv6.mono (D' := fun b => (D b ∧ b < w.heap.size) ∨ w.heap.size + 2 ≤ b) (fun b _ h => h.elim id (fun h => .inr (by have := H35.out.lt; omega)))); obtain ⟨A6, c6, rfl, _⟩ := hv6; rw [List.length_set, ← HN.out] at HV6 ⊢; have HB6 := Lib.hid (HBW5.out.trans (hb6.mono HBW5.out.size)); have H36 := Lib.hid (H35.out.below hb6 H35.out.lt); obtain ⟨z0, z1, z2⟩ := blk3 H36.out; have zf0 := H36.out.frozen 0; have zf1 := H36.out.frozen 1; have zf2 := H36.out.frozen 2; clear hb6; simp only [rgC]))
      all_goals
        (try simp only [Act.put])
        go_simp
        go_wp2
        have hf := grid_set3 H36.out W n A6 c6
        obtain rfl := HR1.out
        exact bodyPost_ret (results_ctt rfl rfl rfl rfl hf.1.whole Tryd.underlying29 rfl rg_size) rfl ⟨_, rfl, grid_fin1 HB6.out HV6.out hf.2⟩
  · have e0' : (d.w == 0) = false := by simp [h0]
    obtain rfl : kk = col := hcc.symm
    have hkki : (kk : Int) < l.length := by omega
    clear h0 hcc
    go_enter Tryd.func37, Tryd.ntmps37
    go_wp2_with (fail)
    rw [← HW0.out]
    refine (rthere_any W n _ n c row kk W0).mono ?_
    rintro e w1 ⟨rfl, hb1⟩
    rw [HIN.out]
    obtain ⟨h1, h2, hbw⟩ := PRE.out w1 hb1
    obtain ⟨f0, f1, f2⟩ := blk3 h1
    obtain ⟨bi, oi, hcr, hcd, hrx, hrow⟩ := ROWC.out w1 hb1
    have HRX := Lib.hid hrx
    have HROW := Lib.hid hrow
    have HB1 := Lib.hid hb1
    have HN1 := Lib.hid (Blk.new w1 51 czero.cells)
    clear h1 h2 hbw hrx hrow hb1
    have hszs : (⟨s.toArray⟩ : ByteArray).size = s.length := by show s.toArray.size = _; simp
    have hszx : (⟨x.s.toArray⟩ : ByteArray).size = x.s.length := by show x.s.toArray.size = _; simp
    have HSZS := Lib.hid hszs
    have HSZX := Lib.hid hszx
    clear hszs hszx
    by_cases h64 : 64 < x.s.length + s.length
    · have hJ := HJ.out
      rw [if_pos h64] at hJ
      have HR1 := Lib.hid hJ
      have h64i : (64 : Int) < (x.s.length : Int) + (s.length : Int) := by omega
      clear hJ h64
      by_cases hs64 : 64 < s.length
      all_goals
        first
          | (have hd64 : decide (64 < (s.length : Int)) = true := (by simp; omega); clear hs64)
          | (have hd64 : decide (64 < (s.length : Int)) = false := (by simp; omega); clear hs64)
        go_wp2_with (first
          | ((with_reducible refine at_dst 40 ?_); refine wpList_load_mid rfl _ _ rfl bi (oi + kk * 7) rfl x.cells _ HRX.out Tryd.underlying51 rfl cl_size ?_)
          | ((with_reducible refine at_store 12 ?_); refine wpList_store_blk rfl _ _ _ rfl rfl w1.heap.size 0 _ czero.cells x.cells rfl rfl HN1.out (by simp [Cl.len]) cl_size x.one ?_; intro w2 hn2 hg2; have hn2' : Blk w2 w1.heap.size 51 x.cells := hn2; have q0 : w2.cell? ⟨w1.heap.size, 0, none⟩ = some (.string ⟨x.s.toArray⟩) := hn2'.cell 0; have hb2 : Below w1.heap.size w1 w2 := ((Below.refl _ _).alloc (Nat.le_refl _) _).grown hg2 (by simp) (fun j hj => by injection hj with hj; omega); have HB2 := Lib.hid (HB1.out.trans (hb2.mono HB1.out.size)); obtain ⟨k1, k2, hbw2⟩ := PRE.out w2 HB2.out; obtain ⟨g0, g1, g2⟩ := blk3 k1; have H22 := Lib.hid k2; have HBW2 := Lib.hid hbw2; clear hn2 hn2' hg2 hb2 k1 k2 hbw2)
          | ((with_reducible refine at_store 8 ?_); refine wpList_store_blk rfl _ _ _ rfl rfl (w.heap.size + 1) 0 _ (rgC 0 0 none 0) (rgC W n (some ⟨b, off, none⟩) c) rfl rfl H22.out (by simp [rgC]) rg_size (rgC_one _ _ _ _) ?_; intro w6 hn6 hg6; have hn6' : Blk w6 (w.heap.size + 1) 29 (rgC W n (some ⟨b, off, none⟩) c) := hn6))
        have hv := (HR.out.below HBW2.out).v (W := W)
        rw [← HN.out] at hv
        obtain rfl := HR1.out
        rw [HSET0.out]
        exact bodyPost_ret (results_ctt rfl rfl rfl rfl hn6'.whole Tryd.underlying29 rfl rg_size) rfl ⟨_, rfl, grid_fin1 HBW2.out hv (chg_of_grown hg6)⟩
    · have hJ := HJ.out
      rw [if_neg h64] at hJ
      have HR1 := Lib.hid hJ
      have hd64 : decide (64 < (s.length : Int)) = false := by simp; omega
      have h64i : ¬ (64 : Int) < (x.s.length : Int) + (s.length : Int) := by omega
      have hst : ∀ w, (Op.stringOp .add ⟨x.s.toArray⟩ ⟨s.toArray⟩).run Tryd.prog w = .ok (.string ⟨(x.s ++ s).toArray⟩) w := fun w => by
        rw [run_string_add_sum w _ _ (by have := HSZS.out; have := HSZX.out; omega)]
        have : (⟨x.s.toArray⟩ : ByteArray) ++ ⟨s.toArray⟩ = ⟨(x.s ++ s).toArray⟩ := by apply ByteArray.ext; simp [ByteArray.data_append]
        rw [this]
      clear hJ h64
      go_upto_region 10 with (first
        | ((with_reducible refine at_dst 40 ?_); refine wpList_load_mid rfl _ _ rfl bi (oi + kk * 7) rfl x.cells _ HRX.out Tryd.underlying51 rfl cl_size ?_)
        | ((with_reducible refine at_store 12 ?_); refine wpList_store_blk rfl _ _ _ rfl rfl w1.heap.size 0 _ czero.cells x.cells rfl rfl HN1.out (by simp [Cl.len]) cl_size x.one ?_; intro w2 hn2 hg2; have hn2' : Blk w2 w1.heap.size 51 x.cells := hn2; have q0 : w2.cell? ⟨w1.heap.size, 0, none⟩ = some (.string ⟨x.s.toArray⟩) := hn2'.cell 0; have hb2 : Below w1.heap.size w1 w2 := ((Below.refl _ _).alloc (Nat.le_refl _) _).grown hg2 (by simp) (fun j hj => by injection hj with hj; omega); have HB2 := Lib.hid (HB1.out.trans (hb2.mono HB1.out.size)); have HX2 := Lib.hid hn2'; have HBX2 := Lib.hid hb2; clear hn2 hn2' hg2 hb2)
        | ((with_reducible refine at_store 58 ?_); refine wpList_store_cell rfl _ _ _ rfl rfl w1.heap.size 0 _ x.cells (.string ⟨(x.s ++ s).toArray⟩) rfl rfl HX2.out (by simp [Cl.len]) (by kernel_rfl) rfl ?_; intro w3 hn3 hg3; have hn3' : Blk w3 w1.heap.size 51 (Cl.cells { x with s := x.s ++ s }) := hn3; have hb3 : Below W0.heap.size w2 w3 := (Below.refl _ _).grown hg3 HB2.out.size (fun j hj => by injection hj with hj; have := HB1.out.size; omega); have HB3 := Lib.hid (HB2.out.trans hb3); have HX3 := Lib.hid hn3'; have HBX3 := Lib.hid (HBX2.out.grown hg3 HBX2.out.size (fun j hj => by injection hj with hj; omega)); clear hn3 hn3' hg3 hb3 q0))
      obtain ⟨y0, y1, y2, y3, y4, y5, y6⟩ := blk7 HX3.out
      obtain ⟨k1, k2, hbw3⟩ := PRE.out w3 HB3.out
      obtain ⟨g0, g1, g2⟩ := blk3 k1
      have H23 := Lib.hid k2
      have HBW3 := Lib.hid hbw3
      have hrow3 : RowD w3 (fun b => (D b ∧ b < w.heap.size) ∨ w.heap.size + 2 ≤ b) (.slice (some ⟨bi, oi, none⟩) l.length ci) l := HROW.out.below HBX3.out
      have hset := rset_any (w := w3.drew) (hrow3.below (Below.refl _ _).drew) kk { x with s := x.s ++ s } hkl2 (by omega)
      have HSET := Lib.hid hset
      clear k1 k2 hbw3 hset hrow3 f0 f1 f2 hcr hcd
      go_region_law (first
        | (refine step_call rfl 54 _ _ rfl enters_rset #[.slice (some ⟨bi, oi, none⟩) l.length ci, .int .i64 kk, .agg #[.string ⟨(x.s ++ s).toArray⟩, .int .i64 x.w, .bool x.y.b, .bool x.y.u, .bool x.y.i, .int .i64 x.y.f, .int .i64 x.y.g]] (by simp [Act.eval, Act.put]) HSET.out ?_; rintro e w5 ⟨v5, rfl, hr5, hb5⟩; refine ⟨_, rfl, ?_⟩; have HR5 := Lib.hid hr5; have HB5 := Lib.hid (HB3.out.trans (((Below.refl _ _).drew.trans hb5).mono HB3.out.size)); obtain ⟨h1, h2, hb0⟩ := PRE.out w5 HB5.out; obtain ⟨x0, x1, x2⟩ := blk3 h1; have H35 := Lib.hid h2; have HBW5 := Lib.hid hb0; have hwith := rwith_any (W := W) (HR.out.below HBW5.out) row (by have := HN.out; omega) (by have := HN.out; omega) (HR5.out.mono (D' := fun b => (D b ∧ b < w.heap.size) ∨ w.heap.size + 2 ≤ b) (fun b _ h => .inr (by have := H23.out.lt; have : w3.heap.size ≤ b := h; omega))); rw [← HN.out] at hwith; have HWITH := Lib.hid hwith; clear h1 h2 hb0 hr5 hb5 hwith)
        | (refine step_call rfl 53 _ _ rfl enters_rwith #[.agg #[.int .i64 W, .int .i64 n, .slice (some ⟨b, off, none⟩) n c], .int .i64 row, v5] (by simp [Act.eval, Act.put]) HWITH.out ?_; rintro e w6 ⟨V, rfl, hv6, hb6⟩; refine ⟨_, rfl, ?_⟩; have HV6 := Lib.hid (hv6.mono (D' := fun b => (D b ∧ b < w.heap.size) ∨ w.heap.size + 2 ≤ b) (fun b _ h => h.elim id (fun h => .inr (by have := H35.out.lt; omega)))); obtain ⟨A6, c6, rfl, _⟩ := hv6; rw [List.length_set, ← HN.out] at HV6 ⊢; have HB6 := Lib.hid (HBW5.out.trans (hb6.mono HBW5.out.size)); have H36 := Lib.hid (H35.out.below hb6 H35.out.lt); obtain ⟨z0, z1, z2⟩ := blk3 H36.out; have zf0 := H36.out.frozen 0; have zf1 := H36.out.frozen 1; have zf2 := H36.out.frozen 2; clear hb6; simp only [rgC]))
      all_goals
        (try simp only [Act.put])
        go_simp
        go_wp2
        have hf := grid_set3 H36.out W n A6 c6
        obtain rfl := HR1.out
        exact bodyPost_ret (results_ctt rfl rfl rfl rfl hf.1.whole Tryd.underlying29 rfl rg_size) rfl ⟨_, rfl, grid_fin1 HB6.out HV6.out hf.2⟩

theorem rjoin_any {w : World} {D : Nat → Prop} {A : Option Addr} {c W : Nat} {L : List (List Cl)} (h : RfAt w D A c L) (hq : Rws W L) (row col : Int) (s : List UInt8) (hs : s.length ≤ 1000000) :
    Calls Tryd.prog 37 #[.agg #[.int .i64 W, .int .i64 L.length, .slice A L.length c], .int .i64 row, .int .i64 col, .string ⟨s.toArray⟩] w fun e w' => ∃ V, e = .returned (.tuple #[V, .bool (joinM W L row col s).2.1, .int .i64 (joinM W L row col s).2.2]) ∧ RfV w' (fun b => D b ∨ w.heap.size ≤ b) V W (joinM W L row col s).1 ∧ Below w.heap.size w w' := by
  unfold joinM
  by_cases h1 : inB row col W L.length = false
  · rw [if_pos h1]
    exact (rjoin_no (W := W) (n := L.length) (A := A) (c := c) row col ⟨s.toArray⟩ h1).mono fun e w' ⟨he, hb⟩ => ⟨_, he, (h.v.mono (fun b _ h => .inl h)).below hb, hb⟩
  · rw [if_neg h1]
    have a' : inB row col W L.length = true := by simpa using h1
    obtain ⟨a0, a1, a2, a3⟩ : 0 ≤ row ∧ row < L.length ∧ 0 ≤ col ∧ col < W := by simpa [inB] using a'
    obtain ⟨r, rfl⟩ := Int.eq_ofNat_of_zero_le a0
    obtain ⟨k, rfl⟩ := Int.eq_ofNat_of_zero_le a2
    exact rjoin_ok h hq r k s hs _ (getD_some (by omega)) (by omega)
end Go.Proofs.YtijbimofigkdkaaDoor
