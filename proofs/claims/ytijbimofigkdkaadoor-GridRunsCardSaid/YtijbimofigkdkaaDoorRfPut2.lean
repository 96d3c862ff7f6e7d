/-
  Walk: the reference's Put, where there is room.
-/
import Derived.Test.YtijbimofigkdkaaDoorRfPut
import Derived.Test.YtijbimofigkdkaaDoorMemC
namespace Go.Proofs.YtijbimofigkdkaaDoor
open Go.RowKit
set_option linter.unusedVariables false
set_option linter.unusedSimpArgs false

theorem enters_rset : ∀ args w, (callFunc 54 args).run Tryd.prog w = .ok (.enter 54 args) w := enters_of Tryd.func54 (by kernel_rfl) rfl
theorem enters_rwith : ∀ args w, (callFunc 53 args).run Tryd.prog w = .ok (.enter 53 args) w := enters_of Tryd.func53 (by kernel_rfl) rfl
/-- the row behind the blanking, with its tail -/
def putL (l : List Cl) (col m : Nat) (y : Sty) : List Cl := if m = 2 then (eraseM l col 2).set (col + 1) (tail_ y) else eraseM l col 1
theorem putL_length (l : List Cl) (col m : Nat) (y : Sty) : (putL l col m y).length = l.length := by
  unfold putL
  split <;> simp [eraseM_length]
theorem putR_putL (l : List Cl) (col m : Nat) (s : List UInt8) (y : Sty) (hm : m = 1 ∨ m = 2) : putR l col s m y = (putL l col m y).set col ⟨s, m, y⟩ := by
  unfold putR putL
  rcases hm with rfl | rfl
  · simp
  · simp
    rw [List.set_comm _ _ (by omega)]
theorem RowD.len {w : World} {D : Nat → Prop} {v : Value} {l : List Cl} (h : RowD w D v l) : ∃ A c, v = .slice A l.length c := by
  obtain ⟨A, c, h1, _⟩ := h
  exact ⟨A, c, h1⟩
theorem blk5 {w : World} {b : Nat} {t : TypeId} {y : Sty} (h : Blk w b t y.cells) : w.cell? ⟨b, 0, none⟩ = some (.bool y.b) ∧ w.cell? ⟨b, 1, none⟩ = some (.bool y.u) ∧ w.cell? ⟨b, 2, none⟩ = some (.bool y.i) ∧ w.cell? ⟨b, 3, none⟩ = some (.int .i64 y.f) ∧ w.cell? ⟨b, 4, none⟩ = some (.int .i64 y.g) := ⟨h.cell 0, h.cell 1, h.cell 2, h.cell 3, h.cell 4⟩

/-- a grid's three cells are written -/
def set3 (w : World) (b W n : Nat) (A : Option Addr) (c : Nat) : World := ((w.setCell ⟨b, 0, none⟩ (.int .i64 W)).setCell ⟨b, 1, none⟩ (.int .i64 n)).setCell ⟨b, 2, none⟩ (.slice A n c)
theorem grid_set3 {w : World} {b : Nat} {t : TypeId} (h : Blk w b t (rgC 0 0 none 0)) (W n : Nat) (A : Option Addr) (c : Nat) : Blk (((w.setCell ⟨b, 0, none⟩ (.int .i64 W)).setCell ⟨b, 1, none⟩ (.int .i64 n)).setCell ⟨b, 2, none⟩ (.slice A n c)) b t (rgC W n A c) ∧ Chg (one b) w (((w.setCell ⟨b, 0, none⟩ (.int .i64 W)).setCell ⟨b, 1, none⟩ (.int .i64 n)).setCell ⟨b, 2, none⟩ (.slice A n c)) :=
  ⟨((h.set_ 0 _).set_ 1 _).set_ 2 _, (((Chg.refl (one b) w).setCell (p := ⟨b, 0, none⟩) (.inl rfl) _).setCell (p := ⟨b, 1, none⟩) (.inl rfl) _).setCell (p := ⟨b, 2, none⟩) (.inl rfl) _⟩
theorem grid_fin {w w6 w7 : World} {D : Nat → Prop} {V : Value} {W : Nat} {L : List (List Cl)} (hb : Below w.heap.size w w6) (hv : RfV w6 (fun b => (D b ∧ b < w.heap.size) ∨ w.heap.size + 3 ≤ b) V W L) (hc : Chg (one (w.heap.size + 1 + 1)) w6 w7) :
    RfV w7 (fun b => D b ∨ w.heap.size ≤ b) V W L ∧ Below w.heap.size w w7 :=
  ⟨(hv.chg hc (fun b _ h e => by have e' : b = w.heap.size + 1 + 1 := e; omega)).mono (fun b _ h => h.elim (fun h => .inl h.1) (fun h => .inr (by omega))), hb.trans (hc.below hb.size (fun j e => by have e' : j = w.heap.size + 1 + 1 := e; omega))⟩

set_option maxRecDepth 100000 in
set_option maxHeartbeats 8000000 in
theorem rput_ok {w : World} {D : Nat → Prop} {A : Option Addr} {c W : Nat} {L : List (List Cl)} (h : RfAt w D A c L) (row col : Nat) (s : List UInt8) (m : Nat) (y : Sty) (l : List Cl) (hl : L[row]? = some l) (hlen : l.length = W) (hw5 : W ≤ 500) (hh5 : L.length ≤ 500)
    (hs0 : s ≠ []) (hs64 : s.length ≤ 64) (hm : m = 1 ∨ m = 2) (hc : col + m ≤ W) :
    Calls Tryd.prog 41 #[.agg #[.int .i64 W, .int .i64 L.length, .slice A L.length c], .int .i64 row, .int .i64 col, .string ⟨s.toArray⟩, .int .i64 m, .agg y.cells.toArray] w fun e w' => ∃ V, e = .returned (.tuple #[V, .int .i64 0]) ∧ RfV w' (fun b => D b ∨ w.heap.size ≤ b) V W (L.set row (putR l col s m y)) ∧ Below w.heap.size w w' := by
  have hr : row < L.length := (List.getElem?_eq_some_iff.1 hl).1
  have hri : (row : Int) < L.length := by omega
  have hcol : col < l.length := by omega
  have hci : (col : Int) < W := by omega
  have hcb : (col : Int) < 500 := by omega
  rw [putR_putL l col m s y hm]
  have hpl := putL_length l col m y
  obtain ⟨hb0, h1, h2, h3⟩ := putW0_is w W L.length A c y
  have hW0 : putW0 w W L.length A c y = ((w.alloc (.cells #[.int .i64 W, .int .i64 L.length, .slice A L.length c] 29)).alloc (.cells y.cells.toArray 34)).alloc (.cells #[.int .i64 0, .int .i64 0, .slice none 0 0] 29) := rfl
  generalize putW0 w W L.length A c y = W0 at hb0 h1 h2 h3 hW0
  have hsz : (⟨s.toArray⟩ : ByteArray).size = s.length := by show s.toArray.size = _; simp
  have HSZ := Lib.hid hsz
  have HB0 := Lib.hid hb0
  have H1 := Lib.hid h1
  have H2 := Lib.hid h2
  have H3 := Lib.hid h3
  have HW0 := Lib.hid hW0
  have HR := Lib.hid h
  obtain ⟨b, off, Ai, ci, rfl, hlat⟩ := h.row_later hl
  have HLAT := Lib.hid hlat
  have HLEN := Lib.hid hlen
  have HPL := Lib.hid hpl
  have hin1 : inB row col W L.length = true := by unfold inB; simp; omega
  have HIN := Lib.hid hin1
  have hse : s.isEmpty = false := by cases s with
    | nil => exact absurd rfl hs0
    | cons _ _ => rfl
  have h64 : decide (64 < (s.length : Int)) = false := by simp; omega
  obtain ⟨n, hn⟩ : ∃ n, n = L.length := ⟨_, rfl⟩
  have HN := Lib.hid hn
  rw [← hn] at hr hri hh5 H1 HW0 HIN ⊢
  have hl5 : l.length ≤ 500 := by omega
  clear hsz hb0 h1 h2 h3 hW0 h hl hlat hpl hin1 hs0 hn hlen
  have pre : ∀ w1, Below W0.heap.size W0 w1 → Blk w1 w.heap.size 29 (rgC W n (some ⟨b, off, none⟩) c) ∧ Blk w1 (w.heap.size + 1) 34 y.cells ∧ Blk w1 (w.heap.size + 1 + 1) 29 (rgC 0 0 none 0) ∧ Below w.heap.size w w1 := fun w1 hb =>
    ⟨H1.out.below hb H1.out.lt, H2.out.below hb H2.out.lt, H3.out.below hb H3.out.lt, HB0.out.trans (hb.mono HB0.out.size)⟩
  have PRE := Lib.hid pre
  clear pre H1 H2 H3 HB0
  rcases hm with rfl | rfl
  · go_enter Tryd.func41, Tryd.ntmps41
    go_upto_region 3 with fail
    rw [← HW0.out]
    obtain ⟨h1, h2, h3, hb0⟩ := PRE.out W0 (Below.refl _ _)
    obtain ⟨e0, e1, e2⟩ := blk3 h1
    clear h1 h2 h3 hb0
    go_wp2_with (fail)
    refine (rthere_any W n _ n c row col W0).mono ?_
    rintro e w1 ⟨rfl, hb1⟩
    rw [HIN.out]
    obtain ⟨h1, h2, h3, hbw⟩ := PRE.out w1 hb1
    obtain ⟨f0, f1, f2⟩ := blk3 h1
    obtain ⟨hcr, hrow⟩ := HLAT.out _ hbw
    have HROW := Lib.hid hrow
    have HB1 := Lib.hid hb1
    clear e0 e1 e2 h1 h2 h3 hbw hrow hb1
    go_wp2_with (fail)
    refine (rblank_any HROW.out col hcol (by omega)).mono ?_
    rintro e w2 ⟨v2, rfl, hr2, hb2⟩
    have e1 : putL l col 1 y = blankM l col := rfl
    rw [← e1] at hr2
    have HROW2 := Lib.hid hr2
    clear e1
    have HB2 := Lib.hid (HB1.out.trans (hb2.mono HB1.out.size))
    have HWS := Lib.hid (show w.heap.size ≤ w1.heap.size from (PRE.out w1 HB1.out).2.2.2.size)
    obtain ⟨A2, c2, rfl⟩ := HROW2.out.len
    rw [HPL.out] at HROW2 ⊢
    clear hr2 hb2 f0 f1 f2 hcr HROW HB1 HLAT
    go_upto_region 9 with fail
    obtain ⟨h1, h2, h3, hb0⟩ := PRE.out w2 HB2.out
    obtain ⟨e0, e1, e2⟩ := blk3 h1
    obtain ⟨y0, y1, y2, y3, y4⟩ := blk5 h2
    have hset := rset_any (w := w2.drew) (HROW2.out.below (Below.refl _ _).drew) col ⟨s, 1, y⟩ (by rw [HPL.out]; exact hcol) (by rw [HPL.out]; omega)
    have HSET := Lib.hid hset
    have H3 := Lib.hid h3
    have HBW := Lib.hid hb0
    clear h1 h2 h3 hb0 hset
    go_region_law (first
      | (refine step_call rfl 54 _ _ rfl enters_rset #[.slice A2 l.length c2, .int .i64 col, .agg #[.string ⟨s.toArray⟩, .int .i64 1, .bool y.b, .bool y.u, .bool y.i, .int .i64 y.f, .int .i64 y.g]] (by simp [Act.eval, Act.put]) HSET.out ?_; rintro e w5 ⟨v5, rfl, hr5, hb5⟩; refine ⟨_, rfl, ?_⟩; have HR5 := Lib.hid hr5; have HB5 := Lib.hid (HB2.out.trans (((Below.refl _ _).drew.trans hb5).mono HB2.out.size)); obtain ⟨h1, h2, h3, hb0⟩ := PRE.out w5 HB5.out; obtain ⟨x0, x1, x2⟩ := blk3 h1; have H35 := Lib.hid h3; have HBW5 := Lib.hid hb0; have hwith := rwith_any (W := W) ((HR.out.mono (D' := (fun b => (D b ∧ b < w.heap.size) ∨ w.heap.size + 3 ≤ b)) (fun b hb h => .inl ⟨h, hb⟩)).below HBW5.out) row (by have := HN.out; omega) (by have := HN.out; omega) (HR5.out.mono (D' := (fun b => (D b ∧ b < w.heap.size) ∨ w.heap.size + 3 ≤ b)) (fun b _ h => .inr (by have := H3.out.lt; have : w2.heap.size ≤ b := h; omega))); rw [← HN.out] at hwith; have HWITH := Lib.hid hwith; clear h1 h2 h3 hb0 hr5 hb5 hwith)
      | (refine step_call rfl 53 _ _ rfl enters_rwith #[.agg #[.int .i64 W, .int .i64 n, .slice (some ⟨b, off, none⟩) n c], .int .i64 row, v5] (by simp [Act.eval, Act.put]) HWITH.out ?_; rintro e w6 ⟨V, rfl, hv6, hb6⟩; refine ⟨_, rfl, ?_⟩; have HV6 := Lib.hid (hv6.mono (D' := (fun b => (D b ∧ b < w.heap.size) ∨ w.heap.size + 3 ≤ b)) (fun b _ h => h.elim id (fun h => .inr (by have := H35.out.lt; omega)))); obtain ⟨A6, c6, rfl, _⟩ := hv6; rw [List.length_set, ← HN.out] at HV6 ⊢; have HB6 := Lib.hid (HBW5.out.trans (hb6.mono HBW5.out.size)); have H36 := Lib.hid (H35.out.below hb6 H35.out.lt); obtain ⟨z0, z1, z2⟩ := blk3 H36.out; have zf0 := H36.out.frozen 0; have zf1 := H36.out.frozen 1; have zf2 := H36.out.frozen 2; clear hb6; simp only [rgC]))
    all_goals
      (try simp only [Act.put])
      go_simp
      go_wp2
      have hf := grid_set3 H36.out W n A6 c6
      exact bodyPost_ret (results_ct rfl rfl rfl hf.1.whole Tryd.underlying29 rfl rg_size) rfl ⟨_, rfl, grid_fin HB6.out HV6.out hf.2⟩
  · have hc1i : (col : Int) + 1 < W := by omega
    have hin2 : Hid (inB row ((col : Int) + 1) W n = true) := by show _ = _; unfold inB; simp; omega
    go_enter Tryd.func41, Tryd.ntmps41
    go_upto_region 3 with fail
    rw [← HW0.out]
    obtain ⟨h1, h2, h3, hb0⟩ := PRE.out W0 (Below.refl _ _)
    obtain ⟨e0, e1, e2⟩ := blk3 h1
    clear h1 h2 h3 hb0
    go_wp2_with (fail)
    refine (rthere_any W n _ n c row col W0).mono ?_
    rintro e w0 ⟨rfl, hb1⟩
    rw [HIN.out]
    obtain ⟨h1, h2, h3, hbw⟩ := PRE.out w0 hb1
    obtain ⟨g0, g1, g2⟩ := blk3 h1
    have HB00 := Lib.hid hb1
    clear e0 e1 e2 h1 h2 h3 hbw hb1
    go_wp2_with (fail)
    refine (rthere_any W n _ n c row ((col : Int) + 1) w0).mono ?_
    rintro e w1 ⟨rfl, hb1'⟩
    rw [hin2.out]
    have hb1 := HB00.out.trans (hb1'.mono HB00.out.size)
    obtain ⟨h1, h2, h3, hbw⟩ := PRE.out w1 hb1
    obtain ⟨f0, f1, f2⟩ := blk3 h1
    obtain ⟨hcr, hrow⟩ := HLAT.out _ hbw
    have HROW := Lib.hid hrow
    have HB1 := Lib.hid hb1
    clear g0 g1 g2 h1 h2 h3 hbw hrow hb1 hb1' HB00
    go_wp2_with (fail)
    refine (rblank_any HROW.out col hcol (by omega)).mono ?_
    rintro e wa ⟨va, rfl, hra, hba⟩
    have HRA := Lib.hid hra
    have HBA := Lib.hid (HB1.out.trans (hba.mono HB1.out.size))
    have HLA : Hid ((blankM l col).length = l.length) := blankM_length l col
    obtain ⟨Aa, ca, rfl⟩ := HRA.out.len
    rw [HLA.out] at HRA ⊢
    clear hra hba
    go_wp2_with (fail)
    have hcall := rblank_any HRA.out (col + 1) (by rw [HLA.out]; have := HLEN.out; omega) (by rw [HLA.out]; omega)
    rw [show ((col + 1 : Nat) : Int) = (col : Int) + 1 by omega] at hcall
    refine hcall.mono ?_
    rintro e wb ⟨vb, rfl, hrb, hbb⟩
    have HRB := Lib.hid (show RowD wb (fun b => wa.heap.size ≤ b) vb (eraseM l col 2) from hrb)
    have HBB := Lib.hid (HBA.out.trans (hbb.mono HBA.out.size))
    have HLB : Hid ((eraseM l col 2).length = l.length) := eraseM_length l col 2
    obtain ⟨Ab, cb, rfl⟩ := HRB.out.len
    rw [HLB.out] at HRB ⊢
    have hyb := (PRE.out wb HBB.out).2.1
    obtain ⟨q0, q1, q2, q3, q4⟩ := blk5 hyb
    have hsz2 : Hid (w.heap.size ≤ wb.heap.size) := (PRE.out wb HBB.out).2.2.2.size
    clear hrb hbb hyb HRA
    go_wp2_with (fail)
    have hcall := rset_any HRB.out (col + 1) (tail_ y) (by rw [HLB.out]; have := HLEN.out; omega) (by rw [HLB.out]; omega)
    rw [show ((col + 1 : Nat) : Int) = (col : Int) + 1 by omega] at hcall
    refine hcall.mono ?_
    rintro e w2 ⟨v2, rfl, hr2, hb2⟩
    have HROW2 := Lib.hid (show RowD w2 (fun b => wb.heap.size ≤ b) v2 (putL l col 2 y) from hr2)
    have HB2 := Lib.hid (HBB.out.trans (hb2.mono HBB.out.size))
    have HWS := hsz2
    obtain ⟨A2, c2, rfl⟩ := HROW2.out.len
    rw [HPL.out] at HROW2 ⊢
    clear hr2 hb2 f0 f1 f2 hcr HROW HB1 HLAT q0 q1 q2 q3 q4
    go_upto_region 9 with fail
    obtain ⟨h1, h2, h3, hb0⟩ := PRE.out w2 HB2.out
    obtain ⟨e0, e1, e2⟩ := blk3 h1
    obtain ⟨y0, y1, y2, y3, y4⟩ := blk5 h2
    have hset := rset_any (w := w2.drew) (HROW2.out.below (Below.refl _ _).drew) col ⟨s, 2, y⟩ (by rw [HPL.out]; exact hcol) (by rw [HPL.out]; omega)
    have HSET := Lib.hid hset
    have H3 := Lib.hid h3
    have HBW := Lib.hid hb0
    clear h1 h2 h3 hb0 hset
    go_region_law (first
      | (refine step_call rfl 54 _ _ rfl enters_rset #[.slice A2 l.length c2, .int .i64 col, .agg #[.string ⟨s.toArray⟩, .int .i64 2, .bool y.b, .bool y.u, .bool y.i, .int .i64 y.f, .int .i64 y.g]] (by simp [Act.eval, Act.put]) HSET.out ?_; rintro e w5 ⟨v5, rfl, hr5, hb5⟩; refine ⟨_, rfl, ?_⟩; have HR5 := Lib.hid hr5; have HB5 := Lib.hid (HB2.out.trans (((Below.refl _ _).drew.trans hb5).mono HB2.out.size)); obtain ⟨h1, h2, h3, hb0⟩ := PRE.out w5 HB5.out; obtain ⟨x0, x1, x2⟩ := blk3 h1; have H35 := Lib.hid h3; have HBW5 := Lib.hid hb0; have hwith := rwith_any (W := W) ((HR.out.mono (D' := (fun b => (D b ∧ b < w.heap.size) ∨ w.heap.size + 3 ≤ b)) (fun b hb h => .inl ⟨h, hb⟩)).below HBW5.out) row (by have := HN.out; omega) (by have := HN.out; omega) (HR5.out.mono (D' := (fun b => (D b ∧ b < w.heap.size) ∨ w.heap.size + 3 ≤ b)) (fun b _ h => .inr (by have := H3.out.lt; have : w2.heap.size ≤ b := h; omega))); rw [← HN.out] at hwith; have HWITH := Lib.hid hwith; clear h1 h2 h3 hb0 hr5 hb5 hwith)
      | (refine step_call rfl 53 _ _ rfl enters_rwith #[.agg #[.int .i64 W, .int .i64 n, .slice (some ⟨b, off, none⟩) n c], .int .i64 row, v5] (by simp [Act.eval, Act.put]) HWITH.out ?_; rintro e w6 ⟨V, rfl, hv6, hb6⟩; refine ⟨_, rfl, ?_⟩; have HV6 := Lib.hid (hv6.mono (D' := (fun b => (D b ∧ b < w.heap.size) ∨ w.heap.size + 3 ≤ b)) (fun b _ h => h.elim id (fun h => .inr (by have := H35.out.lt; omega)))); obtain ⟨A6, c6, rfl, _⟩ := hv6; rw [List.length_set, ← HN.out] at HV6 ⊢; have HB6 := Lib.hid (HBW5.out.trans (hb6.mono HBW5.out.size)); have H36 := Lib.hid (H35.out.below hb6 H35.out.lt); obtain ⟨z0, z1, z2⟩ := blk3 H36.out; have zf0 := H36.out.frozen 0; have zf1 := H36.out.frozen 1; have zf2 := H36.out.frozen 2; clear hb6; simp only [rgC]))
    all_goals
      (try simp only [Act.put])
      go_simp
      go_wp2
      have hf := grid_set3 H36.out W n A6 c6
      exact bodyPost_ret (results_ct rfl rfl rfl hf.1.whole Tryd.underlying29 rfl rg_size) rfl ⟨_, rfl, grid_fin HB6.out HV6.out hf.2⟩
end Go.Proofs.YtijbimofigkdkaaDoor
