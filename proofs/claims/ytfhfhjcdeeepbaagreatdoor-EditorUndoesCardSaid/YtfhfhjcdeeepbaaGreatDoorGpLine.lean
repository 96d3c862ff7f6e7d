/-
  Walks: slices.Grow of nil, slices.Concat of two rows of strings, Line.
-/
import Derived.Test.YtfhfhjcdeeepbaaGreatDoorGpIns
import Derived.Lib.AppendZerosOnto
namespace Go.Proofs.YtfhfhjcdeeepbaaGreatDoor
open Go.RowKit Go.Sort Go.Lib
set_option linter.unusedVariables false
set_option linter.unusedSimpArgs false

theorem int_kind : Tryz.prog.underlying 3 = some (.int .i64) := Tryz.underlying3
/-- what Grow hands back: an empty row of the call's own -/
def GrowP (w : World) (e : Ending) (w' : World) : Prop := ∃ A c, e = .returned (.slice A 0 c) ∧ OR w' w.heap.size 9 A 0 c [] ∧ Below w.heap.size w w'
set_option maxRecDepth 100000 in
set_option maxHeartbeats 4000000 in
theorem sgrow_nil (n : Nat) (hn : n ≤ 1000000) (w : World) : Calls Tryz.prog 82 #[.slice none 0 0, .int .i64 n] w (GrowP w) := by
  obtain ⟨i0, hi0, hz0, hz1, hz2⟩ := info_parts str_info
  rcases Nat.eq_zero_or_pos n with h0 | h0
  · subst h0
    clear hi0 hz0 hz1 hz2
    go_enter Tryz.func82, Tryz.ntmps82
    go_wp2_with (fail)
    go_ret
    exact ⟨none, 0, rfl, OR.none_ _ _ _, Below.refl _ _⟩
  · have hold : (Builtin.firstCells i0.size 0 (.slice none 0 0)).run Tryz.prog w.drew = .ok (#[] : Array Value) w.drew := rfl
    have hrz : ∀ ty, (Builtin.append_ #[38, 3] ty #[.slice none 0 0, .int .i64 n]).run Tryz.prog w =
        .ok (.slice (some ⟨w.heap.size, 0, none⟩) n (grownCap w n 0 9)) (w.drew.alloc (.cells ((#[] : Array Value) ++ Builtin.zeroCells (Value.string ⟨#[]⟩).cells n ++ Builtin.zeroCells (Value.string ⟨#[]⟩).cells (grownCap w n 0 9 - n)) 9)) := fun ty => by
      have h := Lib.run_append_grow_zeros w 38 3 ty 9 i0 (.string ⟨#[]⟩) .i64 .i64 Tryz.underlying38 int_kind hi0 hz0 none 0 0 [] hold n h0 (by omega) (by omega) (by omega)
        (by rw [hz2]; omega) (by rw [Nat.zero_add]; exact growslice_fits h0 (by rw [hz2]; omega))
      simpa using h
    obtain ⟨G, hG⟩ : ∃ G, G = grownCap w n 0 9 := ⟨_, rfl⟩
    have hGn : n ≤ G := by rw [hG]; exact grownCap_ge w _ _ _
    have hGm : G ≤ maxLen := by rw [hG]; exact grownCap_le_maxLen w n 0 _ (by unfold maxLen; omega)
    rw [← hG] at hrz
    obtain ⟨cur, hcur⟩ : ∃ cur : Array Value, cur = (#[] : Array Value) ++ Builtin.zeroCells (Value.string ⟨#[]⟩).cells n ++ Builtin.zeroCells (Value.string ⟨#[]⟩).cells (G - n) := ⟨_, rfl⟩
    have hcs : cur.size = G * 1 := by rw [hcur]; simp [Builtin.zeroCells, Value.cells]; omega
    rw [← hcur] at hrz
    have HR := Lib.hid hrz
    have HCS := Lib.hid hcs
    have HGM := Lib.hid hGm
    have hni : (n : Int) > 0 := by omega
    clear hi0 hz0 hz1 hz2 hG hcur hcs hold hrz hGm
    go_enter Tryz.func82, Tryz.ntmps82
    go_wp2_with (at_builtin; refine Lib.wpList_append_run _ rfl _ _ _ _ rfl _ _ rfl rfl _ _ (HR.out _) ?_)
    go_ret
    refine ⟨some ⟨w.heap.size, 0, none⟩, G, rfl, ⟨⟨rfl, .inr ⟨w.heap.size, G, cur, rfl, Nat.le_refl _, ?_, Nat.zero_le _, HGM.out, HCS.out, rfl⟩⟩, fun e => by cases e⟩, ((Below.refl _ w).drew).alloc (by simp) _⟩
    exact heap_alloc_new w.drew _

/-- What Concat hands back. -/
def CatP (w : World) (n : Nat) (xs : List Value) (e : Ending) (w' : World) : Prop := ∃ A c, e = .returned (.slice A n c) ∧ OR w' w.heap.size 9 A n c xs ∧ Below w.heap.size w w'
/-- how far the sum has come -/
def upto2 (k n1 n2 : Nat) : Nat := if k = 0 then 0 else if k = 1 then n1 else n1 + n2
def upl2 (k : Nat) (x1 x2 : List Value) : List Value := if k = 0 then [] else if k = 1 then x1 else x1 ++ x2
set_option maxRecDepth 100000 in
set_option maxHeartbeats 4000000 in
theorem sconcat_two (cb n1 n2 c1 c2 : Nat) (X1 X2 : Option Addr) (x1 x2 : List Value) (w : World) (hb : Blk w cb 38 [.slice X1 n1 c1, .slice X2 n2 c2]) (h1 : Sl w w.heap.size X1 x1) (h2 : Sl w w.heap.size X2 x2) (e1 : n1 = x1.length) (e2 : n2 = x2.length)
    (z1 : X1 = none → c1 = 0) (z2 : X2 = none → c2 = 0) (o1 : ∀ v ∈ x1, v.oneCell' = true) (o2 : ∀ v ∈ x2, v.oneCell' = true) (hn : n1 + n2 ≤ 100000) :
    Calls Tryz.prog 58 #[.slice (some ⟨cb, 0, none⟩) 2 2] w (CatP w (n1 + n2) (x1 ++ x2)) := by
  obtain ⟨N, hN⟩ : ∃ N, N = n1 + n2 := ⟨_, rfl⟩
  have h0 := hb.cell 0
  have hh1 := hb.cell 1
  have HB := Lib.hid hb
  have H1 := Lib.hid h1
  have H2 := Lib.hid h2
  have HE1 := Lib.hid e1
  have HE2 := Lib.hid e2
  have HN := Lib.hid hN
  have Z1 := Lib.hid z1
  have Z2 := Lib.hid z2
  have O1 := Lib.hid o1
  have O2 := Lib.hid o2
  have hni : (n1 : Int) + n2 ≤ 100000 := by omega
  rw [← hN]
  clear hb h1 h2 e1 e2 hN z1 z2 o1 o2 hn
  go_enter Tryz.func58, Tryz.ntmps58
  go_wp2_with (fail)
  go_loopw [3, 11] (fun v3 v11 wr => ∃ k : Nat, v11 = .int .i64 k ∧ k ≤ 2 ∧ v3 = .int .i64 (upto2 k n1 n2 : Nat) ∧ w = wr) (fun _ v _ => 2 - (intOf v).toNat)
  case atStart => exact ⟨0, rfl, by omega, rfl, rfl⟩
  case round =>
    obtain ⟨k, rfl, hk, rfl, rfl⟩ := hrel
    have hcase : k = 0 ∨ k = 1 ∨ k = 2 := by omega
    rcases hcase with rfl | rfl | rfl
    · have e0 : upto2 0 n1 n2 = 0 := rfl
      rw [e0]
      clear e0
      go_wp2_with (fail)
      go_roundw
      case rel => exact ⟨1, rfl, by omega, by simp [upto2], by first | trivial | rfl⟩
      case measure => simp [intOf]
    · have e0 : upto2 1 n1 n2 = n1 := rfl
      rw [e0]
      clear e0
      go_wp2_with (fail)
      go_roundw
      case rel => exact ⟨2, rfl, by omega, by simp [upto2], by first | trivial | rfl⟩
      case measure => simp [intOf]
    · have e0 : upto2 2 n1 n2 = N := HN.out.symm
      rw [e0]
      clear e0
      have hN2 : N ≤ 100000 := by have := HN.out; omega
      go_wp2_with (go_at_call 82; refine (sgrow_nil N (by omega) w).mono ?_; rintro e w1 ⟨A0, c0, rfl, ho0, hb0⟩)
      have HO := Lib.hid ho0
      have HBW := Lib.hid hb0
      clear ho0 hb0
      go_loopw [6, 27] (fun v6 v27 wr => ∃ (k : Nat) (A : Option Addr) (c : Nat), v27 = .int .i64 k ∧ k ≤ 2 ∧ v6 = .slice A (upto2 k n1 n2) c ∧ OR wr w.heap.size 9 A (upto2 k n1 n2) c (upl2 k x1 x2) ∧ Below w.heap.size w wr) (fun _ v _ => 2 - (intOf v).toNat)
      case atStart => exact ⟨0, A0, c0, rfl, by omega, rfl, HO.out, HBW.out⟩
      case round =>
        obtain ⟨k, A, c, rfl, hk, rfl, hor, hbel⟩ := hrel
        have HOR := Lib.hid hor
        have HBE := Lib.hid hbel
        have g0 : wr.cell? ⟨cb, 0, none⟩ = some (.slice X1 n1 c1) := (hbel.cell (p := ⟨cb, 0, none⟩) HB.out.lt).trans h0
        have g1 : wr.cell? ⟨cb, 1, none⟩ = some (.slice X2 n2 c2) := (hbel.cell (p := ⟨cb, 1, none⟩) HB.out.lt).trans hh1
        clear hor hbel
        have hcase : k = 0 ∨ k = 1 ∨ k = 2 := by omega
        rcases hcase with rfl | rfl | rfl
        · have e0 : upto2 0 n1 n2 = 0 := rfl
          rw [e0] at HOR ⊢
          clear e0
          go_wp2_with (at_builtin; refine wpList_app Tryz.underlying38 str_info rfl (by omega) _ rfl (.tmp 31) (.tmp 32) rfl w.heap.size A 0 c _ rfl HOR.out X1 n1 c1 x1 w.heap.size rfl (H1.out.below HBE.out) HE1.out Z1.out O1.out n1 (by omega) (by omega) HBE.out.size ?_; intro A' c' w5 ho5 hg5 hat5)
          go_roundw
          case rel => exact ⟨1, A', c', rfl, by omega, rfl, by simpa [upl2, upto2] using ho5, HBE.out.grown hg5 HBE.out.size (fun j hj => (HOR.out.blk_lt j hj).1)⟩
          case measure => simp [intOf]
        · have e0 : upto2 1 n1 n2 = n1 := rfl
          rw [e0] at HOR ⊢
          clear e0
          go_wp2_with (at_builtin; refine wpList_app Tryz.underlying38 str_info rfl (by omega) _ rfl (.tmp 31) (.tmp 32) rfl w.heap.size A n1 c _ rfl HOR.out X2 n2 c2 x2 w.heap.size rfl (H2.out.below HBE.out) HE2.out Z2.out O2.out N HN.out (by omega) HBE.out.size ?_; intro A' c' w5 ho5 hg5 hat5)
          go_roundw
          case rel => exact ⟨2, A', c', rfl, by omega, by rw [HN.out]; rfl, by rw [HN.out] at ho5; exact ho5, HBE.out.grown hg5 HBE.out.size (fun j hj => (HOR.out.blk_lt j hj).1)⟩
          case measure => simp [intOf]
        · have e0 : upto2 2 n1 n2 = N := HN.out.symm
          rw [e0] at HOR ⊢
          clear e0
          go_wp2_with (fail)
          go_ret
          exact ⟨A, c, rfl, HOR.out, HBE.out⟩

set_option maxRecDepth 100000 in
set_option maxHeartbeats 4000000 in
theorem gline_any {w : World} {lo g n C most f t : Nat} {A : Option Addr} {p s : List (List UInt8)} (h : GpAt w lo g A n C most f t p s) :
    Calls Tryz.prog 30 #[.pointer (some ⟨g, 0, none⟩)] w (CatP w (ln p s) (sv (p ++ s))) := by
  have h0 := h.c0
  have htn := h.tn
  have hln : ln p s = f + (n - t) := h.lnf
  have hm4 := h.m4
  have hle := h.le
  have hfp := h.fp
  have hft := h.ft
  have HC : Hid (∀ cb w1, GpAt w1 lo g A n C most f t p s → Blk w1 cb 38 [.slice A f C, .slice (bh A C t) (n - t) (C - t)] → Calls Tryz.prog 58 #[.slice (some ⟨cb, 0, none⟩) 2 2] w1 (CatP w1 (ln p s) (sv (p ++ s)))) := Lib.hid (fun cb w1 h1 hb => by
    rw [hln, sv_append]
    refine sconcat_two cb f (n - t) C (C - t) A (bh A C t) (sv p) (sv s) w1 hb h1.pre_sl h1.suf_sl (by rw [sv_length]; omega) (by rw [sv_length]; omega) (fun e => ?_) (fun e => ?_) (sv_one _) (sv_one _) (by omega)
    · rcases h1.all with ⟨_, hC⟩ | ⟨ab, tl, e', _⟩
      · exact hC
      · rw [e] at e'; cases e'
    · rcases h1.all with ⟨_, hC⟩ | ⟨ab, tl, e', _⟩
      · omega
      · subst e'
        unfold bh at e
        split at e
        · cases e
        · cases e)
  have Q1 := Lib.hid (fun d os => Calls.regrown_of (ahead_any (h.below (below_regrown w d os))))
  have Q2 := Lib.hid (fun d os => Calls.regrown_of (behind_any (h.below (below_regrown w d os))))
  have H := Lib.hid h
  clear h htn hln hfp
  go_enter Tryz.func30, Tryz.ntmps30
  go_wp2_with (go_at_call 40; refine (gmade_yes g w h0).mono ?_; rintro e w' ⟨rfl, rfl⟩)
  refine wp_region_below_tail 8 (by kernel_rfl) (by kernel_rfl) ?_
  simp only [List.take_succ_cons, List.take_zero, List.drop_succ_cons, List.drop_zero]
  repeat (first
    | go_big_quiet_step (first | exact Q1.out _ _ | exact Q2.out _ _)
    | quiet_step (first | exact Q1.out _ _ | exact Q2.out _ _))
  refine wpQuiet_nil ?_
  intro _ hw'
  obtain ⟨⟨dq, osq⟩, hw''⟩ := hw'
  subst hw''
  have HBQ := Lib.hid (below_regrown w dq osq)
  have H1 := Lib.hid (H.out.below HBQ.out)
  clear Q1 Q2
  generalize grow (redrawn w dq) osq = w1 at *
  have hbb : Below w1.heap.size w1 (w1.alloc (.cells #[.slice A f C, .slice (bh A C t) (n - t) (C - t)] 38)) := (Below.refl _ w1).alloc (Nat.le_refl _) _
  have HCC := Lib.hid (HC.out w1.heap.size _ (H1.out.below hbb) (Blk.new w1 38 [.slice A f C, .slice (bh A C t) (n - t) (C - t)]))
  have HBB := Lib.hid hbb
  clear hbb
  go_wp2_with (go_at_call 58; refine (HCC.out).mono ?_; rintro e w2 ⟨A2, c2, rfl, ho2, hb2⟩)
  go_ret
  have hsz := HBB.out.size
  exact ⟨A2, c2, rfl, ho2.weaken (Nat.le_trans HBQ.out.size hsz), (HBQ.out.trans (HBB.out.mono HBQ.out.size)).trans (hb2.mono (Nat.le_trans HBQ.out.size hsz))⟩
end Go.Proofs.YtfhfhjcdeeepbaaGreatDoor
