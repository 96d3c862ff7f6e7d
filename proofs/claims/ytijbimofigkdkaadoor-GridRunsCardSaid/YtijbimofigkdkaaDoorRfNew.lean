/-
  Walks: the reference's Size, New. A grid that is being built row by row.
-/
import Derived.Test.YtijbimofigkdkaaDoorRfFit
import Derived.Deep.AppendLies
namespace Go.Proofs.YtijbimofigkdkaaDoor
open Go.RowKit
set_option linter.unusedVariables false
set_option linter.unusedSimpArgs false

/-- A grid under construction: its box G, its rows so far. -/
structure Bld (w : World) (G base W H : Nat) (A : Option Addr) (c k : Nat) (us : List Value) (L : List (List Cl)) : Prop where
  box : Blk w G 29 [.int .i64 W, .int .i64 H, .slice A k c]
  own : w.ownsRow base 77 1 (.slice A k c) k us
  rows : RowsD w (fun b => base ≤ b ∧ (Value.slice A k c).ownBlock ≠ some b) us L
  nil : A = none → c = 0
namespace Bld
variable {w w3 w5 : World} {G base W H : Nat} {A : Option Addr} {c k : Nat} {us : List Value} {L : List (List Cl)}
theorem e2 (h : Bld w G base W H A c k us L) : w.cell? ⟨G, 2, none⟩ = some (.slice A k c) := h.box.cell 2
theorem below (h : Bld w G base W H A c k us L) (hb : Below w.heap.size w w3) : Bld w3 G base W H A c k us L :=
  ⟨h.box.below hb h.box.lt, h.own.kept (row := none) (grown_of_below hb) (by cases h : (Value.slice A k c).ownBlock <;> simp), h.rows.below hb, h.nil⟩
theorem step (h : Bld w G base W H A c k us L) (hG : G < base) (hbw : base ≤ w.heap.size) (hb3 : Below w.heap.size w w3) {v3 : Value} {l : List Cl} (hr : RowD w3 (fun b => w.heap.size ≤ b) v3 l) {g cap : Nat}
    (ho : w5.ownsRow base 77 1 (.slice (some ⟨g, 0, none⟩) (k + 1) cap) (k + 1) (us ++ [v3])) (hg : (w3.alloc (.cells #[v3] 77)).grownBy w5 (Value.slice A k c).ownBlock) (hat : (Value.slice A k c).ownBlock = some g ∨ g = w3.heap.size + 1) :
    Bld (w5.setCell ⟨G, 2, none⟩ (.slice (some ⟨g, 0, none⟩) (k + 1) cap)) G base W H (some ⟨g, 0, none⟩) cap (k + 1) (us ++ [v3]) (L ++ [l]) ∧ Below G w (w5.setCell ⟨G, 2, none⟩ (.slice (some ⟨g, 0, none⟩) (k + 1) cap)) := by
  have hs3 := hb3.size
  have hlt := h.own.lt
  have hGw : G < w.heap.size := h.box.lt
  have hb5 : Below base w w5 := by
    have h1 : Below base w (w3.alloc (.cells #[v3] 77)) := (hb3.mono hbw).alloc (by omega) _
    exact h1.grown hg (by simp; omega) (fun q hq => (hlt q hq).1)
  have hgb := (ho.lt g rfl)
  have c1' : Chg (fun q => (Value.slice A k c).ownBlock = some q) w3 w5 := ((Chg.refl (fun q => (Value.slice A k c).ownBlock = some q) w3).alloc (.cells #[v3] 77)).grown hg (fun q hq => .inl hq)
  have cG : Chg (one G) w5 (w5.setCell ⟨G, 2, none⟩ (.slice (some ⟨g, 0, none⟩) (k + 1) cap)) := (Chg.refl (one G) w5).setCell (p := ⟨G, 2, none⟩) (.inl rfl) _
  have hne5 : ∀ q, q < w3.heap.size → (Value.slice A k c).ownBlock ≠ some q → (Value.slice (some ⟨g, 0, none⟩) (k + 1) cap).ownBlock ≠ some q := fun q hq hn e => by
    have e' : g = q := by injection e
    rcases hat with h2 | h2
    · rw [e'] at h2; exact hn h2
    · omega
  have hold := ((h.rows.below hb3).mono (D' := fun b => (base ≤ b ∧ (Value.slice (some ⟨g, 0, none⟩) (k + 1) cap).ownBlock ≠ some b) ∧ (Value.slice A k c).ownBlock ≠ some b) (fun q hq h => ⟨⟨h.1, hne5 q hq h.2⟩, h.2⟩)).chg c1' (fun q _ h e => h.2 e)
  have hnew := (hr.mono (D' := fun b => (base ≤ b ∧ (Value.slice (some ⟨g, 0, none⟩) (k + 1) cap).ownBlock ≠ some b) ∧ (Value.slice A k c).ownBlock ≠ some b) (fun q hq h' => by
    have h1 : w.heap.size ≤ q := h'
    have h2 : (Value.slice A k c).ownBlock ≠ some q := fun e => by have := (hlt q e).2; omega
    exact ⟨⟨by omega, hne5 q hq h2⟩, h2⟩)).chg c1' (fun q _ h e => h.2 e)
  refine ⟨⟨?_, ?_, ?_, fun e => by cases e⟩, ?_⟩
  · have hb : Blk w5 G 29 [.int .i64 W, .int .i64 H, .slice A k c] := h.box.below hb5 hG
    exact hb.set_ 2 _
  · exact ho.kept (row := some G) (by
      exact ⟨rfl, rfl, rfl, by simp [World.setCell], fun q hq hn => Below.heap_setCell _ _ _ _ (fun e => hn (by rw [e]))⟩) (.inr (by
        intro e
        have e' : g = G := by injection e
        omega))
  · exact ((hold.snoc hnew).mono (fun q _ h => h.1)).chg cG (fun q _ h e => by have e' : q = G := e; have := h.1; omega)
  · have hbG : Below G w w5 := hb5.mono (Nat.le_of_lt hG)
    exact hbG.setCell (p := ⟨G, 2, none⟩) (Nat.le_refl _) _
/-- the finished grid -/
theorem fin (h : Bld w G base W H A c k us L) (hk : k = H) (hL : L.length = H) : RfV w (fun b => base ≤ b) (.agg (rgC W H A c).toArray) W L := by
  subst hk
  exact ⟨A, c, by rw [hL], h.nil, by rw [hL]; exact own_cap h.own, us, SlD.own h.own, h.rows.mono (fun q _ h => h.1)⟩
end Bld
theorem chg_of_own {a b : World} {r : Option Nat} (h : a.grownBy b r) : Chg (fun q => r = some q) a b := (Chg.refl (fun q => r = some q) a).grown h (fun q hq => .inl hq)
theorem enters_rblanks : ∀ args w, (callFunc 31 args).run Tryd.prog w = .ok (.enter 31 args) w := enters_of Tryd.func31 (by kernel_rfl) rfl

set_option maxHeartbeats 1000000 in
theorem rsize_any (a b : Int) (w : World) : Calls Tryd.prog 30 #[.int .i64 a, .int .i64 b] w fun e w' => e = .returned (.bool (sideB a && sideB b)) ∧ w = w' := by
  go_enter Tryd.func30, Tryd.ntmps30
  go_wp2
  all_goals
    go_ret
    exact ⟨ret_bool (by unfold sideB; rw [Bool.eq_iff_iff]; simp; omega), rfl⟩

set_option maxRecDepth 100000 in
set_option maxHeartbeats 4000000 in
theorem rnew_no (a b : Int) (hbad : sideB a = false ∨ sideB b = false) (w : World) :
    Calls Tryd.prog 8 #[.int .i64 a, .int .i64 b] w fun e w' => e = .returned (.tuple #[.agg (rgC 0 0 none 0).toArray, .int .i64 40]) ∧ Below w.heap.size w w' := by
  have hz : (sideB a && sideB b) = false := by rcases hbad with h | h <;> simp [h]
  have HZ := Lib.hid hz
  have HN := Lib.hid (Blk.new w 29 (rgC 0 0 none 0))
  clear hz hbad
  go_enter Tryd.func8, Tryd.ntmps8
  go_wp2_with (first
    | (go_at_call 30; refine (rsize_any a b _).mono ?_; rintro e w' ⟨rfl, rfl⟩; rw [HZ.out])
    | ((with_reducible refine at_store 4 ?_); refine wpList_store_blk rfl _ _ _ rfl rfl w.heap.size 0 _ (rgC 0 0 none 0) (rgC 0 0 none 0) rfl rfl HN.out (by simp [rgC]) rg_size (rgC_one _ _ _ _) ?_; intro w2 hn2 hg2; have hn2' : Blk w2 w.heap.size 29 (rgC 0 0 none 0) := hn2))
  exact bodyPost_ret (results_ct rfl rfl rfl hn2'.whole Tryd.underlying29 rfl rg_size) rfl ⟨rfl, ((Below.refl _ _).alloc (Nat.le_refl _) _).grown hg2 (by simp) (fun j hj => by injection hj with hj; omega)⟩

set_option maxRecDepth 100000 in
set_option maxHeartbeats 8000000 in
theorem rnew_ok (W H : Nat) (w1 : 1 ≤ W) (w5 : W ≤ 500) (h1 : 1 ≤ H) (h5 : H ≤ 500) (w : World) :
    Calls Tryd.prog 8 #[.int .i64 W, .int .i64 H] w fun e w' => ∃ V, e = .returned (.tuple #[V, .int .i64 0]) ∧ RfV w' (fun b => w.heap.size ≤ b) V W (blankG W H) ∧ Below w.heap.size w w' := by
  have hz : (sideB W && sideB H) = true := by simp [sideB]; omega
  have HZ := Lib.hid hz
  obtain ⟨i0, hi0, hz0, hz1, hz2⟩ := info_parts rrow_info
  have HI0 := Lib.hid hi0
  have HZ0 := Lib.hid hz0
  have HZ1 := Lib.hid hz1
  have HZ2 := Lib.hid hz2
  have HN := Lib.hid (show Blk ((w.alloc (.cells #[.int .i64 0, .int .i64 0, .slice none 0 0] 29)).alloc (.cells #[.int .i64 0, .int .i64 0, .slice none 0 0] 29)) w.heap.size 29 (rgC 0 0 none 0) from (Blk.new w _ (rgC 0 0 none 0)).alloc _)
  have HM := Lib.hid (show Blk ((w.alloc (.cells #[.int .i64 0, .int .i64 0, .slice none 0 0] 29)).alloc (.cells #[.int .i64 0, .int .i64 0, .slice none 0 0] 29)) (w.heap.size + 1) 29 (rgC 0 0 none 0) from Blk.new1 w _ _ (rgC 0 0 none 0))
  clear hz hi0 hz0 hz1 hz2
  go_enter Tryd.func8, Tryd.ntmps8
  go_wp2_with (first
    | (go_at_call 30; refine (rsize_any W H _).mono ?_; rintro e w' ⟨rfl, rfl⟩; rw [HZ.out])
    | ((with_reducible refine at_store 6 ?_); refine wpList_store_blk rfl _ _ _ rfl rfl (w.heap.size + 1) 0 _ (rgC 0 0 none 0) [.int .i64 W, .int .i64 H, .slice none 0 0] rfl rfl HM.out (by simp [rgC]) rg_size (by intro v hv; simp at hv; rcases hv with rfl | rfl | rfl <;> rfl) ?_; intro w2 hn2 hg2; have HM2 := Lib.hid (show Blk w2 (w.heap.size + 1) 29 [.int .i64 W, .int .i64 H, .slice none 0 0] from hn2); have HN2 := Lib.hid (HN.out.chg (chg_of_grown hg2) (fun e => by have e' : w.heap.size = w.heap.size + 1 := e; omega)); have HB2 := Lib.hid ((((Below.refl _ _).alloc (Nat.le_refl _) _).alloc (by simp) _ : Below w.heap.size w _).grown hg2 (by simp; omega) (fun j hj => by injection hj with hj; omega)); clear hn2 hg2))
  go_loopw [7] (fun v7 wr => ∃ (k : Nat) (A1 : Option Addr) (c1 : Nat) (us : List Value), v7 = .int .i64 k ∧ k ≤ H ∧ Bld wr (w.heap.size + 1) (w.heap.size + 2) W H A1 c1 k us (List.replicate k (List.replicate W bl)) ∧ Blk wr w.heap.size 29 (rgC 0 0 none 0) ∧ Below w.heap.size w wr) (fun v7 _ => H - (intOf v7).toNat)
  case atStart => exact ⟨0, none, 0, [], rfl, by omega, ⟨HM2.out, World.ownsRow_nil _ _ _ _, .nil, fun _ => rfl⟩, HN2.out, HB2.out⟩
  case round =>
    obtain ⟨k, A1, c1, us, rfl, hk, hbd, hx, hbr⟩ := hrel
    have HBD := Lib.hid hbd
    have HX := Lib.hid hx
    have HBR := Lib.hid hbr
    have e2 := hbd.e2
    clear hbd hx hbr HM2 HN2 HB2 HM HN
    by_cases hlt : k < H
    · have hki : (k : Int) < H := by omega
      have hwl := HBD.out.box.lt
      go_upto_region 7 with fail
      go_region_law (first
        | (refine step_call rfl 31 _ _ rfl enters_rblanks #[.int .i64 W] (by simp [Act.eval, Act.put]) (rblanks_any W (by omega) _) ?_; rintro e w3 ⟨v3, rfl, hr3, hb3⟩; refine ⟨_, rfl, ?_⟩; have HR3 := Lib.hid hr3; have HB3 := Lib.hid ((Below.refl _ _).drew.trans hb3); have hv1 : v3.oneCell' = true := hr3.one; have HV1 := Lib.hid hv1; have HD3 := Lib.hid (HBD.out.below HB3.out); have f2 := HD3.out.e2; have f3 : (w3.alloc (.cells #[v3] 77)).cell? ⟨w.heap.size + 1, 2, none⟩ = some (.slice A1 k c1) := (HD3.out.box.alloc _).cell 2; clear hr3 hb3 hv1)
        | (refine step_append_lies _ rfl (.tmp 22) (.tmp 25) _ rfl (w.heap.size + 2) 77 i0 _ 1 24 Tryd.underlying27 HI0.out HZ0.out HZ1.out HZ2.out rfl (by omega) (.slice A1 k c1) k us (by simp [Act.eval, Act.put]) (HD3.out.own.alloc _) ⟨w3.heap.size, 0, none⟩ 1 1 [v3] (by simp [Act.eval, Act.put]) rfl (World.news_of_block (cs := #[v3]) (t := 77) (fr := (0, 0)) (heap_alloc_new w3 _)) (fun v hv => by simp at hv; subst hv; exact HV1.out) (by omega) (by simp only [maxLen]; omega) (by omega) (by have := HB3.out.size; simp; omega) (w3.heap.size + 1) (by simp) ?_; intro g cap w5 ho hg hat hgl; have hstep := HBD.out.step (by omega) (by omega) HB3.out HR3.out ho hg hat; have HST := Lib.hid hstep; have hbx := (HD3.out.box.alloc (.cells #[v3] 77)).chg (chg_of_own hg) (fun e => by have := (HD3.out.own.lt _ e).1; omega); have z2 := hbx.cell 2; have zf2 := hbx.frozen 2; clear ho hg hat hbx hstep))
      all_goals
        go_wp2
        go_roundw
        case rel => exact ⟨k + 1, _, cap, us ++ [v3], by go_num, by omega, by have := HST.out.1; rw [← List.replicate_succ'] at this; exact this, HX.out.below HST.out.2 (by omega), HBR.out.trans (HST.out.2.mono (by omega))⟩
        case measure => simp [intOf]; omega
    · have hki : ¬ (k : Int) < H := by omega
      obtain rfl : k = H := by omega
      obtain ⟨e0, e1, e2'⟩ := blk3 (show Blk wr (w.heap.size + 1) 29 (rgC W k A1 c1) from HBD.out.box)
      go_wp2_with ((with_reducible refine at_store 4 ?_); refine wpList_store_blk rfl _ _ _ rfl rfl w.heap.size 0 _ (rgC 0 0 none 0) (rgC W k A1 c1) rfl rfl HX.out (by simp [rgC]) rg_size (rgC_one _ _ _ _) ?_; intro w6 hn6 hg6; have hn6' : Blk w6 w.heap.size 29 (rgC W k A1 c1) := hn6)
      have hv := HBD.out.fin rfl (by simp)
      refine bodyPost_ret (results_ct rfl rfl rfl hn6'.whole Tryd.underlying29 rfl rg_size) rfl ⟨_, rfl, (hv.chg (chg_of_grown hg6) (fun q _ h e => by have e' : q = w.heap.size := e; have h' : w.heap.size + 2 ≤ q := h; omega)).mono (fun q _ h => by have h' : w.heap.size + 2 ≤ q := h; show w.heap.size ≤ q; omega), HBR.out.grown hg6 HBR.out.size (fun j hj => by injection hj with hj; omega)⟩
end Go.Proofs.YtijbimofigkdkaaDoor
