/-
  Small lemmas of layer 4's texts for programs without its law's functions.
  Walks: the reference's set, blank, blanks (rows of cells).
  Walks: the reference's There, Cell, Cells, Text, with.
  Walk: the reference's Put.
  Walk: the reference's Put, where there is room.
  Walks: the reference's Put whatever comes; Erase.
  Walk: the reference's Scroll.
  Walks: the reference's fit; New.
  Walks: the reference's Size, New. A grid that is being built row by row.
-/
import Derived.Test.YtipglbpmpcoidaaGreatDoorGfG
import Derived.Deep.RegionHeld3
import Derived.Deep.DeepCutAuto
import Derived.BigRegion
import Derived.Deep.QuietTactic
import Derived.BigQuiet
import Derived.Test.YtipglbpmpcoidaaGreatDoorGfI
import Derived.Test.YtipglbpmpcoidaaGreatDoorQuietB
import Derived.Test.YtipglbpmpcoidaaGreatDoorGfA
import Derived.Deep.AppendLies
namespace Go.Proofs.YtipglbpmpcoidaaGreatDoor
open Go.RowKit
set_option linter.unusedVariables false
set_option linter.unusedSimpArgs false

theorem Blk.whole {w : World} {g : Nat} {t : TypeId} {cs : List Value} (h : Blk w g t cs) : w.rangeAt g 0 cs := h.range 0 cs (fun j v hv => by rw [Nat.zero_add]; exact hv)
theorem set_one {l : List Value} {i : Nat} {u : Value} (h : ∀ v ∈ l, v.oneCell' = true) (hu : u.oneCell' = true) : ∀ v ∈ l.set i u, v.oneCell' = true := fun v hv => by
  rcases List.mem_or_eq_of_mem_set hv with h1 | h1
  · exact h v h1
  · rw [h1]; exact hu
theorem blk7 {w : World} {b : Nat} {t : TypeId} {c : Cl} (h : Blk w b t c.cells) : w.cell? ⟨b, 0, none⟩ = some (.string ⟨c.s.toArray⟩) ∧ w.cell? ⟨b, 1, none⟩ = some (.int .i64 c.w) ∧ w.cell? ⟨b, 2, none⟩ = some (.bool c.y.b) ∧ w.cell? ⟨b, 3, none⟩ = some (.bool c.y.u) ∧ w.cell? ⟨b, 4, none⟩ = some (.bool c.y.i) ∧ w.cell? ⟨b, 5, none⟩ = some (.int .i64 c.y.f) ∧ w.cell? ⟨b, 6, none⟩ = some (.int .i64 c.y.g) :=
  ⟨h.cell 0, h.cell 1, h.cell 2, h.cell 3, h.cell 4, h.cell 5, h.cell 6⟩
theorem putM_length (W : Nat) (L : List (List Cl)) (row col : Int) (s : List UInt8) (m : Int) (y : Sty) : (putM W L row col s m y).1.length = L.length := by
  unfold putM
  split
  · rfl
  · split
    · rfl
    · simp
theorem joinM_length (W : Nat) (L : List (List Cl)) (row col : Int) (s : List UInt8) : (joinM W L row col s).1.length = L.length := by
  unfold joinM
  split <;> simp
theorem eraseG_length (W : Nat) (L : List (List Cl)) (row a z : Int) : (eraseG W L row a z).1.length = L.length := by
  unfold eraseG
  split <;> simp
theorem cellB_nat (L : List (List Cl)) (i j : Nat) : cellB L i j = match L[i]? with | none => (czero, false) | some l => match l[j]? with | none => (czero, false) | some c => (c, true) := by
  unfold cellB
  rw [if_pos ⟨by omega, by omega⟩]
  rfl
end Go.Proofs.YtipglbpmpcoidaaGreatDoor

namespace Go.Proofs.YtipglbpmpcoidaaGreatDoor
open Go.RowKit
set_option linter.unusedVariables false
set_option linter.unusedSimpArgs false

set_option maxRecDepth 100000 in
set_option maxHeartbeats 4000000 in
theorem rset_any {w : World} {D : Nat → Prop} {v : Value} {l : List Cl} (h : RowD w D v l) (k : Nat) (x : Cl) (hk : k < l.length) (h5 : l.length ≤ 100000) :
    Calls Tryz.prog 64 #[v, .int .i64 k, .agg x.cells.toArray] w fun e w' => ∃ v', e = .returned v' ∧ RowD w' (fun b => w.heap.size ≤ b) v' (l.set k x) ∧ Below w.heap.size w w' := by
  obtain ⟨A, c, rfl, hnil, hS⟩ := h
  obtain ⟨i0, hi0, hz0, hz1, hz2⟩ := info_parts cl_info
  have HI0 := Lib.hid hi0
  have HZ0 := Lib.hid hz0
  have HZ1 := Lib.hid hz1
  have HZ2 := Lib.hid hz2
  have HS := Lib.hid hS.sl
  have HNIL := Lib.hid hnil
  have HX0 := Lib.hid (Blk.new w 96 x.cells)
  obtain ⟨n, hn⟩ : ∃ n, n = l.length := ⟨_, rfl⟩
  rw [← hn] at hk h5 ⊢
  have HN := Lib.hid hn
  have hki : (k : Int) < n := by omega
  clear hi0 hz0 hz1 hz2 hS hnil hn
  go_enter Tryz.func64, Tryz.ntmps64
  go_wp2_with (first
    | (at_builtin; (refine wpList_append_sl _ rfl (.tmp 8) (.tmp 9) _ rfl (w.heap.size + 1) 96 i0 _ 7 48 Tryz.underlying68 HI0.out HZ0.out HZ1.out HZ2.out rfl (by omega) (.slice (some ⟨w.heap.size + 1, 0, none⟩) 0 0) 0 [] rfl (by have := World.ownsRow_lit (base := w.heap.size + 1) (e := 96) (size := 7) (w.alloc (.cells x.cells.toArray 96)) #[] 0 (by simp) (by simp only [maxLen]; omega) (by simp); simpa using this) w.heap.size A n c (rc l) rfl ((HS.out.alloc (Nat.le_refl _) _).alloc (by simp) _) (by rw [rc_length, HN.out]) HNIL.out.1 (rc_one l) (by simp only [maxLen]; omega) (by omega) (by simp) ?_); intro v' w2 ho hg hat; rw [Nat.zero_add, List.nil_append] at ho; obtain ⟨g, cap, cur, rfl, hbg, hb2, htk, hlc⟩ := own_blk ho (by omega); have HCP := Lib.hid (own_cap ho); have HG := Lib.hid (((Chg.refl noB w).alloc (.cells x.cells.toArray 96)).alloc (.cells #[] 96) |>.grown hg (fun j hj => .inr (by have : some (w.heap.size + 1) = some j := hj; injection this with this; omega))); have HX2 := Lib.hid ((((HX0.out.alloc (.cells #[] 96)).chg (chg_of_grown hg) (by intro e; have e' : w.heap.size = w.heap.size + 1 := e; omega)))); have HB2 := Lib.hid hb2; have HTK := Lib.hid htk; have HBG := Lib.hid hbg; have HLC := Lib.hid hlc; clear ho hg hat hb2 htk hbg hlc)
    | ((with_reducible refine at_dst 13 ?_); refine wpList_load_mid rfl _ _ rfl w.heap.size 0 rfl x.cells _ HX2.out.whole Tryz.underlying96 rfl cl_size ?_)
    | ((with_reducible refine at_store 14 ?_); refine wpList_store_blk rfl _ _ _ rfl rfl g (k * 7) _ cur x.cells rfl rfl HB2.out (by have := HLC.out; rw [Cl.len]; omega) cl_size x.one ?_; intro w3 hn3 hg3))
  go_ret
  have e1 : (splice cur (k * 7) x.cells).take (n * 7) = rc (l.set k x) := by
    rw [take_splice _ _ _ _ (by rw [Cl.len]; omega) HLC.out, HTK.out, rc_splice _ _ _ (by have := HN.out; omega)]
  refine ⟨.slice (some ⟨g, 0, none⟩) n cap, rfl, ⟨_, _, by rw [List.length_set, ← HN.out], ⟨(fun e => by cases e), by rw [List.length_set, ← HN.out]; exact HCP.out⟩, sld_of_blk hn3 e1 (by have := HBG.out; omega)⟩, ?_⟩
  exact (HG.out.none_below).grown hg3 (by have := HG.out.size; exact this) (fun j hj => by injection hj with hj; have := HBG.out; omega)

set_option maxRecDepth 100000 in
set_option maxHeartbeats 4000000 in
theorem rblank_any {w : World} {D : Nat → Prop} {v : Value} {l : List Cl} (h : RowD w D v l) (k : Nat) (hk : k < l.length) (h5 : l.length ≤ 100000) :
    Calls Tryz.prog 63 #[v, .int .i64 k] w fun e w' => ∃ v', e = .returned v' ∧ RowD w' (fun b => w.heap.size ≤ b) v' (blankM l k) ∧ Below w.heap.size w w' := by
  have hc : l[k]? = some l[k] := List.getElem?_eq_getElem hk
  have hB := blank_ref l k _ hc
  generalize l[k] = c at hc hB
  have HR := Lib.hid h
  obtain ⟨A, cp, rfl, hnil, hS⟩ := h
  obtain ⟨b, off, rfl, hbl, _, hcell⟩ := hS.open_ (by rw [rc_length]; omega)
  have hw := hcell _ _ (rc_get hc (j := 1) rfl)
  rw [← Nat.add_assoc] at hw
  obtain ⟨n, hn⟩ : ∃ n, n = l.length := ⟨_, rfl⟩
  rw [← hn] at hk h5 hB ⊢
  rw [← hn] at HR
  have HN := Lib.hid hn
  have HB := Lib.hid hB
  have hki : (k : Int) < n := by omega
  have hset : ∀ (w : World) (D : Nat → Prop) (v : Value) (l : List Cl) (j : Nat), RowD w D v l → j < l.length → l.length = n → Calls Tryz.prog 64 #[v, .int .i64 j, .agg #[.string ⟨#[32]⟩, .int .i64 1, .bool false, .bool false, .bool false, .int .i64 0, .int .i64 0]] w fun e w' => ∃ v', e = .returned v' ∧ RowD w' (fun b => w.heap.size ≤ b) v' (l.set j bl) ∧ Below w.heap.size w w' := fun w D v l j hr hj hl => rset_any hr j bl hj (by omega)
  have HSET := Lib.hid hset
  clear hc hB hn hnil hS hcell hset
  have fin : ∀ (w1 w2 : World) (v' : Value) (m : List Cl), Below w.heap.size w w1 → RowD w2 (fun b => w1.heap.size ≤ b) v' m → Below w1.heap.size w1 w2 → blankM l k = m → ∃ u, Ending.returned v' = .returned u ∧ RowD w2 (fun b => w.heap.size ≤ b) u (blankM l k) ∧ Below w.heap.size w w2 := fun w1 w2 v' m hb1 hr hb2 e =>
    ⟨v', rfl, e ▸ hr.mono (fun b _ hb => Nat.le_trans hb1.size hb), hb1.trans (hb2.mono hb1.size)⟩
  have FIN := Lib.hid fin
  clear fin
  by_cases h2 : c.w = 2
  · have e2 : (c.w == 2) = true := by simp [h2]
    have e0 : (c.w == 0) = false := by simp [h2]
    by_cases hk1 : k + 1 < n
    · have hk1i : (k : Int) + 1 < n := by omega
      have HB' : Hid (blankM l k = (l.set k bl).set (k + 1) bl) := by have := HB.out; rw [if_pos ⟨h2, hk1⟩] at this; exact this
      clear h2
      go_enter Tryz.func63, Tryz.ntmps63
      go_wp2_with (fail)
      refine (HSET.out _ _ _ l k HR.out (by have := HN.out; omega) HN.out.symm).mono ?_
      rintro e w1 ⟨v1, rfl, hr1, hb1⟩
      have HR1 := Lib.hid hr1
      have HB1 := Lib.hid hb1
      obtain ⟨A1, c1, rfl, _, _⟩ := hr1
      have HNN : Hid ((l.set k bl).length = n) := by show _ = _; rw [List.length_set]; exact HN.out.symm
      rw [HNN.out] at HR1 ⊢
      clear hb1
      go_wp2_with (fail)
      have hcall := HSET.out _ _ _ (l.set k bl) (k + 1) HR1.out (by rw [HNN.out]; omega) HNN.out
      rw [show ((k + 1 : Nat) : Int) = (k : Int) + 1 by omega] at hcall
      refine hcall.mono ?_
      rintro e w2 ⟨v2, rfl, hr2, hb2⟩
      have HR2 := Lib.hid hr2
      have HB2 := Lib.hid hb2
      obtain ⟨A2, c2, rfl, _, _⟩ := hr2
      rw [List.length_set, HNN.out] at HR2 ⊢
      clear hb2
      go_wp2
      go_ret
      exact FIN.out _ _ _ _ HB1.out HR2.out HB2.out HB'.out
    · have hk1i : ¬ (k : Int) + 1 < n := by omega
      have HB' : Hid (blankM l k = l.set k bl) := by have := HB.out; rw [if_neg (by omega), if_neg (by omega)] at this; exact this
      clear h2
      go_enter Tryz.func63, Tryz.ntmps63
      go_wp2_with (fail)
      refine (HSET.out _ _ _ l k HR.out (by have := HN.out; omega) HN.out.symm).mono ?_
      rintro e w1 ⟨v1, rfl, hr1, hb1⟩
      have HR1 := Lib.hid hr1
      have HB1 := Lib.hid hb1
      obtain ⟨A1, c1, rfl, _, _⟩ := hr1
      have HNN : Hid ((l.set k bl).length = n) := by show _ = _; rw [List.length_set]; exact HN.out.symm
      rw [HNN.out] at HR1 ⊢
      clear hb1
      go_wp2
      go_ret
      exact FIN.out _ _ _ _ (Below.refl _ _) HR1.out HB1.out HB'.out
  · have e2 : (c.w == 2) = false := by simp [h2]
    by_cases h0 : c.w = 0
    · have e0 : (c.w == 0) = true := by simp [h0]
      by_cases hk1 : 0 < k
      · have hk1i : 0 < (k : Int) := by omega
        have HB' : Hid (blankM l k = (l.set k bl).set (k - 1) bl) := by have := HB.out; rw [if_neg (by omega), if_pos ⟨h0, hk1⟩] at this; exact this
        clear h0 h2
        go_enter Tryz.func63, Tryz.ntmps63
        go_wp2_with (fail)
        refine (HSET.out _ _ _ l k HR.out (by have := HN.out; omega) HN.out.symm).mono ?_
        rintro e w1 ⟨v1, rfl, hr1, hb1⟩
        have HR1 := Lib.hid hr1
        have HB1 := Lib.hid hb1
        obtain ⟨A1, c1, rfl, _, _⟩ := hr1
        have HNN : Hid ((l.set k bl).length = n) := by show _ = _; rw [List.length_set]; exact HN.out.symm
        rw [HNN.out] at HR1 ⊢
        clear hb1
        go_wp2_with (fail)
        have hcall := HSET.out _ _ _ (l.set k bl) (k - 1) HR1.out (by rw [HNN.out]; omega) HNN.out
        rw [show ((k - 1 : Nat) : Int) = (k : Int) - 1 by omega] at hcall
        refine hcall.mono ?_
        rintro e w2 ⟨v2, rfl, hr2, hb2⟩
        have HR2 := Lib.hid hr2
        have HB2 := Lib.hid hb2
        obtain ⟨A2, c2, rfl, _, _⟩ := hr2
        rw [List.length_set, HNN.out] at HR2 ⊢
        clear hb2
        go_wp2
        go_ret
        exact FIN.out _ _ _ _ HB1.out HR2.out HB2.out HB'.out
      · have hk1i : ¬ 0 < (k : Int) := by omega
        have HB' : Hid (blankM l k = l.set k bl) := by have := HB.out; rw [if_neg (by omega), if_neg (by omega)] at this; exact this
        clear h0 h2
        go_enter Tryz.func63, Tryz.ntmps63
        go_wp2_with (fail)
        refine (HSET.out _ _ _ l k HR.out (by have := HN.out; omega) HN.out.symm).mono ?_
        rintro e w1 ⟨v1, rfl, hr1, hb1⟩
        have HR1 := Lib.hid hr1
        have HB1 := Lib.hid hb1
        obtain ⟨A1, c1, rfl, _, _⟩ := hr1
        have HNN : Hid ((l.set k bl).length = n) := by show _ = _; rw [List.length_set]; exact HN.out.symm
        rw [HNN.out] at HR1 ⊢
        clear hb1
        go_wp2
        go_ret
        exact FIN.out _ _ _ _ (Below.refl _ _) HR1.out HB1.out HB'.out
    · have e0 : (c.w == 0) = false := by simp [h0]
      have HB' : Hid (blankM l k = l.set k bl) := by have := HB.out; rw [if_neg (by omega), if_neg (by omega)] at this; exact this
      clear h0 h2
      go_enter Tryz.func63, Tryz.ntmps63
      go_wp2_with (fail)
      refine (HSET.out _ _ _ l k HR.out (by have := HN.out; omega) HN.out.symm).mono ?_
      rintro e w1 ⟨v1, rfl, hr1, hb1⟩
      have HR1 := Lib.hid hr1
      have HB1 := Lib.hid hb1
      obtain ⟨A1, c1, rfl, _, _⟩ := hr1
      have HNN : Hid ((l.set k bl).length = n) := by show _ = _; rw [List.length_set]; exact HN.out.symm
      rw [HNN.out] at HR1 ⊢
      clear hb1
      go_wp2
      go_ret
      exact FIN.out _ _ _ _ (Below.refl _ _) HR1.out HB1.out HB'.out

/-- so many blanks -/
theorem rc_rep_snoc (k : Nat) : rc (List.replicate k bl) ++ bl.cells = rc (List.replicate (k + 1) bl) := by
  rw [List.replicate_succ', rc_append]
  simp [rc]
set_option maxRecDepth 100000 in
set_option maxHeartbeats 4000000 in
theorem rblanks_any (n : Nat) (h5 : n ≤ 100000) (w : World) :
    Calls Tryz.prog 45 #[.int .i64 n] w fun e w' => ∃ v, e = .returned (.agg #[v]) ∧ RowD w' (fun b => w.heap.size ≤ b) v (List.replicate n bl) ∧ Below w.heap.size w w' := by
  obtain ⟨i0, hi0, hz0, hz1, hz2⟩ := info_parts cl_info
  have HI0 := Lib.hid hi0
  have HZ0 := Lib.hid hz0
  have HZ1 := Lib.hid hz1
  have HZ2 := Lib.hid hz2
  clear hi0 hz0 hz1 hz2
  go_enter Tryz.func45, Tryz.ntmps45
  go_wp2_with (fail)
  go_loopw [3, 4] (fun v3 v4 wr => ∃ (k : Nat) (A : Option Addr) (c : Nat), v4 = .int .i64 k ∧ k ≤ n ∧ v3 = .slice A k c ∧ (A = none → c = 0) ∧ wr.ownsRow (w.heap.size + 1) 96 7 (.slice A k c) k (rc (List.replicate k bl)) ∧ Blk wr w.heap.size 93 [.slice none 0 0] ∧ Below w.heap.size w wr) (fun _ v4 _ => n - (intOf v4).toNat)
  case atStart => exact ⟨0, none, 0, rfl, by omega, rfl, fun _ => rfl, World.ownsRow_nil _ _ _ _, Blk.new w _ _, (Below.refl _ _).alloc (Nat.le_refl _) _⟩
  case round =>
    obtain ⟨k, A, c, rfl, hk, rfl, hnil, ho, hx, hb⟩ := hrel
    have HO := Lib.hid ho
    have HX := Lib.hid hx
    have HB := Lib.hid hb
    have HNIL := Lib.hid hnil
    clear ho hx hb hnil
    by_cases hlt : k < n
    · have hki : (k : Int) < n := by omega
      have hws : w.heap.size + 1 ≤ wr.heap.size := by have := HX.out.lt; omega
      go_wp2_with (at_builtin; (refine wpList_append_sl _ rfl (.tmp 10) (.tmp 12) _ rfl (w.heap.size + 1) 96 i0 _ 7 48 Tryz.underlying68 HI0.out HZ0.out HZ1.out HZ2.out rfl (by omega) (.slice A k c) k (rc (List.replicate k bl)) rfl (HO.out.alloc _) (wr.heap.size + 1) (some ⟨wr.heap.size, 0, none⟩) 1 1 bl.cells rfl (Sl.new wr _ _) rfl (fun e => by cases e) bl.one (by simp only [maxLen]; omega) (by omega) (by simp; omega) ?_); intro v' w2 ho hg hat; rw [rc_rep_snoc] at ho; have HO2 := Lib.hid ho; have hbk : (Value.slice A k c).ownBlock = none ∨ ∃ j, (Value.slice A k c).ownBlock = some j ∧ w.heap.size + 1 ≤ j := (by cases hob : (Value.slice A k c).ownBlock with | none => exact .inl rfl | some j => exact .inr ⟨j, rfl, (HO.out.lt j hob).1⟩); have HBK := Lib.hid hbk; have HG2 := Lib.hid hg; obtain ⟨A2, c2, rfl, hnil2, _⟩ := own_of ho; have HNIL2 := Lib.hid hnil2; clear ho hg hat hbk hnil2)
      have hr : ∀ j, (Value.slice A k c).ownBlock = some j → w.heap.size + 1 ≤ j := fun j hj => by
        rcases HBK.out with h | ⟨j', h1, h2⟩
        · rw [h] at hj; cases hj
        · rw [h1] at hj; injection hj with hj; omega
      go_roundw
      case rel =>
        refine ⟨k + 1, A2, c2, by go_num, by omega, rfl, HNIL2.out, HO2.out, ?_, ?_⟩
        · exact (HG2.out.block _ (by have := HX.out.lt; simp; omega) (fun e => by have := hr _ e.symm; omega)).trans (HX.out.alloc _)
        · exact ((HB.out.alloc HB.out.size _).grown HG2.out (by have := HB.out.size; simp; omega) (fun j hj => by have := hr j hj; omega))
      case measure => simp [intOf]; omega
    · have hki : ¬ (k : Int) < n := by omega
      obtain rfl : k = n := by omega
      go_wp2_with ((with_reducible refine at_store 2 ?_); refine wpList_store_blk rfl _ _ _ rfl rfl w.heap.size 0 _ [.slice none 0 0] [.slice A k c] rfl rfl HX.out (by simp) (by kernel_rfl) (fun v hv => by simp at hv; subst hv; rfl) ?_; intro w3 hn3 hg3)
      have hn3' : Blk w3 w.heap.size 93 [.slice A k c] := hn3
      refine bodyPost_ret (results_c rfl rfl hn3'.whole Tryz.underlying93 rfl (by kernel_rfl)) rfl ⟨_, rfl, ?_, ?_⟩
      · have hs := SlD.own HO.out
        have hc := chg_of_grown hg3
        exact ⟨A, c, by rw [List.length_replicate], ⟨HNIL.out, by rw [List.length_replicate]; exact own_cap HO.out⟩, (hs.chg hc (fun b hb h1 h2 => by have h2' : b = w.heap.size := h2; omega)).mono (fun b _ h => by omega)⟩
      · exact HB.out.grown hg3 HB.out.size (fun j hj => by injection hj with hj; omega)
end Go.Proofs.YtipglbpmpcoidaaGreatDoor

namespace Go.Proofs.YtipglbpmpcoidaaGreatDoor
open Go.RowKit
set_option linter.unusedVariables false
set_option linter.unusedSimpArgs false

set_option maxHeartbeats 1000000 in
theorem rthere_any (W H : Nat) (A : Option Addr) (n c : Nat) (row col : Int) (w : World) :
    Calls Tryz.prog 62 #[.agg #[.int .i64 W, .int .i64 H, .slice A n c], .int .i64 row, .int .i64 col] w fun e w' => e = .returned (.bool (inB row col W H)) ∧ Below w.heap.size w w' := by
  go_enter Tryz.func62, Tryz.ntmps62
  go_wp2
  all_goals
    go_ret
    exact ⟨ret_bool (by unfold inB; rw [Bool.eq_iff_iff]; simp; omega), (Below.refl _ _).alloc (Nat.le_refl _) _⟩

theorem rg_size : (Tryz.prog.info? 29).map (·.size) = some 3 := by kernel_rfl
theorem rrow_size : (Tryz.prog.info? 93).map (·.size) = some 1 := by kernel_rfl
/-- a reference grid as a value -/
def rgC (W H : Nat) (A : Option Addr) (c : Nat) : List Value := [.int .i64 W, .int .i64 H, .slice A H c]
theorem rgC_one (W H : Nat) (A : Option Addr) (c : Nat) : ∀ v ∈ rgC W H A c, v.oneCell' = true := by
  intro v hv
  simp [rgC] at hv
  rcases hv with rfl | rfl | rfl <;> rfl
theorem blk3 {w : World} {b : Nat} {t : TypeId} {W H : Nat} {A : Option Addr} {c : Nat} (h : Blk w b t (rgC W H A c)) : w.cell? ⟨b, 0, none⟩ = some (.int .i64 W) ∧ w.cell? ⟨b, 1, none⟩ = some (.int .i64 H) ∧ w.cell? ⟨b, 2, none⟩ = some (.slice A H c) := ⟨h.cell 0, h.cell 1, h.cell 2⟩
/-- what a reference grid shows -/
def RfV (w : World) (D : Nat → Prop) (V : Value) (W : Nat) (L : List (List Cl)) : Prop := ∃ A c, V = .agg (rgC W L.length A c).toArray ∧ RfAt w D A c L

/-- a row of it, whatever was made since -/
theorem RfAt.row_later {w : World} {D : Nat → Prop} {A : Option Addr} {c : Nat} {L : List (List Cl)} (h : RfAt w D A c L) {row : Nat} {l : List Cl} (hl : L[row]? = some l) :
    ∃ b off Ai ci, A = some ⟨b, off, none⟩ ∧ ∀ w', Below w.heap.size w w' → w'.cell? ⟨b, off + row, none⟩ = some (.slice Ai l.length ci) ∧ RowD w' D (.slice Ai l.length ci) l := by
  obtain ⟨b, off, Ai, ci, rfl, hb, hc, hn, hs⟩ := h.at_ hl
  exact ⟨b, off, Ai, ci, rfl, fun w' hb' => ⟨(hb'.cell (p := ⟨b, off + row, none⟩) hb).trans hc, Ai, ci, rfl, hn, hs.below hb'⟩⟩

set_option maxRecDepth 100000 in
set_option maxHeartbeats 2000000 in
theorem rcells_yes {w : World} {D : Nat → Prop} {A : Option Addr} {c W : Nat} {L : List (List Cl)} (h : RfAt w D A c L) (row : Nat) (l : List Cl) (hl : L[row]? = some l) :
    Calls Tryz.prog 40 #[.agg #[.int .i64 W, .int .i64 L.length, .slice A L.length c], .int .i64 row] w fun e w' => ∃ u, e = .returned u ∧ RowD w' D u l ∧ Below w.heap.size w w' := by
  have hr : row < L.length := (List.getElem?_eq_some_iff.1 hl).1
  have hri : (row : Int) < L.length := by omega
  have hrj : ¬ (L.length : Int) ≤ row := by omega
  obtain ⟨b, off, Ai, ci, rfl, hlat⟩ := h.row_later hl
  have hb0 : Below w.heap.size w (w.alloc (.cells #[.int .i64 W, .int .i64 L.length, .slice (some ⟨b, off, none⟩) L.length c] 29)) := (Below.refl _ _).alloc (Nat.le_refl _) _
  obtain ⟨hc, hrow⟩ := hlat _ hb0
  have HB0 := Lib.hid hb0
  have HR := Lib.hid hrow
  generalize L.length = n at *
  clear h hl hlat hrow hb0
  go_enter Tryz.func40, Tryz.ntmps40
  go_wp2
  go_ret
  exact ⟨_, rfl, HR.out, HB0.out⟩
set_option maxHeartbeats 1000000 in
theorem rcells_no (W H : Nat) (A : Option Addr) (n c : Nat) (row : Int) (hr : row < 0 ∨ (H : Int) ≤ row) (w : World) :
    Calls Tryz.prog 40 #[.agg #[.int .i64 W, .int .i64 H, .slice A n c], .int .i64 row] w fun e w' => e = .returned (.slice none 0 0) ∧ Below w.heap.size w w' := by
  rcases hr with hr | hr
  · go_enter Tryz.func40, Tryz.ntmps40
    go_wp2
    all_goals
      go_ret
      exact ⟨rfl, (Below.refl _ _).alloc (Nat.le_refl _) _⟩
  · have hr0 : ¬ row < 0 := by omega
    go_enter Tryz.func40, Tryz.ntmps40
    go_wp2
    all_goals
      go_ret
      exact ⟨rfl, (Below.refl _ _).alloc (Nat.le_refl _) _⟩

set_option maxRecDepth 100000 in
set_option maxHeartbeats 4000000 in
/-- with: a row of a grid is another one -/
theorem rwith_any {w : World} {D : Nat → Prop} {A : Option Addr} {c W : Nat} {L : List (List Cl)} (h : RfAt w D A c L) (row : Nat) (hr : row < L.length) (h5 : L.length ≤ 500) {v : Value} {l : List Cl} (hv : RowD w D v l) :
    Calls Tryz.prog 65 #[.agg #[.int .i64 W, .int .i64 L.length, .slice A L.length c], .int .i64 row, v] w fun e w' => ∃ V, e = .returned V ∧ RfV w' (fun b => D b ∨ w.heap.size ≤ b) V W (L.set row l) ∧ Below w.heap.size w w' := by
  obtain ⟨hnil, hcap, vs, hvs, hrows⟩ := h
  obtain ⟨i0, hi0, hz0, hz1, hz2⟩ := info_parts (show (Tryz.prog.info? 93).map (fun i => (i.zero, i.size, i.bytes)) = some (some (.agg #[.slice none 0 0]), 1, 24) by kernel_rfl)
  have HI0 := Lib.hid hi0
  have HZ0 := Lib.hid hz0
  have HZ1 := Lib.hid hz1
  have HZ2 := Lib.hid hz2
  have hb0 : Below w.heap.size w ((w.alloc (.cells #[.int .i64 W, .int .i64 L.length, .slice A L.length c] 29)).alloc (.cells #[.int .i64 0, .int .i64 0, .slice none 0 0] 29)) := ((Below.refl _ _).alloc (Nat.le_refl _) _).alloc (by simp) _
  have h1 : Blk ((w.alloc (.cells #[.int .i64 W, .int .i64 L.length, .slice A L.length c] 29)).alloc (.cells #[.int .i64 0, .int .i64 0, .slice none 0 0] 29)) w.heap.size 29 (rgC W L.length A c) := (Blk.new w _ (rgC W L.length A c)).alloc _
  have h2 : Blk ((w.alloc (.cells #[.int .i64 W, .int .i64 L.length, .slice A L.length c] 29)).alloc (.cells #[.int .i64 0, .int .i64 0, .slice none 0 0] 29)) (w.heap.size + 1) 29 (rgC 0 0 none 0) := Blk.new1 w _ _ (rgC 0 0 none 0)
  obtain ⟨n, hn⟩ : ∃ n, n = L.length := ⟨_, rfl⟩
  rw [← hn] at hr h5 hb0 h1 h2 ⊢
  have hvl : vs.length = n := by rw [hn]; exact hrows.1
  obtain ⟨Av, cv, rfl, hvn, hvc⟩ := hv
  have HV := Lib.hid (show RowD w D (.slice Av l.length cv) l from ⟨Av, cv, rfl, hvn, hvc⟩)
  have HSL := Lib.hid ((hvs.sl.alloc (Nat.le_refl _) (.cells #[.int .i64 W, .int .i64 n, .slice A n c] 29)).alloc (by simp) (.cells #[.int .i64 0, .int .i64 0, .slice none 0 0] 29) |>.alloc (by simp; omega) (.cells #[] 93))
  have HROWS := Lib.hid hrows
  have HONE := Lib.hid hrows.one
  have HVL := Lib.hid hvl
  have HNIL := Lib.hid hnil
  have HB0 := Lib.hid hb0
  have H1 := Lib.hid h1
  have H2 := Lib.hid h2
  have HN := Lib.hid hn
  have hri : (row : Int) < n := by omega
  clear hi0 hz0 hz1 hz2 hvs hrows hvl hnil hb0 h1 h2 hvn hvc hn hcap
  go_enter Tryz.func65, Tryz.ntmps65
  go_wp2_with (first
    | (at_builtin; (refine wpList_append_sl _ rfl (.tmp 8) (.tmp 10) _ rfl (w.heap.size + 2) 93 i0 _ 1 24 Tryz.underlying27 HI0.out HZ0.out HZ1.out HZ2.out rfl (by omega) (.slice (some ⟨w.heap.size + 2, 0, none⟩) 0 0) 0 [] rfl (by have := World.ownsRow_lit (base := w.heap.size + 2) (e := 93) (size := 1) ((w.alloc (.cells #[.int .i64 W, .int .i64 n, .slice A n c] 29)).alloc (.cells #[.int .i64 0, .int .i64 0, .slice none 0 0] 29)) #[] 0 (by simp) (by simp only [maxLen]; omega) (by simp); simpa using this) w.heap.size A n c vs rfl HSL.out (by rw [HVL.out]; omega) HNIL.out HONE.out (by simp only [maxLen]; omega) (by omega) (by simp) ?_); intro v' w2 ho hg hat; rw [Nat.zero_add, List.nil_append] at ho; obtain ⟨g, cap, cur, rfl, hbg, hb2, htk, hlc⟩ := own_blk ho (by omega); have HCP := Lib.hid (own_cap ho); have hbw2 : Below (w.heap.size + 2) ((w.alloc (.cells #[.int .i64 W, .int .i64 n, .slice A n c] 29)).alloc (.cells #[.int .i64 0, .int .i64 0, .slice none 0 0] 29)) w2 := ((Below.refl _ _).alloc (by simp) (.cells #[] 93)).grown hg (by simp) (fun j hj => by have : some (w.heap.size + 2) = some j := hj; injection this with this; omega); have HX2 := Lib.hid (H1.out.below hbw2 (by omega)); have HR2 := Lib.hid (H2.out.below hbw2 (by omega)); have HBW2 := Lib.hid (HB0.out.trans (hbw2.mono (by omega))); have HB2 := Lib.hid hb2; have HTK := Lib.hid htk; have HBG := Lib.hid hbg; have HLC := Lib.hid hlc; clear ho hg hat hb2 htk hbg hlc hbw2)
    | ((with_reducible refine at_store 16 ?_); refine wpList_store_blk rfl _ _ _ rfl rfl g row _ cur [.slice Av l.length cv] rfl rfl HB2.out (by have := HLC.out; simp; omega) rrow_size (fun v hv => by simp at hv; subst hv; rfl) ?_; intro w3 hn3 hg3; have hne : g ≠ w.heap.size ∧ g ≠ w.heap.size + 1 := (by have := HBG.out; omega); have HB3 := Lib.hid (show Blk w3 g 93 (splice cur row [.slice Av l.length cv]) from hn3); have HX3 := Lib.hid (HX2.out.chg (chg_of_grown hg3) (fun e => hne.1 (Eq.symm e))); have HR3 := Lib.hid (HR2.out.chg (chg_of_grown hg3) (fun e => hne.2 (Eq.symm e))); have HBW3 := Lib.hid (HBW2.out.grown hg3 HBW2.out.size (fun j hj => by injection hj with hj; have := HBG.out; omega)); clear hn3 hg3)
    | ((with_reducible refine at_store 18 ?_); refine wpList_store_cell rfl _ _ _ rfl rfl w.heap.size 2 _ _ (.slice (some ⟨g, 0, none⟩) n cap) rfl rfl HX3.out (by simp [rgC]) (by kernel_rfl) rfl ?_; intro w4 hn4 hg4; have HX4 := Lib.hid (show Blk w4 w.heap.size 29 (rgC W n (some ⟨g, 0, none⟩) cap) from hn4); have HR4 := Lib.hid (HR3.out.chg (chg_of_grown hg4) (fun e => by have e' : w.heap.size + 1 = w.heap.size := e; omega)); have HB4 := Lib.hid (HB3.out.chg (chg_of_grown hg4) (fun e => hne.1 e)); have HBW4 := Lib.hid (HBW3.out.grown hg4 HBW3.out.size (fun j hj => by injection hj with hj; omega)); clear hn4 hg4)
    | ((with_reducible refine at_dst 19 ?_); refine wpList_load_mid rfl _ _ rfl w.heap.size 0 rfl (rgC W n (some ⟨g, 0, none⟩) cap) _ HX4.out.whole Tryz.underlying29 rfl rg_size ?_)
    | ((with_reducible refine at_store 6 ?_); refine wpList_store_blk rfl _ _ _ rfl rfl (w.heap.size + 1) 0 _ (rgC 0 0 none 0) (rgC W n (some ⟨g, 0, none⟩) cap) rfl rfl HR4.out (by simp [rgC]) rg_size (rgC_one _ _ _ _) ?_; intro w5 hn5 hg5))
  have hc5 : Blk w5 (w.heap.size + 1) 29 (rgC W n (some ⟨g, 0, none⟩) cap) := hn5
  have hbw := HBW4.out.grown hg5 HBW4.out.size (fun j hj => by injection hj with hj; omega)
  refine bodyPost_ret (results_c rfl rfl hc5.whole Tryz.underlying29 rfl rg_size) rfl ⟨_, rfl, ⟨some ⟨g, 0, none⟩, cap, by rw [List.length_set, ← HN.out], ?_⟩, hbw⟩
  have hb5 := HB4.out.chg (chg_of_grown hg5) (fun e => hne.2 e)
  have et : (splice cur row [.slice Av l.length cv]).take (n * 1) = vs.set row (.slice Av l.length cv) := by
    rw [take_splice _ _ _ _ (by simp; omega) HLC.out, HTK.out, splice_one _ _ _ (by rw [HVL.out]; exact hr)]
  refine ⟨fun e => (by cases e), ?_, vs.set row (.slice Av l.length cv), sld_of_blk hb5 et (.inr (by have := HBG.out; omega)), ?_⟩
  · have := HCP.out
    have := HN.out
    rw [List.length_set]
    omega
  · exact ((HROWS.out.set row HV.out).below hbw).mono (fun b _ h => .inl h)

end Go.Proofs.YtipglbpmpcoidaaGreatDoor

namespace Go.Proofs.YtipglbpmpcoidaaGreatDoor
open Go.RowKit
set_option linter.unusedVariables false
set_option linter.unusedSimpArgs false

theorem RfV.below {w w' : World} {D : Nat → Prop} {V : Value} {W : Nat} {L : List (List Cl)} (h : RfV w D V W L) (hb : Below w.heap.size w w') : RfV w' D V W L := by
  obtain ⟨A, c, rfl, h⟩ := h
  exact ⟨A, c, rfl, h.below hb⟩
theorem RfV.mono {w : World} {D D' : Nat → Prop} {V : Value} {W : Nat} {L : List (List Cl)} (h : RfV w D V W L) (hd : ∀ b, b < w.heap.size → D b → D' b) : RfV w D' V W L := by
  obtain ⟨A, c, rfl, h⟩ := h
  exact ⟨A, c, rfl, h.mono hd⟩
theorem RfV.chg {S : Nat → Prop} {w w' : World} {D : Nat → Prop} {V : Value} {W : Nat} {L : List (List Cl)} (h : RfV w D V W L) (hc : Chg S w w') (hn : ∀ b, b < w.heap.size → D b → ¬ S b) : RfV w' D V W L := by
  obtain ⟨A, c, rfl, h⟩ := h
  exact ⟨A, c, rfl, h.chg hc hn⟩
theorem RfAt.v {w : World} {D : Nat → Prop} {A : Option Addr} {c W : Nat} {L : List (List Cl)} (h : RfAt w D A c L) : RfV w D (.agg (rgC W L.length A c).toArray) W L := ⟨A, c, rfl, h⟩

/-- the worlds in which Put begins -/
def putW0 (w : World) (W n : Nat) (A : Option Addr) (c : Nat) (y : Sty) : World := ((w.alloc (.cells #[.int .i64 W, .int .i64 n, .slice A n c] 29)).alloc (.cells y.cells.toArray 36)).alloc (.cells #[.int .i64 0, .int .i64 0, .slice none 0 0] 29)
theorem putW0_is (w : World) (W n : Nat) (A : Option Addr) (c : Nat) (y : Sty) : Below w.heap.size w (putW0 w W n A c y) ∧ Blk (putW0 w W n A c y) w.heap.size 29 (rgC W n A c) ∧ Blk (putW0 w W n A c y) (w.heap.size + 1) 36 y.cells ∧ Blk (putW0 w W n A c y) (w.heap.size + 1 + 1) 29 (rgC 0 0 none 0) := by
  unfold putW0
  exact ⟨(((Below.refl _ _).alloc (Nat.le_refl _) _).alloc (by simp) _).alloc (by simp; omega) _, ((Blk.new w _ (rgC W n A c)).alloc _).alloc _, (Blk.new1 w _ _ y.cells).alloc _, Blk.new2 w _ _ _ (rgC 0 0 none 0)⟩

set_option maxRecDepth 100000 in
set_option maxHeartbeats 8000000 in
theorem rput_no {w : World} {W n : Nat} {A : Option Addr} {c : Nat} (row col : Int) (s : List UInt8) (m : Int) (y : Sty) (hs : s.length ≤ 1000000) (q : Int) (hw5 : W ≤ 500)
    (hbad : ((s = [] ∨ 64 < s.length ∨ (m ≠ 1 ∧ m ≠ 2)) ∧ q = 1) ∨ ((s ≠ [] ∧ s.length ≤ 64 ∧ (m = 1 ∨ m = 2)) ∧ (inB row col W n = false ∨ inB row (col + m - 1) W n = false) ∧ q = 5)) :
    Calls Tryz.prog 33 #[.agg #[.int .i64 W, .int .i64 n, .slice A n c], .int .i64 row, .int .i64 col, .string ⟨s.toArray⟩, .int .i64 m, .agg y.cells.toArray] w fun e w' => e = .returned (.tuple #[.agg (rgC W n A c).toArray, .int .i64 q]) ∧ Below w.heap.size w w' := by
  obtain ⟨hb0, h1, h2, h3⟩ := putW0_is w W n A c y
  have hW0 : putW0 w W n A c y = ((w.alloc (.cells #[.int .i64 W, .int .i64 n, .slice A n c] 29)).alloc (.cells y.cells.toArray 36)).alloc (.cells #[.int .i64 0, .int .i64 0, .slice none 0 0] 29) := rfl
  generalize putW0 w W n A c y = W0 at hb0 h1 h2 h3 hW0
  have hsz : (⟨s.toArray⟩ : ByteArray).size = s.length := by show s.toArray.size = _; simp
  have HSZ := Lib.hid hsz
  have HB0 := Lib.hid hb0
  have H1 := Lib.hid h1
  have H3 := Lib.hid h3
  have HW0 := Lib.hid hW0
  clear hsz hb0 h1 h2 h3 hW0
  rcases hbad with ⟨hbad, rfl⟩ | ⟨⟨hs0, hs64, hm⟩, hbad, rfl⟩
  · by_cases h1 : s = []
    · subst h1
      clear hbad
      go_enter Tryz.func33, Tryz.ntmps33
      go_upto_region 2 with fail
      rw [← HW0.out]
      obtain ⟨e0, e1, e2⟩ := blk3 H1.out
      go_wp2_with ((with_reducible refine at_store 12 ?_); refine wpList_store_blk rfl _ _ _ rfl rfl (w.heap.size + 1 + 1) 0 _ (rgC 0 0 none 0) (rgC W n A c) rfl rfl H3.out (by simp [rgC]) rg_size (rgC_one _ _ _ _) ?_; intro w2 hn2 hg2; have hn2' : Blk w2 (w.heap.size + 1 + 1) 29 (rgC W n A c) := hn2)
      exact bodyPost_ret (results_ct rfl rfl rfl hn2'.whole Tryz.underlying29 rfl rg_size) rfl ⟨rfl, HB0.out.grown hg2 HB0.out.size (fun j hj => by injection hj with hj; omega)⟩
    · have hse : s.isEmpty = false := by cases s with
        | nil => exact absurd rfl h1
        | cons _ _ => rfl
      by_cases h2 : 64 < s.length
      · have h64 : decide (64 < (s.length : Int)) = true := by simp; omega
        clear h1 hbad h2
        go_enter Tryz.func33, Tryz.ntmps33
        go_upto_region 2 with fail
        rw [← HW0.out]
        obtain ⟨e0, e1, e2⟩ := blk3 H1.out
        go_wp2_with ((with_reducible refine at_store 12 ?_); refine wpList_store_blk rfl _ _ _ rfl rfl (w.heap.size + 1 + 1) 0 _ (rgC 0 0 none 0) (rgC W n A c) rfl rfl H3.out (by simp [rgC]) rg_size (rgC_one _ _ _ _) ?_; intro w2 hn2 hg2; have hn2' : Blk w2 (w.heap.size + 1 + 1) 29 (rgC W n A c) := hn2)
        exact bodyPost_ret (results_ct rfl rfl rfl hn2'.whole Tryz.underlying29 rfl rg_size) rfl ⟨rfl, HB0.out.grown hg2 HB0.out.size (fun j hj => by injection hj with hj; omega)⟩
      · have h64 : decide (64 < (s.length : Int)) = false := by simp; omega
        obtain ⟨hm1, hm2⟩ : m ≠ 1 ∧ m ≠ 2 := by
          rcases hbad with h | h | h
          · exact absurd h h1
          · exact absurd h h2
          · exact h
        have hm1' : (m != 1) = true := by simp [hm1]
        have hm2' : (m != 2) = true := by simp [hm2]
        clear h1 hbad h2 hm1 hm2
        go_enter Tryz.func33, Tryz.ntmps33
        go_upto_region 2 with fail
        rw [← HW0.out]
        obtain ⟨e0, e1, e2⟩ := blk3 H1.out
        go_wp2_with ((with_reducible refine at_store 12 ?_); refine wpList_store_blk rfl _ _ _ rfl rfl (w.heap.size + 1 + 1) 0 _ (rgC 0 0 none 0) (rgC W n A c) rfl rfl H3.out (by simp [rgC]) rg_size (rgC_one _ _ _ _) ?_; intro w2 hn2 hg2; have hn2' : Blk w2 (w.heap.size + 1 + 1) 29 (rgC W n A c) := hn2)
        exact bodyPost_ret (results_ct rfl rfl rfl hn2'.whole Tryz.underlying29 rfl rg_size) rfl ⟨rfl, HB0.out.grown hg2 HB0.out.size (fun j hj => by injection hj with hj; omega)⟩
  · have hse : s.isEmpty = false := by cases s with
      | nil => exact absurd rfl hs0
      | cons _ _ => rfl
    have h64 : decide (64 < (s.length : Int)) = false := by simp; omega
    by_cases hin : inB row col W n = false
    · have HIN := Lib.hid hin
      clear hin hbad hs0 hs64
      rcases hm with rfl | rfl
      all_goals
        go_enter Tryz.func33, Tryz.ntmps33
        go_upto_region 3 with fail
        rw [← HW0.out]
        obtain ⟨e0, e1, e2⟩ := blk3 H1.out
        go_wp2_with (fail)
        refine (rthere_any W n A n c row col W0).mono ?_
        rintro e w1 ⟨rfl, hb1⟩
        rw [HIN.out]
        obtain ⟨f0, f1, f2⟩ := blk3 (H1.out.below hb1 H1.out.lt)
        have H3' := Lib.hid (H3.out.below hb1 H3.out.lt)
        have HB1 := Lib.hid (HB0.out.trans (hb1.mono HB0.out.size))
        clear e0 e1 e2 hb1
        go_wp2_with ((with_reducible refine at_store 12 ?_); refine wpList_store_blk rfl _ _ _ rfl rfl (w.heap.size + 1 + 1) 0 _ (rgC 0 0 none 0) (rgC W n A c) rfl rfl H3'.out (by simp [rgC]) rg_size (rgC_one _ _ _ _) ?_; intro w2 hn2 hg2; have hn2' : Blk w2 (w.heap.size + 1 + 1) 29 (rgC W n A c) := hn2)
        exact bodyPost_ret (results_ct rfl rfl rfl hn2'.whole Tryz.underlying29 rfl rg_size) rfl ⟨rfl, HB1.out.grown hg2 HB1.out.size (fun j hj => by injection hj with hj; omega)⟩
    · have hin1 : inB row col W n = true := by simpa using hin
      have hin2 : inB row (col + m - 1) W n = false := hbad.resolve_left hin
      obtain rfl : m = 2 := by
        rcases hm with rfl | rfl
        · rw [show col + 1 - 1 = col by omega] at hin2
          rw [hin2] at hin1
          cases hin1
        · rfl
      obtain ⟨_, _, h2, h3⟩ : 0 ≤ row ∧ row < n ∧ 0 ≤ col ∧ col < W := by simpa [inB] using hin1
      have hcb : col < 500 := by omega
      have HIN := Lib.hid hin1
      have HIN2 : Hid (inB row (col + 1) W n = false) := by rw [show col + 2 - 1 = col + 1 by omega] at hin2; exact hin2
      clear hin hin1 hin2 hbad hs0 hs64 hm
      go_enter Tryz.func33, Tryz.ntmps33
      go_upto_region 3 with fail
      rw [← HW0.out]
      obtain ⟨e0, e1, e2⟩ := blk3 H1.out
      go_wp2_with (fail)
      refine (rthere_any W n A n c row col W0).mono ?_
      rintro e w1 ⟨rfl, hb1⟩
      rw [HIN.out]
      obtain ⟨f0, f1, f2⟩ := blk3 (H1.out.below hb1 H1.out.lt)
      have H1' := Lib.hid (H1.out.below hb1 H1.out.lt)
      have H3' := Lib.hid (H3.out.below hb1 H3.out.lt)
      have HB1 := Lib.hid (HB0.out.trans (hb1.mono HB0.out.size))
      clear e0 e1 e2 hb1
      go_wp2_with (fail)
      refine (rthere_any W n A n c row (col + 1) w1).mono ?_
      rintro e w3 ⟨rfl, hb3⟩
      rw [HIN2.out]
      obtain ⟨g0, g1, g2⟩ := blk3 (H1'.out.below hb3 H1'.out.lt)
      have H3'' := Lib.hid (H3'.out.below hb3 H3'.out.lt)
      have HB3 := Lib.hid (HB1.out.trans (hb3.mono HB1.out.size))
      clear f0 f1 f2 hb3
      go_wp2_with ((with_reducible refine at_store 12 ?_); refine wpList_store_blk rfl _ _ _ rfl rfl (w.heap.size + 1 + 1) 0 _ (rgC 0 0 none 0) (rgC W n A c) rfl rfl H3''.out (by simp [rgC]) rg_size (rgC_one _ _ _ _) ?_; intro w2 hn2 hg2; have hn2' : Blk w2 (w.heap.size + 1 + 1) 29 (rgC W n A c) := hn2)
      exact bodyPost_ret (results_ct rfl rfl rfl hn2'.whole Tryz.underlying29 rfl rg_size) rfl ⟨rfl, HB3.out.grown hg2 HB3.out.size (fun j hj => by injection hj with hj; omega)⟩
end Go.Proofs.YtipglbpmpcoidaaGreatDoor

namespace Go.Proofs.YtipglbpmpcoidaaGreatDoor
open Go.RowKit
set_option linter.unusedVariables false
set_option linter.unusedSimpArgs false

theorem enters_rset : ∀ args w, (callFunc 64 args).run Tryz.prog w = .ok (.enter 64 args) w := enters_of Tryz.func64 (by kernel_rfl) rfl
theorem enters_rwith : ∀ args w, (callFunc 65 args).run Tryz.prog w = .ok (.enter 65 args) w := enters_of Tryz.func65 (by kernel_rfl) rfl
/-- the row behind the blanking, with its tail -/
def putL (l : List Cl) (col m : Nat) (y : Sty) : List Cl := if m = 2 then (eraseM l col 2).set (col + 1) (tail_ y) else eraseM l col 1
theorem putL_length (l : List Cl) (col m : Nat) (y : Sty) : (putL l col m y).length = l.length := by
  unfold putL
  split <;> simp [eraseM_length]
theorem putR_putL (l : List Cl) (col m : Nat) (s : List UInt8) (y : Sty) (hm : m = 1 ∨ m = 2) : putR l col s m y = (putL l col m y).set col ⟨s, m, y⟩ := by
  unfold putR putL
  rcases hm with rfl | rfl
  · simp
  · simp
    rw [List.set_comm _ _ (by omega)]
theorem RowD.len {w : World} {D : Nat → Prop} {v : Value} {l : List Cl} (h : RowD w D v l) : ∃ A c, v = .slice A l.length c := by
  obtain ⟨A, c, h1, _⟩ := h
  exact ⟨A, c, h1⟩
theorem blk5 {w : World} {b : Nat} {t : TypeId} {y : Sty} (h : Blk w b t y.cells) : w.cell? ⟨b, 0, none⟩ = some (.bool y.b) ∧ w.cell? ⟨b, 1, none⟩ = some (.bool y.u) ∧ w.cell? ⟨b, 2, none⟩ = some (.bool y.i) ∧ w.cell? ⟨b, 3, none⟩ = some (.int .i64 y.f) ∧ w.cell? ⟨b, 4, none⟩ = some (.int .i64 y.g) := ⟨h.cell 0, h.cell 1, h.cell 2, h.cell 3, h.cell 4⟩

/-- a grid's three cells are written -/
def set3 (w : World) (b W n : Nat) (A : Option Addr) (c : Nat) : World := ((w.setCell ⟨b, 0, none⟩ (.int .i64 W)).setCell ⟨b, 1, none⟩ (.int .i64 n)).setCell ⟨b, 2, none⟩ (.slice A n c)
theorem grid_set3 {w : World} {b : Nat} {t : TypeId} (h : Blk w b t (rgC 0 0 none 0)) (W n : Nat) (A : Option Addr) (c : Nat) : Blk (((w.setCell ⟨b, 0, none⟩ (.int .i64 W)).setCell ⟨b, 1, none⟩ (.int .i64 n)).setCell ⟨b, 2, none⟩ (.slice A n c)) b t (rgC W n A c) ∧ Chg (one b) w (((w.setCell ⟨b, 0, none⟩ (.int .i64 W)).setCell ⟨b, 1, none⟩ (.int .i64 n)).setCell ⟨b, 2, none⟩ (.slice A n c)) :=
  ⟨((h.set_ 0 _).set_ 1 _).set_ 2 _, (((Chg.refl (one b) w).setCell (p := ⟨b, 0, none⟩) (.inl rfl) _).setCell (p := ⟨b, 1, none⟩) (.inl rfl) _).setCell (p := ⟨b, 2, none⟩) (.inl rfl) _⟩
theorem grid_fin {w w6 w7 : World} {D : Nat → Prop} {V : Value} {W : Nat} {L : List (List Cl)} (hb : Below w.heap.size w w6) (hv : RfV w6 (fun b => (D b ∧ b < w.heap.size) ∨ w.heap.size + 3 ≤ b) V W L) (hc : Chg (one (w.heap.size + 1 + 1)) w6 w7) :
    RfV w7 (fun b => D b ∨ w.heap.size ≤ b) V W L ∧ Below w.heap.size w w7 :=
  ⟨(hv.chg hc (fun b _ h e => by have e' : b = w.heap.size + 1 + 1 := e; omega)).mono (fun b _ h => h.elim (fun h => .inl h.1) (fun h => .inr (by omega))), hb.trans (hc.below hb.size (fun j e => by have e' : j = w.heap.size + 1 + 1 := e; omega))⟩

set_option maxRecDepth 100000 in
set_option maxHeartbeats 8000000 in
theorem rput_ok {w : World} {D : Nat → Prop} {A : Option Addr} {c W : Nat} {L : List (List Cl)} (h : RfAt w D A c L) (row col : Nat) (s : List UInt8) (m : Nat) (y : Sty) (l : List Cl) (hl : L[row]? = some l) (hlen : l.length = W) (hw5 : W ≤ 500) (hh5 : L.length ≤ 500)
    (hs0 : s ≠ []) (hs64 : s.length ≤ 64) (hm : m = 1 ∨ m = 2) (hc : col + m ≤ W) :
    Calls Tryz.prog 33 #[.agg #[.int .i64 W, .int .i64 L.length, .slice A L.length c], .int .i64 row, .int .i64 col, .string ⟨s.toArray⟩, .int .i64 m, .agg y.cells.toArray] w fun e w' => ∃ V, e = .returned (.tuple #[V, .int .i64 0]) ∧ RfV w' (fun b => D b ∨ w.heap.size ≤ b) V W (L.set row (putR l col s m y)) ∧ Below w.heap.size w w' := by
  have hr : row < L.length := (List.getElem?_eq_some_iff.1 hl).1
  have hri : (row : Int) < L.length := by omega
  have hcol : col < l.length := by omega
  have hci : (col : Int) < W := by omega
  have hcb : (col : Int) < 500 := by omega
  rw [putR_putL l col m s y hm]
  have hpl := putL_length l col m y
  obtain ⟨hb0, h1, h2, h3⟩ := putW0_is w W L.length A c y
  have hW0 : putW0 w W L.length A c y = ((w.alloc (.cells #[.int .i64 W, .int .i64 L.length, .slice A L.length c] 29)).alloc (.cells y.cells.toArray 36)).alloc (.cells #[.int .i64 0, .int .i64 0, .slice none 0 0] 29) := rfl
  generalize putW0 w W L.length A c y = W0 at hb0 h1 h2 h3 hW0
  have hsz : (⟨s.toArray⟩ : ByteArray).size = s.length := by show s.toArray.size = _; simp
  have HSZ := Lib.hid hsz
  have HB0 := Lib.hid hb0
  have H1 := Lib.hid h1
  have H2 := Lib.hid h2
  have H3 := Lib.hid h3
  have HW0 := Lib.hid hW0
  have HR := Lib.hid h
  obtain ⟨b, off, Ai, ci, rfl, hlat⟩ := h.row_later hl
  have HLAT := Lib.hid hlat
  have HLEN := Lib.hid hlen
  have HPL := Lib.hid hpl
  have hin1 : inB row col W L.length = true := by unfold inB; simp; omega
  have HIN := Lib.hid hin1
  have hse : s.isEmpty = false := by cases s with
    | nil => exact absurd rfl hs0
    | cons _ _ => rfl
  have h64 : decide (64 < (s.length : Int)) = false := by simp; omega
  obtain ⟨n, hn⟩ : ∃ n, n = L.length := ⟨_, rfl⟩
  have HN := Lib.hid hn
  rw [← hn] at hr hri hh5 H1 HW0 HIN ⊢
  have hl5 : l.length ≤ 500 := by omega
  clear hsz hb0 h1 h2 h3 hW0 h hl hlat hpl hin1 hs0 hn hlen
  have pre : ∀ w1, Below W0.heap.size W0 w1 → Blk w1 w.heap.size 29 (rgC W n (some ⟨b, off, none⟩) c) ∧ Blk w1 (w.heap.size + 1) 36 y.cells ∧ Blk w1 (w.heap.size + 1 + 1) 29 (rgC 0 0 none 0) ∧ Below w.heap.size w w1 := fun w1 hb =>
    ⟨H1.out.below hb H1.out.lt, H2.out.below hb H2.out.lt, H3.out.below hb H3.out.lt, HB0.out.trans (hb.mono HB0.out.size)⟩
  have PRE := Lib.hid pre
  clear pre H1 H2 H3 HB0
  rcases hm with rfl | rfl
  · go_enter Tryz.func33, Tryz.ntmps33
    go_upto_region 3 with fail
    rw [← HW0.out]
    obtain ⟨h1, h2, h3, hb0⟩ := PRE.out W0 (Below.refl _ _)
    obtain ⟨e0, e1, e2⟩ := blk3 h1
    clear h1 h2 h3 hb0
    go_wp2_with (fail)
    refine (rthere_any W n _ n c row col W0).mono ?_
    rintro e w1 ⟨rfl, hb1⟩
    rw [HIN.out]
    obtain ⟨h1, h2, h3, hbw⟩ := PRE.out w1 hb1
    obtain ⟨f0, f1, f2⟩ := blk3 h1
    obtain ⟨hcr, hrow⟩ := HLAT.out _ hbw
    have HROW := Lib.hid hrow
    have HB1 := Lib.hid hb1
    clear e0 e1 e2 h1 h2 h3 hbw hrow hb1
    go_wp2_with (fail)
    refine (rblank_any HROW.out col hcol (by omega)).mono ?_
    rintro e w2 ⟨v2, rfl, hr2, hb2⟩
    have e1 : putL l col 1 y = blankM l col := rfl
    rw [← e1] at hr2
    have HROW2 := Lib.hid hr2
    clear e1
    have HB2 := Lib.hid (HB1.out.trans (hb2.mono HB1.out.size))
    have HWS := Lib.hid (show w.heap.size ≤ w1.heap.size from (PRE.out w1 HB1.out).2.2.2.size)
    obtain ⟨A2, c2, rfl⟩ := HROW2.out.len
    rw [HPL.out] at HROW2 ⊢
    clear hr2 hb2 f0 f1 f2 hcr HROW HB1 HLAT
    go_upto_region 9 with fail
    obtain ⟨h1, h2, h3, hb0⟩ := PRE.out w2 HB2.out
    obtain ⟨e0, e1, e2⟩ := blk3 h1
    obtain ⟨y0, y1, y2, y3, y4⟩ := blk5 h2
    have hset := rset_any (w := w2.drew) (HROW2.out.below (Below.refl _ _).drew) col ⟨s, 1, y⟩ (by rw [HPL.out]; exact hcol) (by rw [HPL.out]; omega)
    have HSET := Lib.hid hset
    have H3 := Lib.hid h3
    have HBW := Lib.hid hb0
    clear h1 h2 h3 hb0 hset
    go_region_law (first
      | (refine step_call rfl 64 _ _ rfl enters_rset #[.slice A2 l.length c2, .int .i64 col, .agg #[.string ⟨s.toArray⟩, .int .i64 1, .bool y.b, .bool y.u, .bool y.i, .int .i64 y.f, .int .i64 y.g]] (by simp [Act.eval, Act.put]) HSET.out ?_; rintro e w5 ⟨v5, rfl, hr5, hb5⟩; refine ⟨_, rfl, ?_⟩; have HR5 := Lib.hid hr5; have HB5 := Lib.hid (HB2.out.trans (((Below.refl _ _).drew.trans hb5).mono HB2.out.size)); obtain ⟨h1, h2, h3, hb0⟩ := PRE.out w5 HB5.out; obtain ⟨x0, x1, x2⟩ := blk3 h1; have H35 := Lib.hid h3; have HBW5 := Lib.hid hb0; have hwith := rwith_any (W := W) ((HR.out.mono (D' := (fun b => (D b ∧ b < w.heap.size) ∨ w.heap.size + 3 ≤ b)) (fun b hb h => .inl ⟨h, hb⟩)).below HBW5.out) row (by have := HN.out; omega) (by have := HN.out; omega) (HR5.out.mono (D' := (fun b => (D b ∧ b < w.heap.size) ∨ w.heap.size + 3 ≤ b)) (fun b _ h => .inr (by have := H3.out.lt; have : w2.heap.size ≤ b := h; omega))); rw [← HN.out] at hwith; have HWITH := Lib.hid hwith; clear h1 h2 h3 hb0 hr5 hb5 hwith)
      | (refine step_call rfl 65 _ _ rfl enters_rwith #[.agg #[.int .i64 W, .int .i64 n, .slice (some ⟨b, off, none⟩) n c], .int .i64 row, v5] (by simp [Act.eval, Act.put]) HWITH.out ?_; rintro e w6 ⟨V, rfl, hv6, hb6⟩; refine ⟨_, rfl, ?_⟩; have HV6 := Lib.hid (hv6.mono (D' := (fun b => (D b ∧ b < w.heap.size) ∨ w.heap.size + 3 ≤ b)) (fun b _ h => h.elim id (fun h => .inr (by have := H35.out.lt; omega)))); obtain ⟨A6, c6, rfl, _⟩ := hv6; rw [List.length_set, ← HN.out] at HV6 ⊢; have HB6 := Lib.hid (HBW5.out.trans (hb6.mono HBW5.out.size)); have H36 := Lib.hid (H35.out.below hb6 H35.out.lt); obtain ⟨z0, z1, z2⟩ := blk3 H36.out; have zf0 := H36.out.frozen 0; have zf1 := H36.out.frozen 1; have zf2 := H36.out.frozen 2; clear hb6; simp only [rgC]))
    all_goals
      (try simp only [Act.put])
      go_simp
      go_wp2
      have hf := grid_set3 H36.out W n A6 c6
      exact bodyPost_ret (results_ct rfl rfl rfl hf.1.whole Tryz.underlying29 rfl rg_size) rfl ⟨_, rfl, grid_fin HB6.out HV6.out hf.2⟩
  · have hc1i : (col : Int) + 1 < W := by omega
    have hin2 : Hid (inB row ((col : Int) + 1) W n = true) := by show _ = _; unfold inB; simp; omega
    go_enter Tryz.func33, Tryz.ntmps33
    go_upto_region 3 with fail
    rw [← HW0.out]
    obtain ⟨h1, h2, h3, hb0⟩ := PRE.out W0 (Below.refl _ _)
    obtain ⟨e0, e1, e2⟩ := blk3 h1
    clear h1 h2 h3 hb0
    go_wp2_with (fail)
    refine (rthere_any W n _ n c row col W0).mono ?_
    rintro e w0 ⟨rfl, hb1⟩
    rw [HIN.out]
    obtain ⟨h1, h2, h3, hbw⟩ := PRE.out w0 hb1
    obtain ⟨g0, g1, g2⟩ := blk3 h1
    have HB00 := Lib.hid hb1
    clear e0 e1 e2 h1 h2 h3 hbw hb1
    go_wp2_with (fail)
    refine (rthere_any W n _ n c row ((col : Int) + 1) w0).mono ?_
    rintro e w1 ⟨rfl, hb1'⟩
    rw [hin2.out]
    have hb1 := HB00.out.trans (hb1'.mono HB00.out.size)
    obtain ⟨h1, h2, h3, hbw⟩ := PRE.out w1 hb1
    obtain ⟨f0, f1, f2⟩ := blk3 h1
    obtain ⟨hcr, hrow⟩ := HLAT.out _ hbw
    have HROW := Lib.hid hrow
    have HB1 := Lib.hid hb1
    clear g0 g1 g2 h1 h2 h3 hbw hrow hb1 hb1' HB00
    go_wp2_with (fail)
    refine (rblank_any HROW.out col hcol (by omega)).mono ?_
    rintro e wa ⟨va, rfl, hra, hba⟩
    have HRA := Lib.hid hra
    have HBA := Lib.hid (HB1.out.trans (hba.mono HB1.out.size))
    have HLA : Hid ((blankM l col).length = l.length) := blankM_length l col
    obtain ⟨Aa, ca, rfl⟩ := HRA.out.len
    rw [HLA.out] at HRA ⊢
    clear hra hba
    go_wp2_with (fail)
    have hcall := rblank_any HRA.out (col + 1) (by rw [HLA.out]; have := HLEN.out; omega) (by rw [HLA.out]; omega)
    rw [show ((col + 1 : Nat) : Int) = (col : Int) + 1 by omega] at hcall
    refine hcall.mono ?_
    rintro e wb ⟨vb, rfl, hrb, hbb⟩
    have HRB := Lib.hid (show RowD wb (fun b => wa.heap.size ≤ b) vb (eraseM l col 2) from hrb)
    have HBB := Lib.hid (HBA.out.trans (hbb.mono HBA.out.size))
    have HLB : Hid ((eraseM l col 2).length = l.length) := eraseM_length l col 2
    obtain ⟨Ab, cb, rfl⟩ := HRB.out.len
    rw [HLB.out] at HRB ⊢
    have hyb := (PRE.out wb HBB.out).2.1
    obtain ⟨q0, q1, q2, q3, q4⟩ := blk5 hyb
    have hsz2 : Hid (w.heap.size ≤ wb.heap.size) := (PRE.out wb HBB.out).2.2.2.size
    clear hrb hbb hyb HRA
    go_wp2_with (fail)
    have hcall := rset_any HRB.out (col + 1) (tail_ y) (by rw [HLB.out]; have := HLEN.out; omega) (by rw [HLB.out]; omega)
    rw [show ((col + 1 : Nat) : Int) = (col : Int) + 1 by omega] at hcall
    refine hcall.mono ?_
    rintro e w2 ⟨v2, rfl, hr2, hb2⟩
    have HROW2 := Lib.hid (show RowD w2 (fun b => wb.heap.size ≤ b) v2 (putL l col 2 y) from hr2)
    have HB2 := Lib.hid (HBB.out.trans (hb2.mono HBB.out.size))
    have HWS := hsz2
    obtain ⟨A2, c2, rfl⟩ := HROW2.out.len
    rw [HPL.out] at HROW2 ⊢
    clear hr2 hb2 f0 f1 f2 hcr HROW HB1 HLAT q0 q1 q2 q3 q4
    go_upto_region 9 with fail
    obtain ⟨h1, h2, h3, hb0⟩ := PRE.out w2 HB2.out
    obtain ⟨e0, e1, e2⟩ := blk3 h1
    obtain ⟨y0, y1, y2, y3, y4⟩ := blk5 h2
    have hset := rset_any (w := w2.drew) (HROW2.out.below (Below.refl _ _).drew) col ⟨s, 2, y⟩ (by rw [HPL.out]; exact hcol) (by rw [HPL.out]; omega)
    have HSET := Lib.hid hset
    have H3 := Lib.hid h3
    have HBW := Lib.hid hb0
    clear h1 h2 h3 hb0 hset
    go_region_law (first
      | (refine step_call rfl 64 _ _ rfl enters_rset #[.slice A2 l.length c2, .int .i64 col, .agg #[.string ⟨s.toArray⟩, .int .i64 2, .bool y.b, .bool y.u, .bool y.i, .int .i64 y.f, .int .i64 y.g]] (by simp [Act.eval, Act.put]) HSET.out ?_; rintro e w5 ⟨v5, rfl, hr5, hb5⟩; refine ⟨_, rfl, ?_⟩; have HR5 := Lib.hid hr5; have HB5 := Lib.hid (HB2.out.trans (((Below.refl _ _).drew.trans hb5).mono HB2.out.size)); obtain ⟨h1, h2, h3, hb0⟩ := PRE.out w5 HB5.out; obtain ⟨x0, x1, x2⟩ := blk3 h1; have H35 := Lib.hid h3; have HBW5 := Lib.hid hb0; have hwith := rwith_any (W := W) ((HR.out.mono (D' := (fun b => (D b ∧ b < w.heap.size) ∨ w.heap.size + 3 ≤ b)) (fun b hb h => .inl ⟨h, hb⟩)).below HBW5.out) row (by have := HN.out; omega) (by have := HN.out; omega) (HR5.out.mono (D' := (fun b => (D b ∧ b < w.heap.size) ∨ w.heap.size + 3 ≤ b)) (fun b _ h => .inr (by have := H3.out.lt; have : w2.heap.size ≤ b := h; omega))); rw [← HN.out] at hwith; have HWITH := Lib.hid hwith; clear h1 h2 h3 hb0 hr5 hb5 hwith)
      | (refine step_call rfl 65 _ _ rfl enters_rwith #[.agg #[.int .i64 W, .int .i64 n, .slice (some ⟨b, off, none⟩) n c], .int .i64 row, v5] (by simp [Act.eval, Act.put]) HWITH.out ?_; rintro e w6 ⟨V, rfl, hv6, hb6⟩; refine ⟨_, rfl, ?_⟩; have HV6 := Lib.hid (hv6.mono (D' := (fun b => (D b ∧ b < w.heap.size) ∨ w.heap.size + 3 ≤ b)) (fun b _ h => h.elim id (fun h => .inr (by have := H35.out.lt; omega)))); obtain ⟨A6, c6, rfl, _⟩ := hv6; rw [List.length_set, ← HN.out] at HV6 ⊢; have HB6 := Lib.hid (HBW5.out.trans (hb6.mono HBW5.out.size)); have H36 := Lib.hid (H35.out.below hb6 H35.out.lt); obtain ⟨z0, z1, z2⟩ := blk3 H36.out; have zf0 := H36.out.frozen 0; have zf1 := H36.out.frozen 1; have zf2 := H36.out.frozen 2; clear hb6; simp only [rgC]))
    all_goals
      (try simp only [Act.put])
      go_simp
      go_wp2
      have hf := grid_set3 H36.out W n A6 c6
      exact bodyPost_ret (results_ct rfl rfl rfl hf.1.whole Tryz.underlying29 rfl rg_size) rfl ⟨_, rfl, grid_fin HB6.out HV6.out hf.2⟩
end Go.Proofs.YtipglbpmpcoidaaGreatDoor

namespace Go.Proofs.YtipglbpmpcoidaaGreatDoor
open Go.RowKit
set_option linter.unusedVariables false
set_option linter.unusedSimpArgs false

/-- a reference's rows are all of a width and well formed -/
structure Rws (W : Nat) (L : List (List Cl)) : Prop where
  wd : ∀ (i : Nat) l, L[i]? = some l → l.length = W ∧ Wf l
  w1 : 1 ≤ W
  w5 : W ≤ 500
  h1 : 1 ≤ L.length
  h5 : L.length ≤ 500
theorem GrAt.rws_ {w : World} {lo g rb W : Nat} {bs : List Nat} {L : List (List Cl)} (h : GrAt w lo g rb bs W L) : Rws W L := ⟨fun i l hl => h.some_at hl, h.w1, h.w5, h.h1, h.h5⟩

theorem rput_any {w : World} {D : Nat → Prop} {A : Option Addr} {c W : Nat} {L : List (List Cl)} (h : RfAt w D A c L) (hq : Rws W L) (row col : Int) (s : List UInt8) (m : Int) (y : Sty) (hs : s.length ≤ 1000000) :
    Calls Tryz.prog 33 #[.agg #[.int .i64 W, .int .i64 L.length, .slice A L.length c], .int .i64 row, .int .i64 col, .string ⟨s.toArray⟩, .int .i64 m, .agg y.cells.toArray] w fun e w' => ∃ V, e = .returned (.tuple #[V, .int .i64 (putM W L row col s m y).2]) ∧ RfV w' (fun b => D b ∨ w.heap.size ≤ b) V W (putM W L row col s m y).1 ∧ Below w.heap.size w w' := by
  unfold putM
  by_cases h1 : s = [] ∨ 64 < s.length ∨ (m ≠ 1 ∧ m ≠ 2)
  · rw [if_pos h1]
    exact (rput_no (W := W) (n := L.length) (A := A) (c := c) row col s m y hs 1 hq.w5 (.inl ⟨h1, rfl⟩)).mono fun e w' ⟨he, hb⟩ => ⟨_, he, (h.v.mono (fun b _ h => .inl h)).below hb, hb⟩
  · rw [if_neg h1]
    have hs0 : s ≠ [] := fun e => h1 (.inl e)
    have hs64 : s.length ≤ 64 := by
      rcases Nat.lt_or_ge 64 s.length with h' | h'
      · exact absurd (.inr (.inl h')) h1
      · exact h'
    have hm : m = 1 ∨ m = 2 := by
      by_cases a : m = 1
      · exact .inl a
      · by_cases b : m = 2
        · exact .inr b
        · exact absurd (.inr (.inr ⟨a, b⟩)) h1
    by_cases h2 : inB row col W L.length = false ∨ inB row (col + m - 1) W L.length = false
    · rw [if_pos h2]
      exact (rput_no (W := W) (n := L.length) (A := A) (c := c) row col s m y hs 5 hq.w5 (.inr ⟨⟨hs0, hs64, hm⟩, h2, rfl⟩)).mono fun e w' ⟨he, hb⟩ => ⟨_, he, (h.v.mono (fun b _ h => .inl h)).below hb, hb⟩
    · rw [if_neg h2]
      have a : inB row col W L.length = true := by simpa using fun e => h2 (.inl e)
      have b : inB row (col + m - 1) W L.length = true := by simpa using fun e => h2 (.inr e)
      obtain ⟨a0, a1, a2, a3⟩ : 0 ≤ row ∧ row < L.length ∧ 0 ≤ col ∧ col < W := by simpa [inB] using a
      obtain ⟨b0, b1, b2, b3⟩ : 0 ≤ row ∧ row < L.length ∧ 0 ≤ col + m - 1 ∧ col + m - 1 < W := by simpa [inB] using b
      obtain ⟨r, rfl⟩ := Int.eq_ofNat_of_zero_le a0
      obtain ⟨k, rfl⟩ := Int.eq_ofNat_of_zero_le a2
      obtain ⟨n, rfl⟩ := Int.eq_ofNat_of_zero_le (show 0 ≤ m by omega)
      have hl := getD_some (L := L) (r := r) (by omega)
      exact rput_ok h r k s n y _ hl (hq.wd r _ hl).1 hq.w5 hq.h5 hs0 hs64 (by omega) (by omega)

/-- the worlds in which Erase, Scroll begin -/
def erW0 (w : World) (W n : Nat) (A : Option Addr) (c : Nat) : World := (w.alloc (.cells #[.int .i64 W, .int .i64 n, .slice A n c] 29)).alloc (.cells #[.int .i64 0, .int .i64 0, .slice none 0 0] 29)
theorem erW0_is (w : World) (W n : Nat) (A : Option Addr) (c : Nat) : Below w.heap.size w (erW0 w W n A c) ∧ Blk (erW0 w W n A c) w.heap.size 29 (rgC W n A c) ∧ Blk (erW0 w W n A c) (w.heap.size + 1) 29 (rgC 0 0 none 0) := by
  unfold erW0
  exact ⟨((Below.refl _ _).alloc (Nat.le_refl _) _).alloc (by simp) _, (Blk.new w _ (rgC W n A c)).alloc _, Blk.new1 w _ _ (rgC 0 0 none 0)⟩
theorem grid_fin1 {w w6 w7 : World} {D : Nat → Prop} {V : Value} {W : Nat} {L : List (List Cl)} (hb : Below w.heap.size w w6) (hv : RfV w6 (fun b => (D b ∧ b < w.heap.size) ∨ w.heap.size + 2 ≤ b) V W L) (hc : Chg (one (w.heap.size + 1)) w6 w7) :
    RfV w7 (fun b => D b ∨ w.heap.size ≤ b) V W L ∧ Below w.heap.size w w7 :=
  ⟨(hv.chg hc (fun b _ h e => by have e' : b = w.heap.size + 1 := e; omega)).mono (fun b _ h => h.elim (fun h => .inl h.1) (fun h => .inr (by omega))), hb.trans (hc.below hb.size (fun j e => by have e' : j = w.heap.size + 1 := e; omega))⟩

set_option maxRecDepth 100000 in
set_option maxHeartbeats 4000000 in
theorem rerase_no {w : World} {W n : Nat} {A : Option Addr} {c : Nat} (row a z : Int) (hr : row < 0 ∨ (n : Int) ≤ row) :
    Calls Tryz.prog 35 #[.agg #[.int .i64 W, .int .i64 n, .slice A n c], .int .i64 row, .int .i64 a, .int .i64 z] w fun e w' => e = .returned (.tuple #[.agg (rgC W n A c).toArray, .int .i64 5]) ∧ Below w.heap.size w w' := by
  obtain ⟨hb0, h1, h2⟩ := erW0_is w W n A c
  have hW0 : erW0 w W n A c = (w.alloc (.cells #[.int .i64 W, .int .i64 n, .slice A n c] 29)).alloc (.cells #[.int .i64 0, .int .i64 0, .slice none 0 0] 29) := rfl
  generalize erW0 w W n A c = W0 at hb0 h1 h2 hW0
  have HB0 := Lib.hid hb0
  have H1 := Lib.hid h1
  have H2 := Lib.hid h2
  have HW0 := Lib.hid hW0
  clear hb0 h1 h2 hW0
  have key : row < 0 ∨ (¬ row < 0 ∧ (n : Int) ≤ row) := by omega
  clear hr
  rcases key with hr | ⟨hr, hr2⟩
  all_goals
    go_enter Tryz.func35, Tryz.ntmps35
    go_upto_region 1 with fail
    rw [← HW0.out]
    obtain ⟨e0, e1, e2⟩ := blk3 H1.out
    go_wp2_with ((with_reducible refine at_store 8 ?_); refine wpList_store_blk rfl _ _ _ rfl rfl (w.heap.size + 1) 0 _ (rgC 0 0 none 0) (rgC W n A c) rfl rfl H2.out (by simp [rgC]) rg_size (rgC_one _ _ _ _) ?_; intro w2 hn2 hg2; have hn2' : Blk w2 (w.heap.size + 1) 29 (rgC W n A c) := hn2)
    exact bodyPost_ret (results_ct rfl rfl rfl hn2'.whole Tryz.underlying29 rfl rg_size) rfl ⟨rfl, HB0.out.grown hg2 HB0.out.size (fun j hj => by injection hj with hj; omega)⟩

set_option maxRecDepth 100000 in
set_option maxHeartbeats 4000000 in
theorem rerase_ok {w : World} {D : Nat → Prop} {A : Option Addr} {c W : Nat} {L : List (List Cl)} (h : RfAt w D A c L) (hq : Rws W L) (row : Nat) (a z : Int) (l : List Cl) (hl : L[row]? = some l) :
    Calls Tryz.prog 35 #[.agg #[.int .i64 W, .int .i64 L.length, .slice A L.length c], .int .i64 row, .int .i64 a, .int .i64 z] w fun e w' => ∃ V, e = .returned (.tuple #[V, .int .i64 0]) ∧ RfV w' (fun b => D b ∨ w.heap.size ≤ b) V W (L.set row (eraseM l (max a 0).toNat (min z W - max a 0).toNat)) ∧ Below w.heap.size w w' := by
  have hr : row < L.length := (List.getElem?_eq_some_iff.1 hl).1
  have hri : (row : Int) < L.length := by omega
  have hrj : ¬ (L.length : Int) ≤ row := by omega
  have hlen := (hq.wd row l hl).1
  have hw5 := hq.w5
  have hh5 := hq.h5
  obtain ⟨hb0, h1, h2⟩ := erW0_is w W L.length A c
  have hW0 : erW0 w W L.length A c = (w.alloc (.cells #[.int .i64 W, .int .i64 L.length, .slice A L.length c] 29)).alloc (.cells #[.int .i64 0, .int .i64 0, .slice none 0 0] 29) := rfl
  generalize erW0 w W L.length A c = W0 at hb0 h1 h2 hW0
  have hd1 := h.mono (D' := (fun b => (D b ∧ b < w.heap.size) ∨ w.heap.size + 2 ≤ b)) (fun b hb h => .inl ⟨h, hb⟩)
  obtain ⟨b, off, Ai, ci, rfl, hlat⟩ := hd1.row_later hl
  have HLAT := Lib.hid hlat
  have HB0 := Lib.hid hb0
  have H1 := Lib.hid h1
  have H2 := Lib.hid h2
  have HW0 := Lib.hid hW0
  have HR := Lib.hid hd1
  have HLEN := Lib.hid hlen
  obtain ⟨n, hn⟩ : ∃ n, n = L.length := ⟨_, rfl⟩
  have HN := Lib.hid hn
  obtain ⟨a0, ha0⟩ : ∃ a0 : Nat, max 0 a = (a0 : Int) := ⟨(max 0 a).toNat, by omega⟩
  obtain ⟨E, hE⟩ : ∃ E : Int, min z (W : Int) = E := ⟨_, rfl⟩
  have hEW : E ≤ W := by omega
  have haz : (max a 0).toNat = a0 := by omega
  have hzn : (min z W - max a 0).toNat = (E - a0).toNat := by omega
  rw [haz, hzn]
  rw [← hn] at hr hri hrj hh5 H1 HW0 ⊢
  clear hb0 h1 h2 hW0 h hl hlat hn hq hlen haz hzn hd1
  have pre : ∀ w1, Below W0.heap.size W0 w1 → Blk w1 w.heap.size 29 (rgC W n (some ⟨b, off, none⟩) c) ∧ Blk w1 (w.heap.size + 1) 29 (rgC 0 0 none 0) ∧ Below w.heap.size w w1 := fun w1 hb =>
    ⟨H1.out.below hb H1.out.lt, H2.out.below hb H2.out.lt, HB0.out.trans (hb.mono HB0.out.size)⟩
  have PRE := Lib.hid pre
  obtain ⟨hcr, hrow⟩ := HLAT.out _ HB0.out
  have HROW := Lib.hid hrow
  obtain ⟨e0, e1, e2⟩ := blk3 H1.out
  have HWS := Lib.hid H2.out.lt
  clear pre H1 H2 HB0 hrow
  go_enter Tryz.func35, Tryz.ntmps35
  go_upto_region 1 with fail
  rw [← HW0.out]
  go_wp2_with (fail)
  clear hcr e0 e1 e2
  go_loopw [10, 11] (fun v10 v11 wr => ∃ (j : Nat) (A1 : Option Addr) (c1 : Nat), v11 = .int .i64 j ∧ a0 ≤ j ∧ (j : Int) ≤ max E a0 ∧ v10 = .slice A1 l.length c1 ∧ RowD wr (fun b => (D b ∧ b < w.heap.size) ∨ w.heap.size + 2 ≤ b) (.slice A1 l.length c1) (eraseM l a0 (j - a0)) ∧ Below W0.heap.size W0 wr) (fun _ v11 _ => (E - intOf v11).toNat)
  case atStart => exact ⟨a0, Ai, ci, by first | rfl | rw [ha0], by omega, by omega, rfl, by rw [Nat.sub_self]; exact HROW.out, Below.refl _ _⟩
  case round =>
    obtain ⟨j, A1, c1, rfl, hj, hjE, rfl, hrow, hbr⟩ := hrel
    have HROWJ := Lib.hid hrow
    have HBR := Lib.hid hbr
    obtain ⟨h1, h2, hbw⟩ := PRE.out _ hbr
    obtain ⟨e0, e1, e2⟩ := blk3 h1
    clear hrow hbr h1 h2 hbw
    by_cases hlt : (j : Int) < E
    · have hjl : j < l.length := by have := HLEN.out; omega
      have hl5 : l.length ≤ 500 := by have := HLEN.out; omega
      have hel : Hid ((eraseM l a0 (j - a0)).length = l.length) := eraseM_length l a0 (j - a0)
      go_wp2_with (fail)
      refine (rblank_any HROWJ.out j (by rw [hel.out]; exact hjl) (by rw [hel.out]; omega)).mono ?_
      rintro e w2 ⟨v2, rfl, hr2, hb2⟩
      have hsn : eraseM l a0 (j + 1 - a0) = blankM (eraseM l a0 (j - a0)) j := by
        rw [show j + 1 - a0 = (j - a0) + 1 by omega, eraseM_snoc, show a0 + (j - a0) = j by omega]
      rw [← hsn] at hr2
      have HR2 := Lib.hid hr2
      have HB2 := Lib.hid (HBR.out.trans (hb2.mono HBR.out.size))
      have hsz := HBR.out.size
      have hel2 : Hid ((eraseM l a0 (j + 1 - a0)).length = l.length) := eraseM_length l a0 (j + 1 - a0)
      obtain ⟨A2, c2, rfl⟩ := HR2.out.len
      rw [hel2.out] at HR2 ⊢
      clear hr2 hb2 hsn
      go_wp2_with (fail)
      go_roundw
      case rel => exact ⟨j + 1, A2, c2, by go_num, by omega, by omega, rfl, HR2.out.mono (fun b _ h => .inr (by have h' : _ ≤ b := h; have := HWS.out; omega)), HB2.out⟩
      case measure => simp [intOf]; omega
    · have hje : j - a0 = (E - a0).toNat := by omega
      have hl5 : l.length ≤ 500 := by have := HLEN.out; omega
      rw [hje] at HROWJ
      have hel : Hid ((eraseM l a0 (E - a0).toNat).length = l.length) := eraseM_length l a0 _
      have hwith := rwith_any (W := W) (HR.out.below (PRE.out _ HBR.out).2.2) row (by have := HN.out; omega) (by have := HN.out; omega) HROWJ.out
      rw [← HN.out] at hwith
      have HWITH := Lib.hid hwith
      clear hwith hje
      go_wp2_with (fail)
      refine HWITH.out.mono ?_
      rintro e w5 ⟨V, rfl, hv5, hb5⟩
      have HV5 := Lib.hid (hv5.mono (D' := fun b => (D b ∧ b < w.heap.size) ∨ w.heap.size + 2 ≤ b) (fun b _ h => h.elim id (fun h => .inr (by have := HWS.out; have := HBR.out.size; omega))))
      obtain ⟨A5, c5, rfl, _⟩ := hv5
      rw [List.length_set, ← HN.out] at HV5 ⊢
      have HB5 := Lib.hid (HBR.out.trans (hb5.mono HBR.out.size))
      obtain ⟨h1, h2, hbw⟩ := PRE.out _ HB5.out
      have H25 := Lib.hid h2
      have HBW5 := Lib.hid hbw
      clear h1 h2 hbw hb5 e0 e1 e2
      go_wp2_with ((with_reducible refine at_store 8 ?_); refine wpList_store_blk rfl _ _ _ rfl rfl (w.heap.size + 1) 0 _ (rgC 0 0 none 0) (rgC W n A5 c5) rfl rfl H25.out (by simp [rgC]) rg_size (rgC_one _ _ _ _) ?_; intro w6 hn6 hg6; have hn6' : Blk w6 (w.heap.size + 1) 29 (rgC W n A5 c5) := hn6)
      exact bodyPost_ret (results_ct rfl rfl rfl hn6'.whole Tryz.underlying29 rfl rg_size) rfl ⟨_, rfl, grid_fin1 HBW5.out HV5.out (chg_of_grown hg6)⟩

theorem rerase_any {w : World} {D : Nat → Prop} {A : Option Addr} {c W : Nat} {L : List (List Cl)} (h : RfAt w D A c L) (hq : Rws W L) (row a z : Int) :
    Calls Tryz.prog 35 #[.agg #[.int .i64 W, .int .i64 L.length, .slice A L.length c], .int .i64 row, .int .i64 a, .int .i64 z] w fun e w' => ∃ V, e = .returned (.tuple #[V, .int .i64 (eraseG W L row a z).2]) ∧ RfV w' (fun b => D b ∨ w.heap.size ≤ b) V W (eraseG W L row a z).1 ∧ Below w.heap.size w w' := by
  unfold eraseG
  by_cases h1 : inB row 0 W L.length = false
  · rw [if_pos h1]
    have hr : row < 0 ∨ (L.length : Int) ≤ row := by
      have := hq.w1
      simp [inB] at h1
      omega
    exact (rerase_no (W := W) (n := L.length) (A := A) (c := c) row a z hr).mono fun e w' ⟨he, hb⟩ => ⟨_, he, (h.v.mono (fun b _ h => .inl h)).below hb, hb⟩
  · rw [if_neg h1]
    have a' : inB row 0 W L.length = true := by simpa using h1
    obtain ⟨a0, a1⟩ : 0 ≤ row ∧ row < L.length := by simp [inB] at a'; omega
    obtain ⟨r, rfl⟩ := Int.eq_ofNat_of_zero_le a0
    exact rerase_ok h hq r a z _ (getD_some (by omega))
end Go.Proofs.YtipglbpmpcoidaaGreatDoor

namespace Go.Proofs.YtipglbpmpcoidaaGreatDoor
open Go.RowKit
set_option linter.unusedVariables false
set_option linter.unusedSimpArgs false

theorem rrow_info : (Tryz.prog.info? 93).map (fun i => (i.zero, i.size, i.bytes)) = some (some (.agg #[.slice none 0 0]), 1, 24) := by kernel_rfl

end Go.Proofs.YtipglbpmpcoidaaGreatDoor

namespace Go.Proofs.YtipglbpmpcoidaaGreatDoor
open Go.RowKit
set_option linter.unusedVariables false
set_option linter.unusedSimpArgs false

theorem splice_length (cs ds : List Value) (o : Nat) (h : o + ds.length ≤ cs.length) : (splice cs o ds).length = cs.length := by
  unfold splice
  simp
  omega

end Go.Proofs.YtipglbpmpcoidaaGreatDoor

namespace Go.Proofs.YtipglbpmpcoidaaGreatDoor
open Go.RowKit
set_option linter.unusedVariables false
set_option linter.unusedSimpArgs false

/-- A grid under construction: its box G, its rows so far. -/
structure Bld (w : World) (G base W H : Nat) (A : Option Addr) (c k : Nat) (us : List Value) (L : List (List Cl)) : Prop where
  box : Blk w G 29 [.int .i64 W, .int .i64 H, .slice A k c]
  own : w.ownsRow base 93 1 (.slice A k c) k us
  rows : RowsD w (fun b => base ≤ b ∧ (Value.slice A k c).ownBlock ≠ some b) us L
  nil : A = none → c = 0
namespace Bld
variable {w w3 w5 : World} {G base W H : Nat} {A : Option Addr} {c k : Nat} {us : List Value} {L : List (List Cl)}
theorem e2 (h : Bld w G base W H A c k us L) : w.cell? ⟨G, 2, none⟩ = some (.slice A k c) := h.box.cell 2
theorem below (h : Bld w G base W H A c k us L) (hb : Below w.heap.size w w3) : Bld w3 G base W H A c k us L :=
  ⟨h.box.below hb h.box.lt, h.own.kept (row := none) (grown_of_below hb) (by cases h : (Value.slice A k c).ownBlock <;> simp), h.rows.below hb, h.nil⟩
theorem step (h : Bld w G base W H A c k us L) (hG : G < base) (hbw : base ≤ w.heap.size) (hb3 : Below w.heap.size w w3) {v3 : Value} {l : List Cl} (hr : RowD w3 (fun b => w.heap.size ≤ b) v3 l) {g cap : Nat}
    (ho : w5.ownsRow base 93 1 (.slice (some ⟨g, 0, none⟩) (k + 1) cap) (k + 1) (us ++ [v3])) (hg : (w3.alloc (.cells #[v3] 93)).grownBy w5 (Value.slice A k c).ownBlock) (hat : (Value.slice A k c).ownBlock = some g ∨ g = w3.heap.size + 1) :
    Bld (w5.setCell ⟨G, 2, none⟩ (.slice (some ⟨g, 0, none⟩) (k + 1) cap)) G base W H (some ⟨g, 0, none⟩) cap (k + 1) (us ++ [v3]) (L ++ [l]) ∧ Below G w (w5.setCell ⟨G, 2, none⟩ (.slice (some ⟨g, 0, none⟩) (k + 1) cap)) := by
  have hs3 := hb3.size
  have hlt := h.own.lt
  have hGw : G < w.heap.size := h.box.lt
  have hb5 : Below base w w5 := by
    have h1 : Below base w (w3.alloc (.cells #[v3] 93)) := (hb3.mono hbw).alloc (by omega) _
    exact h1.grown hg (by simp; omega) (fun q hq => (hlt q hq).1)
  have hgb := (ho.lt g rfl)
  have c1' : Chg (fun q => (Value.slice A k c).ownBlock = some q) w3 w5 := ((Chg.refl (fun q => (Value.slice A k c).ownBlock = some q) w3).alloc (.cells #[v3] 93)).grown hg (fun q hq => .inl hq)
  have cG : Chg (one G) w5 (w5.setCell ⟨G, 2, none⟩ (.slice (some ⟨g, 0, none⟩) (k + 1) cap)) := (Chg.refl (one G) w5).setCell (p := ⟨G, 2, none⟩) (.inl rfl) _
  have hne5 : ∀ q, q < w3.heap.size → (Value.slice A k c).ownBlock ≠ some q → (Value.slice (some ⟨g, 0, none⟩) (k + 1) cap).ownBlock ≠ some q := fun q hq hn e => by
    have e' : g = q := by injection e
    rcases hat with h2 | h2
    · rw [e'] at h2; exact hn h2
    · omega
  have hold := ((h.rows.below hb3).mono (D' := fun b => (base ≤ b ∧ (Value.slice (some ⟨g, 0, none⟩) (k + 1) cap).ownBlock ≠ some b) ∧ (Value.slice A k c).ownBlock ≠ some b) (fun q hq h => ⟨⟨h.1, hne5 q hq h.2⟩, h.2⟩)).chg c1' (fun q _ h e => h.2 e)
  have hnew := (hr.mono (D' := fun b => (base ≤ b ∧ (Value.slice (some ⟨g, 0, none⟩) (k + 1) cap).ownBlock ≠ some b) ∧ (Value.slice A k c).ownBlock ≠ some b) (fun q hq h' => by
    have h1 : w.heap.size ≤ q := h'
    have h2 : (Value.slice A k c).ownBlock ≠ some q := fun e => by have := (hlt q e).2; omega
    exact ⟨⟨by omega, hne5 q hq h2⟩, h2⟩)).chg c1' (fun q _ h e => h.2 e)
  refine ⟨⟨?_, ?_, ?_, fun e => by cases e⟩, ?_⟩
  · have hb : Blk w5 G 29 [.int .i64 W, .int .i64 H, .slice A k c] := h.box.below hb5 hG
    exact hb.set_ 2 _
  · exact ho.kept (row := some G) (by
      exact ⟨rfl, rfl, rfl, by simp [World.setCell], fun q hq hn => Below.heap_setCell _ _ _ _ (fun e => hn (by rw [e]))⟩) (.inr (by
        intro e
        have e' : g = G := by injection e
        omega))
  · exact ((hold.snoc hnew).mono (fun q _ h => h.1)).chg cG (fun q _ h e => by have e' : q = G := e; have := h.1; omega)
  · have hbG : Below G w w5 := hb5.mono (Nat.le_of_lt hG)
    exact hbG.setCell (p := ⟨G, 2, none⟩) (Nat.le_refl _) _
/-- the finished grid -/
theorem fin (h : Bld w G base W H A c k us L) (hk : k = H) (hL : L.length = H) : RfV w (fun b => base ≤ b) (.agg (rgC W H A c).toArray) W L := by
  subst hk
  exact ⟨A, c, by rw [hL], h.nil, by rw [hL]; exact own_cap h.own, us, SlD.own h.own, h.rows.mono (fun q _ h => h.1)⟩
end Bld
theorem chg_of_own {a b : World} {r : Option Nat} (h : a.grownBy b r) : Chg (fun q => r = some q) a b := (Chg.refl (fun q => r = some q) a).grown h (fun q hq => .inl hq)
theorem enters_rblanks : ∀ args w, (callFunc 45 args).run Tryz.prog w = .ok (.enter 45 args) w := enters_of Tryz.func45 (by kernel_rfl) rfl

set_option maxHeartbeats 1000000 in
theorem rsize_any (a b : Int) (w : World) : Calls Tryz.prog 44 #[.int .i64 a, .int .i64 b] w fun e w' => e = .returned (.bool (sideB a && sideB b)) ∧ w = w' := by
  go_enter Tryz.func44, Tryz.ntmps44
  go_wp2
  all_goals
    go_ret
    exact ⟨ret_bool (by unfold sideB; rw [Bool.eq_iff_iff]; simp; omega), rfl⟩

set_option maxRecDepth 100000 in
set_option maxHeartbeats 4000000 in
theorem rnew_no (a b : Int) (hbad : sideB a = false ∨ sideB b = false) (w : World) :
    Calls Tryz.prog 20 #[.int .i64 a, .int .i64 b] w fun e w' => e = .returned (.tuple #[.agg (rgC 0 0 none 0).toArray, .int .i64 40]) ∧ Below w.heap.size w w' := by
  have hz : (sideB a && sideB b) = false := by rcases hbad with h | h <;> simp [h]
  have HZ := Lib.hid hz
  have HN := Lib.hid (Blk.new w 29 (rgC 0 0 none 0))
  clear hz hbad
  go_enter Tryz.func20, Tryz.ntmps20
  go_wp2_with (first
    | (go_at_call 44; refine (rsize_any a b _).mono ?_; rintro e w' ⟨rfl, rfl⟩; rw [HZ.out])
    | ((with_reducible refine at_store 4 ?_); refine wpList_store_blk rfl _ _ _ rfl rfl w.heap.size 0 _ (rgC 0 0 none 0) (rgC 0 0 none 0) rfl rfl HN.out (by simp [rgC]) rg_size (rgC_one _ _ _ _) ?_; intro w2 hn2 hg2; have hn2' : Blk w2 w.heap.size 29 (rgC 0 0 none 0) := hn2))
  exact bodyPost_ret (results_ct rfl rfl rfl hn2'.whole Tryz.underlying29 rfl rg_size) rfl ⟨rfl, ((Below.refl _ _).alloc (Nat.le_refl _) _).grown hg2 (by simp) (fun j hj => by injection hj with hj; omega)⟩

set_option maxRecDepth 100000 in
set_option maxHeartbeats 8000000 in
theorem rnew_ok (W H : Nat) (w1 : 1 ≤ W) (w5 : W ≤ 500) (h1 : 1 ≤ H) (h5 : H ≤ 500) (w : World) :
    Calls Tryz.prog 20 #[.int .i64 W, .int .i64 H] w fun e w' => ∃ V, e = .returned (.tuple #[V, .int .i64 0]) ∧ RfV w' (fun b => w.heap.size ≤ b) V W (blankG W H) ∧ Below w.heap.size w w' := by
  have hz : (sideB W && sideB H) = true := by simp [sideB]; omega
  have HZ := Lib.hid hz
  obtain ⟨i0, hi0, hz0, hz1, hz2⟩ := info_parts rrow_info
  have HI0 := Lib.hid hi0
  have HZ0 := Lib.hid hz0
  have HZ1 := Lib.hid hz1
  have HZ2 := Lib.hid hz2
  have HN := Lib.hid (show Blk ((w.alloc (.cells #[.int .i64 0, .int .i64 0, .slice none 0 0] 29)).alloc (.cells #[.int .i64 0, .int .i64 0, .slice none 0 0] 29)) w.heap.size 29 (rgC 0 0 none 0) from (Blk.new w _ (rgC 0 0 none 0)).alloc _)
  have HM := Lib.hid (show Blk ((w.alloc (.cells #[.int .i64 0, .int .i64 0, .slice none 0 0] 29)).alloc (.cells #[.int .i64 0, .int .i64 0, .slice none 0 0] 29)) (w.heap.size + 1) 29 (rgC 0 0 none 0) from Blk.new1 w _ _ (rgC 0 0 none 0))
  clear hz hi0 hz0 hz1 hz2
  go_enter Tryz.func20, Tryz.ntmps20
  go_wp2_with (first
    | (go_at_call 44; refine (rsize_any W H _).mono ?_; rintro e w' ⟨rfl, rfl⟩; rw [HZ.out])
    | ((with_reducible refine at_store 6 ?_); refine wpList_store_blk rfl _ _ _ rfl rfl (w.heap.size + 1) 0 _ (rgC 0 0 none 0) [.int .i64 W, .int .i64 H, .slice none 0 0] rfl rfl HM.out (by simp [rgC]) rg_size (by intro v hv; simp at hv; rcases hv with rfl | rfl | rfl <;> rfl) ?_; intro w2 hn2 hg2; have HM2 := Lib.hid (show Blk w2 (w.heap.size + 1) 29 [.int .i64 W, .int .i64 H, .slice none 0 0] from hn2); have HN2 := Lib.hid (HN.out.chg (chg_of_grown hg2) (fun e => by have e' : w.heap.size = w.heap.size + 1 := e; omega)); have HB2 := Lib.hid ((((Below.refl _ _).alloc (Nat.le_refl _) _).alloc (by simp) _ : Below w.heap.size w _).grown hg2 (by simp; omega) (fun j hj => by injection hj with hj; omega)); clear hn2 hg2))
  go_loopw [7] (fun v7 wr => ∃ (k : Nat) (A1 : Option Addr) (c1 : Nat) (us : List Value), v7 = .int .i64 k ∧ k ≤ H ∧ Bld wr (w.heap.size + 1) (w.heap.size + 2) W H A1 c1 k us (List.replicate k (List.replicate W bl)) ∧ Blk wr w.heap.size 29 (rgC 0 0 none 0) ∧ Below w.heap.size w wr) (fun v7 _ => H - (intOf v7).toNat)
  case atStart => exact ⟨0, none, 0, [], rfl, by omega, ⟨HM2.out, World.ownsRow_nil _ _ _ _, .nil, fun _ => rfl⟩, HN2.out, HB2.out⟩
  case round =>
    obtain ⟨k, A1, c1, us, rfl, hk, hbd, hx, hbr⟩ := hrel
    have HBD := Lib.hid hbd
    have HX := Lib.hid hx
    have HBR := Lib.hid hbr
    have e2 := hbd.e2
    clear hbd hx hbr HM2 HN2 HB2 HM HN
    by_cases hlt : k < H
    · have hki : (k : Int) < H := by omega
      have hwl := HBD.out.box.lt
      go_upto_region 7 with fail
      go_region_law (first
        | (refine step_call rfl 45 _ _ rfl enters_rblanks #[.int .i64 W] (by simp [Act.eval, Act.put]) (rblanks_any W (by omega) _) ?_; rintro e w3 ⟨v3, rfl, hr3, hb3⟩; refine ⟨_, rfl, ?_⟩; have HR3 := Lib.hid hr3; have HB3 := Lib.hid ((Below.refl _ _).drew.trans hb3); have hv1 : v3.oneCell' = true := hr3.one; have HV1 := Lib.hid hv1; have HD3 := Lib.hid (HBD.out.below HB3.out); have f2 := HD3.out.e2; have f3 : (w3.alloc (.cells #[v3] 93)).cell? ⟨w.heap.size + 1, 2, none⟩ = some (.slice A1 k c1) := (HD3.out.box.alloc _).cell 2; clear hr3 hb3 hv1)
        | (refine step_append_lies _ rfl (.tmp 22) (.tmp 25) _ rfl (w.heap.size + 2) 93 i0 _ 1 24 Tryz.underlying27 HI0.out HZ0.out HZ1.out HZ2.out rfl (by omega) (.slice A1 k c1) k us (by simp [Act.eval, Act.put]) (HD3.out.own.alloc _) ⟨w3.heap.size, 0, none⟩ 1 1 [v3] (by simp [Act.eval, Act.put]) rfl (World.news_of_block (cs := #[v3]) (t := 93) (fr := (0, 0)) (heap_alloc_new w3 _)) (fun v hv => by simp at hv; subst hv; exact HV1.out) (by omega) (by simp only [maxLen]; omega) (by omega) (by have := HB3.out.size; simp; omega) (w3.heap.size + 1) (by simp) ?_; intro g cap w5 ho hg hat hgl; have hstep := HBD.out.step (by omega) (by omega) HB3.out HR3.out ho hg hat; have HST := Lib.hid hstep; have hbx := (HD3.out.box.alloc (.cells #[v3] 93)).chg (chg_of_own hg) (fun e => by have := (HD3.out.own.lt _ e).1; omega); have z2 := hbx.cell 2; have zf2 := hbx.frozen 2; clear ho hg hat hbx hstep))
      all_goals
        go_wp2
        go_roundw
        case rel => exact ⟨k + 1, _, cap, us ++ [v3], by go_num, by omega, by have := HST.out.1; rw [← List.replicate_succ'] at this; exact this, HX.out.below HST.out.2 (by omega), HBR.out.trans (HST.out.2.mono (by omega))⟩
        case measure => simp [intOf]; omega
    · have hki : ¬ (k : Int) < H := by omega
      obtain rfl : k = H := by omega
      obtain ⟨e0, e1, e2'⟩ := blk3 (show Blk wr (w.heap.size + 1) 29 (rgC W k A1 c1) from HBD.out.box)
      go_wp2_with ((with_reducible refine at_store 4 ?_); refine wpList_store_blk rfl _ _ _ rfl rfl w.heap.size 0 _ (rgC 0 0 none 0) (rgC W k A1 c1) rfl rfl HX.out (by simp [rgC]) rg_size (rgC_one _ _ _ _) ?_; intro w6 hn6 hg6; have hn6' : Blk w6 w.heap.size 29 (rgC W k A1 c1) := hn6)
      have hv := HBD.out.fin rfl (by simp)
      refine bodyPost_ret (results_ct rfl rfl rfl hn6'.whole Tryz.underlying29 rfl rg_size) rfl ⟨_, rfl, (hv.chg (chg_of_grown hg6) (fun q _ h e => by have e' : q = w.heap.size := e; have h' : w.heap.size + 2 ≤ q := h; omega)).mono (fun q _ h => by have h' : w.heap.size + 2 ≤ q := h; show w.heap.size ≤ q; omega), HBR.out.grown hg6 HBR.out.size (fun j hj => by injection hj with hj; omega)⟩
end Go.Proofs.YtipglbpmpcoidaaGreatDoor

