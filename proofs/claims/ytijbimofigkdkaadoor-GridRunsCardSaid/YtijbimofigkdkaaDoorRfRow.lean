/-
  Walks: the reference's set, blank, blanks (rows of cells).
-/
import Derived.Test.YtijbimofigkdkaaDoorRfMem
import Derived.Test.YtijbimofigkdkaaDoorOwnK
import Derived.Test.YtijbimofigkdkaaDoorGrFew
namespace Go.Proofs.YtijbimofigkdkaaDoor
open Go.RowKit
set_option linter.unusedVariables false
set_option linter.unusedSimpArgs false

set_option maxRecDepth 100000 in
set_option maxHeartbeats 4000000 in
theorem rset_any {w : World} {D : Nat → Prop} {v : Value} {l : List Cl} (h : RowD w D v l) (k : Nat) (x : Cl) (hk : k < l.length) (h5 : l.length ≤ 100000) :
    Calls Tryd.prog 54 #[v, .int .i64 k, .agg x.cells.toArray] w fun e w' => ∃ v', e = .returned v' ∧ RowD w' (fun b => w.heap.size ≤ b) v' (l.set k x) ∧ Below w.heap.size w w' := by
  obtain ⟨A, c, rfl, hnil, hS⟩ := h
  obtain ⟨i0, hi0, hz0, hz1, hz2⟩ := info_parts cl_info
  have HI0 := Lib.hid hi0
  have HZ0 := Lib.hid hz0
  have HZ1 := Lib.hid hz1
  have HZ2 := Lib.hid hz2
  have HS := Lib.hid hS.sl
  have HNIL := Lib.hid hnil
  have HX0 := Lib.hid (Blk.new w 51 x.cells)
  obtain ⟨n, hn⟩ : ∃ n, n = l.length := ⟨_, rfl⟩
  rw [← hn] at hk h5 ⊢
  have HN := Lib.hid hn
  have hki : (k : Int) < n := by omega
  clear hi0 hz0 hz1 hz2 hS hnil hn
  go_enter Tryd.func54, Tryd.ntmps54
  go_wp2_with (first
    | (at_builtin; (refine wpList_append_sl _ rfl (.tmp 8) (.tmp 9) _ rfl (w.heap.size + 1) 51 i0 _ 7 48 Tryd.underlying46 HI0.out HZ0.out HZ1.out HZ2.out rfl (by omega) (.slice (some ⟨w.heap.size + 1, 0, none⟩) 0 0) 0 [] rfl (by have := World.ownsRow_lit (base := w.heap.size + 1) (e := 51) (size := 7) (w.alloc (.cells x.cells.toArray 51)) #[] 0 (by simp) (by simp only [maxLen]; omega) (by simp); simpa using this) w.heap.size A n c (rc l) rfl ((HS.out.alloc (Nat.le_refl _) _).alloc (by simp) _) (by rw [rc_length, HN.out]) HNIL.out.1 (rc_one l) (by simp only [maxLen]; omega) (by omega) (by simp) ?_); intro v' w2 ho hg hat; rw [Nat.zero_add, List.nil_append] at ho; obtain ⟨g, cap, cur, rfl, hbg, hb2, htk, hlc⟩ := own_blk ho (by omega); have HCP := Lib.hid (own_cap ho); have HG := Lib.hid (((Chg.refl noB w).alloc (.cells x.cells.toArray 51)).alloc (.cells #[] 51) |>.grown hg (fun j hj => .inr (by have : some (w.heap.size + 1) = some j := hj; injection this with this; omega))); have HX2 := Lib.hid ((((HX0.out.alloc (.cells #[] 51)).chg (chg_of_grown hg) (by intro e; have e' : w.heap.size = w.heap.size + 1 := e; omega)))); have HB2 := Lib.hid hb2; have HTK := Lib.hid htk; have HBG := Lib.hid hbg; have HLC := Lib.hid hlc; clear ho hg hat hb2 htk hbg hlc)
    | ((with_reducible refine at_dst 13 ?_); refine wpList_load_mid rfl _ _ rfl w.heap.size 0 rfl x.cells _ HX2.out.whole Tryd.underlying51 rfl cl_size ?_)
    | ((with_reducible refine at_store 14 ?_); refine wpList_store_blk rfl _ _ _ rfl rfl g (k * 7) _ cur x.cells rfl rfl HB2.out (by have := HLC.out; rw [Cl.len]; omega) cl_size x.one ?_; intro w3 hn3 hg3))
  go_ret
  have e1 : (splice cur (k * 7) x.cells).take (n * 7) = rc (l.set k x) := by
    rw [take_splice _ _ _ _ (by rw [Cl.len]; omega) HLC.out, HTK.out, rc_splice _ _ _ (by have := HN.out; omega)]
  refine ⟨.slice (some ⟨g, 0, none⟩) n cap, rfl, ⟨_, _, by rw [List.length_set, ← HN.out], ⟨(fun e => by cases e), by rw [List.length_set, ← HN.out]; exact HCP.out⟩, sld_of_blk hn3 e1 (by have := HBG.out; omega)⟩, ?_⟩
  exact (HG.out.none_below).grown hg3 (by have := HG.out.size; exact this) (fun j hj => by injection hj with hj; have := HBG.out; omega)

set_option maxRecDepth 100000 in
set_option maxHeartbeats 4000000 in
theorem rblank_any {w : World} {D : Nat → Prop} {v : Value} {l : List Cl} (h : RowD w D v l) (k : Nat) (hk : k < l.length) (h5 : l.length ≤ 100000) :
    Calls Tryd.prog 55 #[v, .int .i64 k] w fun e w' => ∃ v', e = .returned v' ∧ RowD w' (fun b => w.heap.size ≤ b) v' (blankM l k) ∧ Below w.heap.size w w' := by
  have hc : l[k]? = some l[k] := List.getElem?_eq_getElem hk
  have hB := blank_ref l k _ hc
  generalize l[k] = c at hc hB
  have HR := Lib.hid h
  obtain ⟨A, cp, rfl, hnil, hS⟩ := h
  obtain ⟨b, off, rfl, hbl, _, hcell⟩ := hS.open_ (by rw [rc_length]; omega)
  have hw := hcell _ _ (rc_get hc (j := 1) rfl)
  rw [← Nat.add_assoc] at hw
  obtain ⟨n, hn⟩ : ∃ n, n = l.length := ⟨_, rfl⟩
  rw [← hn] at hk h5 hB ⊢
  rw [← hn] at HR
  have HN := Lib.hid hn
  have HB := Lib.hid hB
  have hki : (k : Int) < n := by omega
  have hset : ∀ (w : World) (D : Nat → Prop) (v : Value) (l : List Cl) (j : Nat), RowD w D v l → j < l.length → l.length = n → Calls Tryd.prog 54 #[v, .int .i64 j, .agg #[.string ⟨#[32]⟩, .int .i64 1, .bool false, .bool false, .bool false, .int .i64 0, .int .i64 0]] w fun e w' => ∃ v', e = .returned v' ∧ RowD w' (fun b => w.heap.size ≤ b) v' (l.set j bl) ∧ Below w.heap.size w w' := fun w D v l j hr hj hl => rset_any hr j bl hj (by omega)
  have HSET := Lib.hid hset
  clear hc hB hn hnil hS hcell hset
  have fin : ∀ (w1 w2 : World) (v' : Value) (m : List Cl), Below w.heap.size w w1 → RowD w2 (fun b => w1.heap.size ≤ b) v' m → Below w1.heap.size w1 w2 → blankM l k = m → ∃ u, Ending.returned v' = .returned u ∧ RowD w2 (fun b => w.heap.size ≤ b) u (blankM l k) ∧ Below w.heap.size w w2 := fun w1 w2 v' m hb1 hr hb2 e =>
    ⟨v', rfl, e ▸ hr.mono (fun b _ hb => Nat.le_trans hb1.size hb), hb1.trans (hb2.mono hb1.size)⟩
  have FIN := Lib.hid fin
  clear fin
  by_cases h2 : c.w = 2
  · have e2 : (c.w == 2) = true := by simp [h2]
    have e0 : (c.w == 0) = false := by simp [h2]
    by_cases hk1 : k + 1 < n
    · have hk1i : (k : Int) + 1 < n := by omega
      have HB' : Hid (blankM l k = (l.set k bl).set (k + 1) bl) := by have := HB.out; rw [if_pos ⟨h2, hk1⟩] at this; exact this
      clear h2
      go_enter Tryd.func55, Tryd.ntmps55
      go_wp2_with (fail)
      refine (HSET.out _ _ _ l k HR.out (by have := HN.out; omega) HN.out.symm).mono ?_
      rintro e w1 ⟨v1, rfl, hr1, hb1⟩
      have HR1 := Lib.hid hr1
      have HB1 := Lib.hid hb1
      obtain ⟨A1, c1, rfl, _, _⟩ := hr1
      have HNN : Hid ((l.set k bl).length = n) := by show _ = _; rw [List.length_set]; exact HN.out.symm
      rw [HNN.out] at HR1 ⊢
      clear hb1
      go_wp2_with (fail)
      have hcall := HSET.out _ _ _ (l.set k bl) (k + 1) HR1.out (by rw [HNN.out]; omega) HNN.out
      rw [show ((k + 1 : Nat) : Int) = (k : Int) + 1 by omega] at hcall
      refine hcall.mono ?_
      rintro e w2 ⟨v2, rfl, hr2, hb2⟩
      have HR2 := Lib.hid hr2
      have HB2 := Lib.hid hb2
      obtain ⟨A2, c2, rfl, _, _⟩ := hr2
      rw [List.length_set, HNN.out] at HR2 ⊢
      clear hb2
      go_wp2
      go_ret
      exact FIN.out _ _ _ _ HB1.out HR2.out HB2.out HB'.out
    · have hk1i : ¬ (k : Int) + 1 < n := by omega
      have HB' : Hid (blankM l k = l.set k bl) := by have := HB.out; rw [if_neg (by omega), if_neg (by omega)] at this; exact this
      clear h2
      go_enter Tryd.func55, Tryd.ntmps55
      go_wp2_with (fail)
      refine (HSET.out _ _ _ l k HR.out (by have := HN.out; omega) HN.out.symm).mono ?_
      rintro e w1 ⟨v1, rfl, hr1, hb1⟩
      have HR1 := Lib.hid hr1
      have HB1 := Lib.hid hb1
      obtain ⟨A1, c1, rfl, _, _⟩ := hr1
      have HNN : Hid ((l.set k bl).length = n) := by show _ = _; rw [List.length_set]; exact HN.out.symm
      rw [HNN.out] at HR1 ⊢
      clear hb1
      go_wp2
      go_ret
      exact FIN.out _ _ _ _ (Below.refl _ _) HR1.out HB1.out HB'.out
  · have e2 : (c.w == 2) = false := by simp [h2]
    by_cases h0 : c.w = 0
    · have e0 : (c.w == 0) = true := by simp [h0]
      by_cases hk1 : 0 < k
      · have hk1i : 0 < (k : Int) := by omega
        have HB' : Hid (blankM l k = (l.set k bl).set (k - 1) bl) := by have := HB.out; rw [if_neg (by omega), if_pos ⟨h0, hk1⟩] at this; exact this
        clear h0 h2
        go_enter Tryd.func55, Tryd.ntmps55
        go_wp2_with (fail)
        refine (HSET.out _ _ _ l k HR.out (by have := HN.out; omega) HN.out.symm).mono ?_
        rintro e w1 ⟨v1, rfl, hr1, hb1⟩
        have HR1 := Lib.hid hr1
        have HB1 := Lib.hid hb1
        obtain ⟨A1, c1, rfl, _, _⟩ := hr1
        have HNN : Hid ((l.set k bl).length = n) := by show _ = _; rw [List.length_set]; exact HN.out.symm
        rw [HNN.out] at HR1 ⊢
        clear hb1
        go_wp2_with (fail)
        have hcall := HSET.out _ _ _ (l.set k bl) (k - 1) HR1.out (by rw [HNN.out]; omega) HNN.out
        rw [show ((k - 1 : Nat) : Int) = (k : Int) - 1 by omega] at hcall
        refine hcall.mono ?_
        rintro e w2 ⟨v2, rfl, hr2, hb2⟩
        have HR2 := Lib.hid hr2
        have HB2 := Lib.hid hb2
        obtain ⟨A2, c2, rfl, _, _⟩ := hr2
        rw [List.length_set, HNN.out] at HR2 ⊢
        clear hb2
        go_wp2
        go_ret
        exact FIN.out _ _ _ _ HB1.out HR2.out HB2.out HB'.out
      · have hk1i : ¬ 0 < (k : Int) := by omega
        have HB' : Hid (blankM l k = l.set k bl) := by have := HB.out; rw [if_neg (by omega), if_neg (by omega)] at this; exact this
        clear h0 h2
        go_enter Tryd.func55, Tryd.ntmps55
        go_wp2_with (fail)
        refine (HSET.out _ _ _ l k HR.out (by have := HN.out; omega) HN.out.symm).mono ?_
        rintro e w1 ⟨v1, rfl, hr1, hb1⟩
        have HR1 := Lib.hid hr1
        have HB1 := Lib.hid hb1
        obtain ⟨A1, c1, rfl, _, _⟩ := hr1
        have HNN : Hid ((l.set k bl).length = n) := by show _ = _; rw [List.length_set]; exact HN.out.symm
        rw [HNN.out] at HR1 ⊢
        clear hb1
        go_wp2
        go_ret
        exact FIN.out _ _ _ _ (Below.refl _ _) HR1.out HB1.out HB'.out
    · have e0 : (c.w == 0) = false := by simp [h0]
      have HB' : Hid (blankM l k = l.set k bl) := by have := HB.out; rw [if_neg (by omega), if_neg (by omega)] at this; exact this
      clear h0 h2
      go_enter Tryd.func55, Tryd.ntmps55
      go_wp2_with (fail)
      refine (HSET.out _ _ _ l k HR.out (by have := HN.out; omega) HN.out.symm).mono ?_
      rintro e w1 ⟨v1, rfl, hr1, hb1⟩
      have HR1 := Lib.hid hr1
      have HB1 := Lib.hid hb1
      obtain ⟨A1, c1, rfl, _, _⟩ := hr1
      have HNN : Hid ((l.set k bl).length = n) := by show _ = _; rw [List.length_set]; exact HN.out.symm
      rw [HNN.out] at HR1 ⊢
      clear hb1
      go_wp2
      go_ret
      exact FIN.out _ _ _ _ (Below.refl _ _) HR1.out HB1.out HB'.out

/-- so many blanks -/
theorem rc_rep_snoc (k : Nat) : rc (List.replicate k bl) ++ bl.cells = rc (List.replicate (k + 1) bl) := by
  rw [List.replicate_succ', rc_append]
  simp [rc]
set_option maxRecDepth 100000 in
set_option maxHeartbeats 4000000 in
theorem rblanks_any (n : Nat) (h5 : n ≤ 100000) (w : World) :
    Calls Tryd.prog 31 #[.int .i64 n] w fun e w' => ∃ v, e = .returned (.agg #[v]) ∧ RowD w' (fun b => w.heap.size ≤ b) v (List.replicate n bl) ∧ Below w.heap.size w w' := by
  obtain ⟨i0, hi0, hz0, hz1, hz2⟩ := info_parts cl_info
  have HI0 := Lib.hid hi0
  have HZ0 := Lib.hid hz0
  have HZ1 := Lib.hid hz1
  have HZ2 := Lib.hid hz2
  clear hi0 hz0 hz1 hz2
  go_enter Tryd.func31, Tryd.ntmps31
  go_wp2_with (fail)
  go_loopw [3, 4] (fun v3 v4 wr => ∃ (k : Nat) (A : Option Addr) (c : Nat), v4 = .int .i64 k ∧ k ≤ n ∧ v3 = .slice A k c ∧ (A = none → c = 0) ∧ wr.ownsRow (w.heap.size + 1) 51 7 (.slice A k c) k (rc (List.replicate k bl)) ∧ Blk wr w.heap.size 77 [.slice none 0 0] ∧ Below w.heap.size w wr) (fun _ v4 _ => n - (intOf v4).toNat)
  case atStart => exact ⟨0, none, 0, rfl, by omega, rfl, fun _ => rfl, World.ownsRow_nil _ _ _ _, Blk.new w _ _, (Below.refl _ _).alloc (Nat.le_refl _) _⟩
  case round =>
    obtain ⟨k, A, c, rfl, hk, rfl, hnil, ho, hx, hb⟩ := hrel
    have HO := Lib.hid ho
    have HX := Lib.hid hx
    have HB := Lib.hid hb
    have HNIL := Lib.hid hnil
    clear ho hx hb hnil
    by_cases hlt : k < n
    · have hki : (k : Int) < n := by omega
      have hws : w.heap.size + 1 ≤ wr.heap.size := by have := HX.out.lt; omega
      go_wp2_with (at_builtin; (refine wpList_append_sl _ rfl (.tmp 10) (.tmp 12) _ rfl (w.heap.size + 1) 51 i0 _ 7 48 Tryd.underlying46 HI0.out HZ0.out HZ1.out HZ2.out rfl (by omega) (.slice A k c) k (rc (List.replicate k bl)) rfl (HO.out.alloc _) (wr.heap.size + 1) (some ⟨wr.heap.size, 0, none⟩) 1 1 bl.cells rfl (Sl.new wr _ _) rfl (fun e => by cases e) bl.one (by simp only [maxLen]; omega) (by omega) (by simp; omega) ?_); intro v' w2 ho hg hat; rw [rc_rep_snoc] at ho; have HO2 := Lib.hid ho; have hbk : (Value.slice A k c).ownBlock = none ∨ ∃ j, (Value.slice A k c).ownBlock = some j ∧ w.heap.size + 1 ≤ j := (by cases hob : (Value.slice A k c).ownBlock with | none => exact .inl rfl | some j => exact .inr ⟨j, rfl, (HO.out.lt j hob).1⟩); have HBK := Lib.hid hbk; have HG2 := Lib.hid hg; obtain ⟨A2, c2, rfl, hnil2, _⟩ := own_of ho; have HNIL2 := Lib.hid hnil2; clear ho hg hat hbk hnil2)
      have hr : ∀ j, (Value.slice A k c).ownBlock = some j → w.heap.size + 1 ≤ j := fun j hj => by
        rcases HBK.out with h | ⟨j', h1, h2⟩
        · rw [h] at hj; cases hj
        · rw [h1] at hj; injection hj with hj; omega
      go_roundw
      case rel =>
        refine ⟨k + 1, A2, c2, by go_num, by omega, rfl, HNIL2.out, HO2.out, ?_, ?_⟩
        · exact (HG2.out.block _ (by have := HX.out.lt; simp; omega) (fun e => by have := hr _ e.symm; omega)).trans (HX.out.alloc _)
        · exact ((HB.out.alloc HB.out.size _).grown HG2.out (by have := HB.out.size; simp; omega) (fun j hj => by have := hr j hj; omega))
      case measure => simp [intOf]; omega
    · have hki : ¬ (k : Int) < n := by omega
      obtain rfl : k = n := by omega
      go_wp2_with ((with_reducible refine at_store 2 ?_); refine wpList_store_blk rfl _ _ _ rfl rfl w.heap.size 0 _ [.slice none 0 0] [.slice A k c] rfl rfl HX.out (by simp) (by kernel_rfl) (fun v hv => by simp at hv; subst hv; rfl) ?_; intro w3 hn3 hg3)
      have hn3' : Blk w3 w.heap.size 77 [.slice A k c] := hn3
      refine bodyPost_ret (results_c rfl rfl hn3'.whole Tryd.underlying77 rfl (by kernel_rfl)) rfl ⟨_, rfl, ?_, ?_⟩
      · have hs := SlD.own HO.out
        have hc := chg_of_grown hg3
        exact ⟨A, c, by rw [List.length_replicate], ⟨HNIL.out, by rw [List.length_replicate]; exact own_cap HO.out⟩, (hs.chg hc (fun b hb h1 h2 => by have h2' : b = w.heap.size := h2; omega)).mono (fun b _ h => by omega)⟩
      · exact HB.out.grown hg3 HB.out.size (fun j hj => by injection hj with hj; omega)
end Go.Proofs.YtijbimofigkdkaaDoor
