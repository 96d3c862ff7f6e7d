/-
  Walk: Resize.
-/
import Derived.Test.YtijbimofigkdkaaDoorGrFitM
import Derived.Test.YtijbimofigkdkaaDoorRfResize
import Derived.Deep.QuietTactic
import Derived.BigQuiet
namespace Go.Proofs.YtijbimofigkdkaaDoor
open Go.RowKit
set_option linter.unusedVariables false
set_option linter.unusedSimpArgs false

theorem set_rows {f : List Cl → List Cl} {kept : List (List Cl)} {k H : Nat} {B l : List Cl} (hl : kept[k]? = some l) (hk : k < H) : ((kept.take k).map f ++ List.replicate (H - k) B).set k (f l) = (kept.take (k + 1)).map f ++ List.replicate (H - (k + 1)) B := by
  have hkl : k < kept.length := (List.getElem?_eq_some_iff.1 hl).1
  have h1 : ((kept.take k).map f).length = k := by simp; omega
  rw [List.set_append_right _ _ (by omega), h1, Nat.sub_self, show H - k = (H - (k + 1)) + 1 by omega, List.replicate_succ, List.set_cons_zero, List.take_add_one, hl, List.map_append]
  simp
theorem rows_get {f : List Cl → List Cl} {kept : List (List Cl)} {k H : Nat} {B : List Cl} (hkl : k < kept.length) (hk : k < H) : ((kept.take k).map f ++ List.replicate (H - k) B)[k]? = some B := by
  have h1 : ((kept.take k).map f).length = k := by simp; omega
  rw [List.getElem?_append_right (by omega), h1, Nat.sub_self, List.getElem?_replicate, if_pos (by omega)]
theorem blk_store7 {w : World} {b : Nat} {t : TypeId} {l : List Cl} (h : Blk w b t (rc l)) (k : Nat) (hk : k < l.length) :
    Blk (((((((w.setCell ⟨b, k * 7, none⟩ (.string ⟨#[32]⟩)).setCell ⟨b, k * 7 + 1, none⟩ (.int .i64 1)).setCell ⟨b, k * 7 + 2, none⟩ (.bool false)).setCell ⟨b, k * 7 + 3, none⟩ (.bool false)).setCell ⟨b, k * 7 + 4, none⟩ (.bool false)).setCell ⟨b, k * 7 + 5, none⟩ (.int .i64 0)).setCell ⟨b, k * 7 + 6, none⟩ (.int .i64 0)) b t (rc (l.set k bl)) ∧
      Chg (one b) w (((((((w.setCell ⟨b, k * 7, none⟩ (.string ⟨#[32]⟩)).setCell ⟨b, k * 7 + 1, none⟩ (.int .i64 1)).setCell ⟨b, k * 7 + 2, none⟩ (.bool false)).setCell ⟨b, k * 7 + 3, none⟩ (.bool false)).setCell ⟨b, k * 7 + 4, none⟩ (.bool false)).setCell ⟨b, k * 7 + 5, none⟩ (.int .i64 0)).setCell ⟨b, k * 7 + 6, none⟩ (.int .i64 0)) := by
  refine ⟨?_, ?_⟩
  · have h7 := ((((((h.set_ (k * 7) (.string ⟨#[32]⟩)).set_ (k * 7 + 1) (.int .i64 1)).set_ (k * 7 + 2) (.bool false)).set_ (k * 7 + 3) (.bool false)).set_ (k * 7 + 4) (.bool false)).set_ (k * 7 + 5) (.int .i64 0)).set_ (k * 7 + 6) (.int .i64 0)
    have e : (((((((rc l).set (k * 7) (.string ⟨#[32]⟩)).set (k * 7 + 1) (.int .i64 1)).set (k * 7 + 2) (.bool false)).set (k * 7 + 3) (.bool false)).set (k * 7 + 4) (.bool false)).set (k * 7 + 5) (.int .i64 0)).set (k * 7 + 6) (.int .i64 0) = rc (l.set k bl) := by
      obtain ⟨P, hP⟩ : ∃ P, P = rc (l.take k) := ⟨_, rfl⟩
      have hPl : P.length = k * 7 := by rw [hP, rc_length, List.length_take]; omega
      have e1 : rc l = P ++ (l[k].cells ++ rc (l.drop (k + 1))) := by
        rw [hP, ← rc_cons, ← rc_append, ← List.drop_eq_getElem_cons hk, List.take_append_drop]
      have e2 : rc (l.set k bl) = P ++ (bl.cells ++ rc (l.drop (k + 1))) := by
        rw [hP, ← rc_cons, ← rc_append, List.set_eq_take_append_cons_drop, if_pos hk]
      have sP : ∀ (X : List Value) (j : Nat) (v : Value), (P ++ X).set (k * 7 + j) v = P ++ X.set j v := fun X j v => by
        rw [List.set_append_right _ _ (by omega), show k * 7 + j - P.length = j by omega]
      have s0 : ∀ (X : List Value) (v : Value), (P ++ X).set (k * 7) v = P ++ X.set 0 v := fun X v => sP X 0 v
      rw [e1, e2, s0, sP, sP, sP, sP, sP, sP]
      rfl
    rw [← e]
    exact h7
  · exact (((((((Chg.refl (one b) w).setCell (p := ⟨b, k * 7, none⟩) (.inl rfl) _).setCell (p := ⟨b, k * 7 + 1, none⟩) (.inl rfl) _).setCell (p := ⟨b, k * 7 + 2, none⟩) (.inl rfl) _).setCell (p := ⟨b, k * 7 + 3, none⟩) (.inl rfl) _).setCell (p := ⟨b, k * 7 + 4, none⟩) (.inl rfl) _).setCell (p := ⟨b, k * 7 + 5, none⟩) (.inl rfl) _).setCell (p := ⟨b, k * 7 + 6, none⟩) (.inl rfl) _

set_option maxRecDepth 100000 in
set_option maxHeartbeats 16000000 in
theorem resize_ok {w : World} {lo g rb W : Nat} {bs : List Nat} {L : List (List Cl)} (h : GrAt w lo g rb bs W L) (hT : BlankT w) (hlo : 0 < lo) (hlo2 : lo ≤ w.heap.size) (W' H' row : Nat) (a1 : 1 ≤ W') (a2 : W' ≤ 500) (a3 : 1 ≤ H') (a4 : H' ≤ 500) (hr : row < L.length) :
    Calls Tryd.prog 25 #[.pointer (some ⟨g, 0, none⟩), .int .i64 W', .int .i64 H', .int .i64 row] w fun e w' => e = .returned (.tuple #[.int .i64 (topM row H'), .int .i64 0]) ∧
      ∃ rb' bs', GrAt w' lo g rb' bs' W' (resizeM L W' H' row) ∧ (∀ k, GrOwn g rb' bs' k → GrOwn g rb bs k ∨ w.heap.size ≤ k) ∧ Chg (GrOwn g rb bs) w w' := by
  obtain ⟨ρ, hρ⟩ : ∃ ρ : Int, (row : Int) = ρ := ⟨_, rfl⟩
  have hρ0 : 0 ≤ ρ := by omega
  have hρ1 : ρ < L.length := by omega
  rw [hρ]
  clear hρ hr
  have hw1 := h.w1
  have hw5 := h.w5
  have hh5 := h.h5
  have hin : inB ρ 0 W L.length = true := by unfold inB; simp; omega
  have HIN := Lib.hid hin
  have HSA : Hid (sideB W' = true) := by show _ = _; simp [sideB]; omega
  have HSB : Hid (sideB H' = true) := by show _ = _; simp [sideB]; omega
  obtain ⟨n, hn⟩ : ∃ n, n = L.length := ⟨_, rfl⟩
  obtain ⟨F, hF⟩ : ∃ F, topM ρ H' = F := ⟨_, rfl⟩
  obtain ⟨kept, hkp⟩ : ∃ kept, (L.drop F).take H' = kept := ⟨_, rfl⟩
  have hM : resizeM L W' H' ρ = kept.map (fitM · W') ++ List.replicate (H' - kept.length) (List.replicate W' bl) := by
    unfold resizeM
    simp only
    rw [hF, hkp]
  rw [hM, hF]
  obtain ⟨K, hK⟩ : ∃ K, K = kept.length := ⟨_, rfl⟩
  have hKe : K = min H' (n - F) := by rw [hK, ← hkp, List.length_take, List.length_drop, hn]
  have hFe : (F : Int) = max 0 (ρ + 1 - H') := by rw [← hF]; unfold topM; omega
  have hget : ∀ i, i < K → kept[i]? = L[F + i]? := fun i hi => by rw [← hkp, List.getElem?_take, if_pos (by omega), List.getElem?_drop]
  rw [← hn] at hρ1 hh5 HIN
  rw [← hK]
  have hFi : max 0 (ρ + 1 - (H' : Int)) = (F : Int) := hFe.symm
  have hmn : min ((F : Int) + (H' : Int)) (n : Int) = (F : Int) + (K : Int) := by omega
  have hFn : F < n := by omega
  have hFK : F + K ≤ n := by omega
  have hK1 : 1 ≤ K := by omega
  have hKH : K ≤ H' := by omega
  have hne : ¬ n = F := by omega
  have hKF : F + K - F = K := by omega
  have hsub : ((F : Int) + (K : Int) - (F : Int)).toNat = K := by omega
  have HG := Lib.hid h
  have HT := Lib.hid hT
  have HN := Lib.hid hn
  have HK := Lib.hid hK
  have HGET := Lib.hid hget
  have e1 : ∀ m, (w.drewN m).cell? ⟨g, 1, none⟩ = some (.slice (some ⟨rb, 0, none⟩) n n) := fun m => by rw [hn]; exact h.rws
  have HE1 := Lib.hid e1
  clear h hT hin hn hF hkp hM hK hKe hFe hget e1
  go_enter Tryd.func25, Tryd.ntmps25
  go_wp2_with (first
    | (go_at_call 33; refine (made_yes g _ HG.out.ptr).mono ?_; rintro e w' ⟨rfl, rfl⟩)
    | (go_at_call_of 28 (Value.int IntKind.i64 (W' : Int)); refine (side_any _ _).mono ?_; rintro e w' ⟨rfl, rfl⟩; rw [HSA.out])
    | (go_at_call 28; refine (side_any _ _).mono ?_; rintro e w' ⟨rfl, rfl⟩; rw [HSB.out]))
  refine (has_bel HG.out ρ 0).mono ?_
  rintro e w1 ⟨rfl, hb1⟩
  rw [← HN.out, HIN.out]
  have HG1 := Lib.hid (HG.out.below hb1)
  have HB1 := Lib.hid hb1
  have f1 : w1.cell? ⟨g, 1, none⟩ = some (.slice (some ⟨rb, 0, none⟩) n n) := by have := HG1.out.rws; rw [← HN.out] at this; exact this
  have hnil0 := HG1.out.ptr
  clear hb1
  go_upto_region 8 with fail
  go_quiet (fail)
  have HT2 := Lib.hid (HT.out.below (below_dN HB1.out nq) HT.out.2)
  have HB2 := Lib.hid (below_dN HB1.out nq)
  have HG2 := Lib.hid (HG1.out.drewN nq)
  clear HG1 HB1 f1 hnil0
  generalize w1.drewN nq = w2 at HT2 HB2 HG2 ⊢
  go_wp2_with (fail)
  refine (blankRows_any W' H' a1 a2 a3 a4 w2 HT2.out).mono ?_
  rintro e w3 ⟨rfl, nb, hR⟩
  have HR := Lib.hid hR
  have HH3 := Lib.hid ((HG2.out.below hR.bel).head)
  clear hR
  go_wp2_with ((with_reducible refine at_store 58 ?_); refine wpList_store_cell rfl _ _ _ rfl rfl g 1 _ _ (.slice (some ⟨w2.heap.size, 0, none⟩) H' H') rfl rfl HH3.out (by simp) (by kernel_rfl) rfl ?_; intro w4 hn4 hg4; have HH4 := Lib.hid (show Blk w4 g 62 [.pointer (some ⟨g, 0, none⟩), .slice (some ⟨w2.heap.size, 0, none⟩) H' H'] from hn4); have HG4 := Lib.hid hg4; clear hn4 hg4)
  have hgl := HG2.out.own_lt g (.inl rfl)
  have hc4 : Chg (one g) w w4 := ((Chg.of_below (S := one g) HB2.out).trans (Chg.of_below (S := one g) HR.out.bel) (fun _ h => .inl h)).trans (chg_of_grown HG4.out) (fun _ h => .inl h)
  have hg4' : GrAt w4 lo g w2.heap.size nb W' (List.replicate H' (List.replicate W' bl)) := by
    have hlo4 := HG2.out.lo g (.inl rfl)
    refine ⟨by rw [List.length_replicate]; exact HH4.out, HR.out.rows.chg (chg_of_grown HG4.out) (fun e => by have e' : w2.heap.size = g := e; omega), by rw [List.length_replicate]; exact HR.out.len, HR.out.nd, fun i q hq => ?_, ?_, a1, a2, by rw [List.length_replicate]; exact a3, by rw [List.length_replicate]; exact a4⟩
    · have hm := List.mem_of_getElem? hq
      have hi := (List.getElem?_eq_some_iff.1 hq).1
      rw [HR.out.len] at hi
      refine ⟨List.replicate W' bl, by rw [List.getElem?_replicate, if_pos hi], by simp, Wf.blanks W', (HR.out.row q hm).chg (chg_of_grown HG4.out) (fun e => by have e' : q = g := e; have := HR.out.hi q hm; omega)⟩
    · rintro k (rfl | rfl | hk)
      · exact hlo4
      · have := HB2.out.size; omega
      · have := HR.out.hi k hk; have := HB2.out.size; omega
  have hhi : ∀ k, GrOwn g w2.heap.size nb k → k = g ∨ w.heap.size ≤ k := fun k hk => by
    have := HB2.out.size
    rcases hk with rfl | rfl | hk
    · exact .inl rfl
    · exact .inr this
    · have := HR.out.hi k hk; exact .inr (by omega)
  have HC4 := Lib.hid hc4
  have HGA := Lib.hid hg4'
  have HHI := Lib.hid hhi
  clear HR HH3 HH4 HG4 hc4 hg4' hhi hgl
  have hrb0 := HG.out.own_lt rb (.inr (.inl rfl))
  have hrg : rb ≠ g := fun e => HG.out.head.ne_ (e ▸ HG.out.rows) (by decide) rfl
  generalize w2.heap.size = rb2 at HGA HHI ⊢
  clear HG2 HB2 HT2
  go_wp2_with (fail)
  go_loopw [61] (fun v61 wr => ∃ k : Nat, v61 = .int .i64 k ∧ k ≤ K ∧ GrAt wr lo g rb2 nb W' ((kept.take k).map (fitM · W') ++ List.replicate (H' - k) (List.replicate W' bl)) ∧ Chg (one g) w wr) (fun v61 _ => K - (intOf v61).toNat)
  case atStart => exact ⟨0, rfl, by omega, by simpa using HGA.out, HC4.out⟩
  case round =>
    obtain ⟨k, rfl, hk, hga, hcw⟩ := hrel
    have HGA2 := Lib.hid hga
    have HCW := Lib.hid hcw
    clear hga hcw HGA HC4
    by_cases hlt : k < K
    · have hki : (k : Int) < K := by omega
      have hkH : k < H' := by omega
      have hkHi : (k : Int) < H' := by omega
      have hkk := HGET.out k hlt
      obtain ⟨b, l, hbi, hl, hrv, hlen, hwf, hb⟩ := HG.out.at_ (i := F + k) (by have := HN.out; omega)
      rw [hl] at hkk
      have hkl : k < kept.length := by have := HK.out; omega
      have hBl := rows_get (f := (fitM · W')) (B := List.replicate W' bl) hkl hkH
      obtain ⟨c, l2, hci, hl2, hrv2, hlen2, hwf2, hc⟩ := HGA2.out.at_ (i := k) (by simp; omega)
      rw [hBl] at hl2
      injection hl2 with hl2
      subst hl2
      have hrvw : wr.cell? ⟨rb, F + k, none⟩ = some (.slice (some ⟨b, 0, none⟩) W W) := HCW.out.cell (p := ⟨rb, F + k, none⟩) hrv (fun e => hrg e)
      have hbg : b ≠ g := fun e => HG.out.head.ne_ (e ▸ hb) (by decide) rfl
      have hbw : Blk wr b 51 (rc l) := hb.chg HCW.out (fun e => hbg e)
      have hr2 := HGA2.out.rws
      have hLen : ((kept.take k).map (fitM · W') ++ List.replicate (H' - k) (List.replicate W' bl)).length = H' := by simp; omega
      rw [hLen] at hr2
      have hrv2' : wr.cell? ⟨rb2, k, none⟩ = some (.slice (some ⟨c, 0, none⟩) W' W') := hrv2
      have hset := set_rows (f := (fitM · W')) (H := H') (B := List.replicate W' bl) hkk hkH
      obtain ⟨x, hx, hfx, hfw⟩ := fit_cpy hwf W' a1 (by omega)
      have HHB := Lib.hid hbw
      have HHC := Lib.hid hc
      have HCI := Lib.hid hci
      have HSET := Lib.hid hset
      have HX := Lib.hid hx
      have HFX := Lib.hid hfx
      have HFW := Lib.hid hfw
      have HLEN := Lib.hid hlen
      have hsrc : ∀ (j : Nat) v, (rc (l.take W'))[j]? = some v → wr.cell? ((⟨b, 0, none⟩ : Addr).add j) = some v := fun j v hv => by
        rw [Addr.add_mid, Nat.zero_add, hbw.cell]
        rw [← rc_take, List.getElem?_take] at hv
        split at hv
        · exact hv
        · cases hv
      have HSRC := Lib.hid hsrc
      have hlt' : (l.take W').length = min W W' := by rw [List.length_take, hlen, Nat.min_comm]
      have HLT := Lib.hid hlt'
      clear hkk hbi hl hrv hlen hwf hb hBl hci hrv2 hlen2 hwf2 hc hbw hLen hset hx hfx hfw hsrc hlt' hkl
      go_upto_region 14 with ((with_reducible refine at_dst 74 ?_); refine wpList_copy_k rfl _ _ _ _ rfl 51 7 Tryd.underlying46 cl_size _ _ W' W' W W rfl rfl c 0 51 _ HHC.out (rc (l.take W')) (min W W') rfl (by rw [rc_length, HLT.out]) (fun _ => ⟨rfl, _, rfl, HSRC.out⟩) (by rw [rc_length, rc_length, HLT.out, List.length_replicate]; omega) (rc_one _) ?_; intro w5 hn5 hg5)
      have e5 := rc_splice_list (List.replicate W' bl) (l.take W') 0
      rw [Nat.zero_mul, cpyM_splice] at e5
      rw [e5] at hn5
      have HH5 := Lib.hid hn5
      have hcg : Chg (one c) wr w5 := chg_of_grown hg5
      have hgc : g ≠ c := fun e => HGA2.out.head.ne_ (e ▸ HHC.out) (by decide) rfl
      have hrc : rb2 ≠ c := fun e => HGA2.out.rows.ne_ (e ▸ HHC.out) (by decide) rfl
      have s1 : w5.cell? ⟨g, 1, none⟩ = some (.slice (some ⟨rb2, 0, none⟩) H' H') := hcg.cell hr2 (fun e => hgc e)
      have s2 : w5.cell? ⟨rb2, k, none⟩ = some (.slice (some ⟨c, 0, none⟩) W' W') := hcg.cell hrv2' (fun e => hrc e)
      obtain ⟨p, hp⟩ : ∃ p, W' - 1 = p := ⟨_, rfl⟩
      have hW1 : (W' : Int) - 1 = (p : Int) := by omega
      have hpW : (p : Int) < W' := by omega
      have hpn : p < W' := by omega
      rw [hp] at HX HFX
      have s3 : w5.cell? ⟨c, p * 7 + 1, none⟩ = some (.int .i64 x.w) := by rw [HH5.out.cell]; exact rc_get HX.out (j := 1) rfl
      have HCG := Lib.hid hcg
      have hclo : w.heap.size ≤ c := by
        rcases HHI.out c (.inr (.inr (List.mem_of_getElem? HCI.out))) with e | e
        · exact absurd e.symm hgc
        · exact e
      have hb5 : 0 ≠ c ∧ 0 ≠ g := by
        have := HG.out.lo g (.inl rfl)
        omega
      have fin : ∀ w6, Blk w6 c 51 (rc (fitM l W')) → Chg (one c) wr w6 → GrAt w6 lo g rb2 nb W' ((kept.take (k + 1)).map (fitM · W') ++ List.replicate (H' - (k + 1)) (List.replicate W' bl)) ∧ Chg (one g) w w6 := fun w6 hb hc => by
        refine ⟨?_, HCW.out.trans hc (fun j e => .inr (by have e' : j = c := e; omega))⟩
        have := HGA2.out.set HCI.out hc (fitM_length l W') HFW.out hb
        rw [HSET.out] at this
        exact this
      have FIN := Lib.hid fin
      have hbt := HT.out.chg (HCW.out.trans hcg (S := one g) (fun j e => .inr (by have e' : j = c := e; omega))) (fun e => hb5.2 e)
      have b0 : w5.cell? ⟨0, 0, none⟩ = some (.string ⟨#[32]⟩) := hbt.1 0 _ rfl
      have b1 : w5.cell? ⟨0, 1, none⟩ = some (.int .i64 1) := hbt.1 1 _ rfl
      have b2 : w5.cell? ⟨0, 2, none⟩ = some (.bool false) := hbt.1 2 _ rfl
      have b3 : w5.cell? ⟨0, 3, none⟩ = some (.bool false) := hbt.1 3 _ rfl
      have b4 : w5.cell? ⟨0, 4, none⟩ = some (.bool false) := hbt.1 4 _ rfl
      have b5 : w5.cell? ⟨0, 5, none⟩ = some (.int .i64 0) := hbt.1 5 _ rfl
      have b6 : w5.cell? ⟨0, 6, none⟩ = some (.int .i64 0) := hbt.1 6 _ rfl
      clear fin hbt hcg hn5 hg5 e5 hp hr2 hrv2' hrvw HSRC
      have key : x.w = 2 ∨ x.w ≠ 2 := by omega
      rcases key with h2 | h2
      · have e2 : (x.w == 2) = true := by simp [h2]
        have HF2 : Hid (fitM l W' = (cpyM l W').set p bl) := by have := HFX.out; rw [if_pos h2] at this; exact this
        have hcl : p < (cpyM l W').length := by rw [cpyM_length]; omega
        have c0 : w5.cell? ⟨c, p * 7, none⟩ = some (.string ⟨x.s.toArray⟩) := by rw [HH5.out.cell]; exact rc_get HX.out (j := 0) rfl
        have c2 : w5.cell? ⟨c, p * 7 + 2, none⟩ = some (.bool x.y.b) := by rw [HH5.out.cell]; exact rc_get HX.out (j := 2) rfl
        have c3 : w5.cell? ⟨c, p * 7 + 3, none⟩ = some (.bool x.y.u) := by rw [HH5.out.cell]; exact rc_get HX.out (j := 3) rfl
        have c4 : w5.cell? ⟨c, p * 7 + 4, none⟩ = some (.bool x.y.i) := by rw [HH5.out.cell]; exact rc_get HX.out (j := 4) rfl
        have c5 : w5.cell? ⟨c, p * 7 + 5, none⟩ = some (.int .i64 x.y.f) := by rw [HH5.out.cell]; exact rc_get HX.out (j := 5) rfl
        have c6 : w5.cell? ⟨c, p * 7 + 6, none⟩ = some (.int .i64 x.y.g) := by rw [HH5.out.cell]; exact rc_get HX.out (j := 6) rfl
        have z0 := HH5.out.frozen (p * 7)
        have z1 := HH5.out.frozen (p * 7 + 1)
        have z2 := HH5.out.frozen (p * 7 + 2)
        have z3 := HH5.out.frozen (p * 7 + 3)
        have z4 := HH5.out.frozen (p * 7 + 4)
        have z5 := HH5.out.frozen (p * 7 + 5)
        have z6 := HH5.out.frozen (p * 7 + 6)
        have hst := blk_store7 HH5.out p hcl
        rw [← HF2.out] at hst
        have HST := Lib.hid hst
        clear hst h2 hcl
        go_upto_region 16 with fail
        go_region_law (fail)
        all_goals
          (try simp only [Act.put])
          go_simp
          go_wp2
          have hf := FIN.out _ HST.out.1.drew ((HCG.out.trans HST.out.2 (fun _ h => .inl h)).drew)
          exact ⟨⟨k + 1, by go_num, by omega, hf.1, hf.2⟩, by simp [intOf]; omega⟩
      · have e2 : (x.w == 2) = false := by simp [h2]
        have HF2 : Hid (fitM l W' = cpyM l W') := by have := HFX.out; rw [if_neg h2] at this; exact this
        have hb6 := HH5.out
        rw [← HF2.out] at hb6
        have HB6 := Lib.hid hb6
        clear hb6 h2
        go_wp2_with (fail)
        go_roundw
        case rel =>
          have := FIN.out w5 HB6.out HCG.out
          exact ⟨k + 1, by go_num, by omega, this.1, this.2⟩
        case measure => simp [intOf]; omega
    · have hkK : k = K := by omega
      have hki : ¬ (k : Int) < K := by omega
      have hg9 : GrAt wr lo g rb2 nb W' (kept.map (fitM · W') ++ List.replicate (H' - K) (List.replicate W' bl)) := by
        have h1 := HGA2.out
        rw [hkK, List.take_of_length_le (by have := HK.out; omega)] at h1
        exact h1
      have HG9 := Lib.hid hg9
      clear hg9 hkK
      go_wp2
      go_ret2
      exact ⟨rfl, rb2, nb, HG9.out, fun j hj => (HHI.out j hj).elim (fun e => .inl (.inl e)) .inr, HCW.out.mono (fun j e => .inl (.inl e))⟩
end Go.Proofs.YtijbimofigkdkaaDoor
