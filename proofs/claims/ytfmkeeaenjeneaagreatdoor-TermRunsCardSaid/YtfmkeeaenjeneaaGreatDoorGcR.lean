/-
  What Resize makes of a row, as plain lists.
  Walk: Resize.
  Walk: the grid's Resize, whatever comes (as in GrStep, for programs without law 4).
  Walks: the program's Resize of a terminal.
-/
import Derived.Test.YtfmkeeaenjeneaaGreatDoorGfP
import Derived.Deep.QuietTactic
import Derived.BigQuiet
import Derived.Test.YtfmkeeaenjeneaaGreatDoorGcS
import Derived.Test.YtfmkeeaenjeneaaGreatDoorQuietB
import Derived.Test.YtfmkeeaenjeneaaGreatDoorRegT
namespace Go.Proofs.YtfmkeeaenjeneaaGreatDoor
open Go.RowKit
set_option linter.unusedVariables false

theorem Wf.append {l m : List Cl} (hl : Wf l) (hm : Wf m) : Wf (l ++ m) := by
  have get : ∀ (i : Nat) c, (l ++ m)[i]? = some c → (i < l.length ∧ l[i]? = some c) ∨ (l.length ≤ i ∧ m[i - l.length]? = some c) := fun i c h => by
    by_cases hi : i < l.length
    · rw [List.getElem?_append_left hi] at h; exact .inl ⟨hi, h⟩
    · rw [List.getElem?_append_right (by omega)] at h; exact .inr ⟨by omega, h⟩
  refine ⟨fun i c h => ?_, fun i c h h2 => ?_, fun i c h h0 => ?_, fun i c h h0 => ?_, fun i c h => ?_⟩
  · rcases get i c h with ⟨_, h⟩ | ⟨_, h⟩
    · exact hl.w _ _ h
    · exact hm.w _ _ h
  · rcases get i c h with ⟨hi, h⟩ | ⟨hi, h⟩
    · have h3 := hl.wide _ _ h h2
      have := (List.getElem?_eq_some_iff.1 h3).1
      rw [List.getElem?_append_left this]
      exact h3
    · have h3 := hm.wide _ _ h h2
      rw [List.getElem?_append_right (by omega), show i + 1 - l.length = i - l.length + 1 by omega]
      exact h3
  · rcases get i c h with ⟨hi, h⟩ | ⟨hi, h⟩
    · obtain ⟨j, d, hj, hd, hw⟩ := hl.tail _ _ h h0
      refine ⟨j, d, hj, ?_, hw⟩
      rw [List.getElem?_append_left (by omega)]
      exact hd
    · obtain ⟨j, d, hj, hd, hw⟩ := hm.tail _ _ h h0
      refine ⟨l.length + j, d, by omega, ?_, hw⟩
      rw [List.getElem?_append_right (by omega), show l.length + j - l.length = j by omega]
      exact hd
  · rcases get i c h with ⟨_, h⟩ | ⟨_, h⟩
    · exact hl.full _ _ h h0
    · exact hm.full _ _ h h0
  · rcases get i c h with ⟨_, h⟩ | ⟨_, h⟩
    · exact hl.short _ _ h
    · exact hm.short _ _ h
theorem Wf.take {l : List Cl} (hl : Wf l) (k : Nat) (hk : ∀ c, l[k - 1]? = some c → c.w ≠ 2) : Wf (l.take k) := by
  have get : ∀ (i : Nat) c, (l.take k)[i]? = some c → i < k ∧ l[i]? = some c := fun i c h => by
    rw [List.getElem?_take] at h
    split at h
    · next hi => exact ⟨hi, h⟩
    · cases h
  refine ⟨fun i c h => hl.w _ _ (get i c h).2, fun i c h h2 => ?_, fun i c h h0 => ?_, fun i c h h0 => hl.full _ _ (get i c h).2 h0, fun i c h => hl.short _ _ (get i c h).2⟩
  · obtain ⟨hi, h⟩ := get i c h
    have h3 := hl.wide _ _ h h2
    rw [List.getElem?_take, if_pos]
    · exact h3
    · rcases Nat.lt_or_ge (i + 1) k with h' | h'
      · exact h'
      · exfalso
        have : i = k - 1 := by omega
        subst this
        exact hk c h h2
  · obtain ⟨hi, h⟩ := get i c h
    obtain ⟨j, d, hj, hd, hw⟩ := hl.tail _ _ h h0
    refine ⟨j, d, hj, ?_, hw⟩
    rw [List.getElem?_take, if_pos (by omega)]
    exact hd

/-- a row behind the copy -/
def cpyM (l : List Cl) (W : Nat) : List Cl := l.take W ++ List.replicate (W - l.length) bl
theorem cpyM_length (l : List Cl) (W : Nat) : (cpyM l W).length = W := by unfold cpyM; simp; omega
theorem cpyM_splice (l : List Cl) (W : Nat) : splice (List.replicate W bl) 0 (l.take W) = cpyM l W := by
  unfold splice cpyM
  rw [List.take_zero, List.nil_append, Nat.zero_add, List.drop_replicate, List.length_take]
  congr 2
  omega
/-- the last cell of it, and the row that fits -/
theorem fit_cpy {l : List Cl} (hl : Wf l) (W : Nat) (h1 : 1 ≤ W) (hl1 : 1 ≤ l.length) : ∃ x, (cpyM l W)[W - 1]? = some x ∧ fitM l W = (if x.w = 2 then (cpyM l W).set (W - 1) bl else cpyM l W) ∧ Wf (fitM l W) := by
  rcases Nat.lt_or_ge l.length W with hW | hW
  · -- wider
    have hc : cpyM l W = l ++ List.replicate (W - l.length) bl := by unfold cpyM; rw [List.take_of_length_le (by omega)]
    have hx : (cpyM l W)[W - 1]? = some bl := by
      rw [hc, List.getElem?_append_right (by omega), List.getElem?_replicate, if_pos (by omega)]
    have hlast : l[l.length - 1]? = some (l[l.length - 1]'(by omega)) := List.getElem?_eq_getElem _
    have hnw : (l[l.length - 1]'(by omega)).w ≠ 2 := fun e => by
      have := hl.wide _ _ hlast e
      have := (List.getElem?_eq_some_iff.1 this).1
      omega
    have hf : fitM l W = cpyM l W := by
      unfold fitM cpyM
      simp only
      rw [List.take_of_length_le (by omega), hlast]
      simp only
      rw [if_neg hnw]
    refine ⟨bl, hx, by rw [hf, if_neg (by simp [bl])], ?_⟩
    rw [hf, hc]
    exact hl.append (Wf.blanks _)
  · have hlen : (l.take W).length = W := by rw [List.length_take]; omega
    have hc : cpyM l W = l.take W := by unfold cpyM; rw [show W - l.length = 0 by omega]; simp
    have hlast : l[W - 1]? = some (l[W - 1]'(by omega)) := List.getElem?_eq_getElem _
    have hlt : (l.take W)[W - 1]? = some (l[W - 1]'(by omega)) := by rw [List.getElem?_take, if_pos (by omega)]; exact hlast
    generalize l[W - 1]'(by omega) = x at hlast hlt
    have hf : fitM l W = if x.w = 2 then (l.take W).set (W - 1) bl else l.take W := by
      unfold fitM
      simp only
      rw [hlen, hlt]
      simp
    refine ⟨x, by rw [hc]; exact hlt, by rw [hf, hc], ?_⟩
    rw [hf]
    split
    · next h2 =>
      have e : (l.take W).set (W - 1) bl = (blankM l (W - 1)).take W := by
        unfold blankM
        rw [hlast]
        simp only
        rw [if_pos h2, show W - 1 + 1 = W by omega, List.take_set, List.take_set]
        congr 1
        rw [List.set_eq_of_length_le (by rw [hlen]; omega)]
      rw [e]
      refine (hl.blank (W - 1)).take W fun c hcc => ?_
      rw [blankM_self hl (by omega)] at hcc
      injection hcc with hcc
      subst hcc
      simp [bl]
    · next h2 =>
      refine hl.take W fun c hcc => ?_
      rw [hlast] at hcc
      injection hcc with hcc
      subst hcc
      exact h2
end Go.Proofs.YtfmkeeaenjeneaaGreatDoor

namespace Go.Proofs.YtfmkeeaenjeneaaGreatDoor
open Go.RowKit
set_option linter.unusedVariables false
set_option linter.unusedSimpArgs false

theorem set_rows {f : List Cl → List Cl} {kept : List (List Cl)} {k H : Nat} {B l : List Cl} (hl : kept[k]? = some l) (hk : k < H) : ((kept.take k).map f ++ List.replicate (H - k) B).set k (f l) = (kept.take (k + 1)).map f ++ List.replicate (H - (k + 1)) B := by
  have hkl : k < kept.length := (List.getElem?_eq_some_iff.1 hl).1
  have h1 : ((kept.take k).map f).length = k := by simp; omega
  rw [List.set_append_right _ _ (by omega), h1, Nat.sub_self, show H - k = (H - (k + 1)) + 1 by omega, List.replicate_succ, List.set_cons_zero, List.take_add_one, hl, List.map_append]
  simp
theorem rows_get {f : List Cl → List Cl} {kept : List (List Cl)} {k H : Nat} {B : List Cl} (hkl : k < kept.length) (hk : k < H) : ((kept.take k).map f ++ List.replicate (H - k) B)[k]? = some B := by
  have h1 : ((kept.take k).map f).length = k := by simp; omega
  rw [List.getElem?_append_right (by omega), h1, Nat.sub_self, List.getElem?_replicate, if_pos (by omega)]
theorem blk_store7 {w : World} {b : Nat} {t : TypeId} {l : List Cl} (h : Blk w b t (rc l)) (k : Nat) (hk : k < l.length) :
    Blk (((((((w.setCell ⟨b, k * 7, none⟩ (.string ⟨#[32]⟩)).setCell ⟨b, k * 7 + 1, none⟩ (.int .i64 1)).setCell ⟨b, k * 7 + 2, none⟩ (.bool false)).setCell ⟨b, k * 7 + 3, none⟩ (.bool false)).setCell ⟨b, k * 7 + 4, none⟩ (.bool false)).setCell ⟨b, k * 7 + 5, none⟩ (.int .i64 0)).setCell ⟨b, k * 7 + 6, none⟩ (.int .i64 0)) b t (rc (l.set k bl)) ∧
      Chg (one b) w (((((((w.setCell ⟨b, k * 7, none⟩ (.string ⟨#[32]⟩)).setCell ⟨b, k * 7 + 1, none⟩ (.int .i64 1)).setCell ⟨b, k * 7 + 2, none⟩ (.bool false)).setCell ⟨b, k * 7 + 3, none⟩ (.bool false)).setCell ⟨b, k * 7 + 4, none⟩ (.bool false)).setCell ⟨b, k * 7 + 5, none⟩ (.int .i64 0)).setCell ⟨b, k * 7 + 6, none⟩ (.int .i64 0)) := by
  refine ⟨?_, ?_⟩
  · have h7 := ((((((h.set_ (k * 7) (.string ⟨#[32]⟩)).set_ (k * 7 + 1) (.int .i64 1)).set_ (k * 7 + 2) (.bool false)).set_ (k * 7 + 3) (.bool false)).set_ (k * 7 + 4) (.bool false)).set_ (k * 7 + 5) (.int .i64 0)).set_ (k * 7 + 6) (.int .i64 0)
    have e : (((((((rc l).set (k * 7) (.string ⟨#[32]⟩)).set (k * 7 + 1) (.int .i64 1)).set (k * 7 + 2) (.bool false)).set (k * 7 + 3) (.bool false)).set (k * 7 + 4) (.bool false)).set (k * 7 + 5) (.int .i64 0)).set (k * 7 + 6) (.int .i64 0) = rc (l.set k bl) := by
      obtain ⟨P, hP⟩ : ∃ P, P = rc (l.take k) := ⟨_, rfl⟩
      have hPl : P.length = k * 7 := by rw [hP, rc_length, List.length_take]; omega
      have e1 : rc l = P ++ (l[k].cells ++ rc (l.drop (k + 1))) := by
        rw [hP, ← rc_cons, ← rc_append, ← List.drop_eq_getElem_cons hk, List.take_append_drop]
      have e2 : rc (l.set k bl) = P ++ (bl.cells ++ rc (l.drop (k + 1))) := by
        rw [hP, ← rc_cons, ← rc_append, List.set_eq_take_append_cons_drop, if_pos hk]
      have sP : ∀ (X : List Value) (j : Nat) (v : Value), (P ++ X).set (k * 7 + j) v = P ++ X.set j v := fun X j v => by
        rw [List.set_append_right _ _ (by omega), show k * 7 + j - P.length = j by omega]
      have s0 : ∀ (X : List Value) (v : Value), (P ++ X).set (k * 7) v = P ++ X.set 0 v := fun X v => sP X 0 v
      rw [e1, e2, s0, sP, sP, sP, sP, sP, sP]
      rfl
    rw [← e]
    exact h7
  · exact (((((((Chg.refl (one b) w).setCell (p := ⟨b, k * 7, none⟩) (.inl rfl) _).setCell (p := ⟨b, k * 7 + 1, none⟩) (.inl rfl) _).setCell (p := ⟨b, k * 7 + 2, none⟩) (.inl rfl) _).setCell (p := ⟨b, k * 7 + 3, none⟩) (.inl rfl) _).setCell (p := ⟨b, k * 7 + 4, none⟩) (.inl rfl) _).setCell (p := ⟨b, k * 7 + 5, none⟩) (.inl rfl) _).setCell (p := ⟨b, k * 7 + 6, none⟩) (.inl rfl) _

set_option maxRecDepth 100000 in
set_option maxHeartbeats 16000000 in
theorem resize_ok {w : World} {lo g rb W : Nat} {bs : List Nat} {L : List (List Cl)} (h : GrAt w lo g rb bs W L) (hT : BlankT w) (hlo : 0 < lo) (hlo2 : lo ≤ w.heap.size) (W' H' row : Nat) (a1 : 1 ≤ W') (a2 : W' ≤ 500) (a3 : 1 ≤ H') (a4 : H' ≤ 500) (hr : row < L.length) :
    Calls Tryz.prog 29 #[.pointer (some ⟨g, 0, none⟩), .int .i64 W', .int .i64 H', .int .i64 row] w fun e w' => e = .returned (.tuple #[.int .i64 (topM row H'), .int .i64 0]) ∧
      ∃ rb' bs', GrAt w' lo g rb' bs' W' (resizeM L W' H' row) ∧ (∀ k, GrOwn g rb' bs' k → GrOwn g rb bs k ∨ w.heap.size ≤ k) ∧ Chg (GrOwn g rb bs) w w' := by
  obtain ⟨ρ, hρ⟩ : ∃ ρ : Int, (row : Int) = ρ := ⟨_, rfl⟩
  have hρ0 : 0 ≤ ρ := by omega
  have hρ1 : ρ < L.length := by omega
  rw [hρ]
  clear hρ hr
  have hw1 := h.w1
  have hw5 := h.w5
  have hh5 := h.h5
  have hin : inB ρ 0 W L.length = true := by unfold inB; simp; omega
  have HIN := Lib.hid hin
  have HSA : Hid (sideB W' = true) := by show _ = _; simp [sideB]; omega
  have HSB : Hid (sideB H' = true) := by show _ = _; simp [sideB]; omega
  obtain ⟨n, hn⟩ : ∃ n, n = L.length := ⟨_, rfl⟩
  obtain ⟨F, hF⟩ : ∃ F, topM ρ H' = F := ⟨_, rfl⟩
  obtain ⟨kept, hkp⟩ : ∃ kept, (L.drop F).take H' = kept := ⟨_, rfl⟩
  have hM : resizeM L W' H' ρ = kept.map (fitM · W') ++ List.replicate (H' - kept.length) (List.replicate W' bl) := by
    unfold resizeM
    simp only
    rw [hF, hkp]
  rw [hM, hF]
  obtain ⟨K, hK⟩ : ∃ K, K = kept.length := ⟨_, rfl⟩
  have hKe : K = min H' (n - F) := by rw [hK, ← hkp, List.length_take, List.length_drop, hn]
  have hFe : (F : Int) = max 0 (ρ + 1 - H') := by rw [← hF]; unfold topM; omega
  have hget : ∀ i, i < K → kept[i]? = L[F + i]? := fun i hi => by rw [← hkp, List.getElem?_take, if_pos (by omega), List.getElem?_drop]
  rw [← hn] at hρ1 hh5 HIN
  rw [← hK]
  have hFi : max 0 (ρ + 1 - (H' : Int)) = (F : Int) := hFe.symm
  have hmn : min ((F : Int) + (H' : Int)) (n : Int) = (F : Int) + (K : Int) := by omega
  have hFn : F < n := by omega
  have hFK : F + K ≤ n := by omega
  have hK1 : 1 ≤ K := by omega
  have hKH : K ≤ H' := by omega
  have hne : ¬ n = F := by omega
  have hKF : F + K - F = K := by omega
  have hsub : ((F : Int) + (K : Int) - (F : Int)).toNat = K := by omega
  have HG := Lib.hid h
  have HT := Lib.hid hT
  have HN := Lib.hid hn
  have HK := Lib.hid hK
  have HGET := Lib.hid hget
  have e1 : ∀ m, (w.drewN m).cell? ⟨g, 1, none⟩ = some (.slice (some ⟨rb, 0, none⟩) n n) := fun m => by rw [hn]; exact h.rws
  have HE1 := Lib.hid e1
  clear h hT hin hn hF hkp hM hK hKe hFe hget e1
  go_enter Tryz.func29, Tryz.ntmps29
  go_wp2_with (first
    | (go_at_call 59; refine (made_yes g _ HG.out.ptr).mono ?_; rintro e w' ⟨rfl, rfl⟩)
    | (go_at_call_of 44 (Value.int IntKind.i64 (W' : Int)); refine (side_any _ _).mono ?_; rintro e w' ⟨rfl, rfl⟩; rw [HSA.out])
    | (go_at_call 44; refine (side_any _ _).mono ?_; rintro e w' ⟨rfl, rfl⟩; rw [HSB.out]))
  refine (has_bel HG.out ρ 0).mono ?_
  rintro e w1 ⟨rfl, hb1⟩
  rw [← HN.out, HIN.out]
  have HG1 := Lib.hid (HG.out.below hb1)
  have HB1 := Lib.hid hb1
  have f1 : w1.cell? ⟨g, 1, none⟩ = some (.slice (some ⟨rb, 0, none⟩) n n) := by have := HG1.out.rws; rw [← HN.out] at this; exact this
  have hnil0 := HG1.out.ptr
  clear hb1
  go_upto_region 8 with fail
  go_quiet (fail)
  have HT2 := Lib.hid (HT.out.below (below_dN HB1.out nq) HT.out.2)
  have HB2 := Lib.hid (below_dN HB1.out nq)
  have HG2 := Lib.hid (HG1.out.drewN nq)
  clear HG1 HB1 f1 hnil0
  generalize w1.drewN nq = w2 at HT2 HB2 HG2 ⊢
  go_wp2_with (fail)
  refine (blankRows_any W' H' a1 a2 a3 a4 w2 HT2.out).mono ?_
  rintro e w3 ⟨rfl, nb, hR⟩
  have HR := Lib.hid hR
  have HH3 := Lib.hid ((HG2.out.below hR.bel).head)
  clear hR
  go_wp2_with ((with_reducible refine at_store 58 ?_); refine wpList_store_cell rfl _ _ _ rfl rfl g 1 _ _ (.slice (some ⟨w2.heap.size, 0, none⟩) H' H') rfl rfl HH3.out (by simp) (by kernel_rfl) rfl ?_; intro w4 hn4 hg4; have HH4 := Lib.hid (show Blk w4 g 91 [.pointer (some ⟨g, 0, none⟩), .slice (some ⟨w2.heap.size, 0, none⟩) H' H'] from hn4); have HG4 := Lib.hid hg4; clear hn4 hg4)
  have hgl := HG2.out.own_lt g (.inl rfl)
  have hc4 : Chg (one g) w w4 := ((Chg.of_below (S := one g) HB2.out).trans (Chg.of_below (S := one g) HR.out.bel) (fun _ h => .inl h)).trans (chg_of_grown HG4.out) (fun _ h => .inl h)
  have hg4' : GrAt w4 lo g w2.heap.size nb W' (List.replicate H' (List.replicate W' bl)) := by
    have hlo4 := HG2.out.lo g (.inl rfl)
    refine ⟨by rw [List.length_replicate]; exact HH4.out, HR.out.rows.chg (chg_of_grown HG4.out) (fun e => by have e' : w2.heap.size = g := e; omega), by rw [List.length_replicate]; exact HR.out.len, HR.out.nd, fun i q hq => ?_, ?_, a1, a2, by rw [List.length_replicate]; exact a3, by rw [List.length_replicate]; exact a4⟩
    · have hm := List.mem_of_getElem? hq
      have hi := (List.getElem?_eq_some_iff.1 hq).1
      rw [HR.out.len] at hi
      refine ⟨List.replicate W' bl, by rw [List.getElem?_replicate, if_pos hi], by simp, Wf.blanks W', (HR.out.row q hm).chg (chg_of_grown HG4.out) (fun e => by have e' : q = g := e; have := HR.out.hi q hm; omega)⟩
    · rintro k (rfl | rfl | hk)
      · exact hlo4
      · have := HB2.out.size; omega
      · have := HR.out.hi k hk; have := HB2.out.size; omega
  have hhi : ∀ k, GrOwn g w2.heap.size nb k → k = g ∨ w.heap.size ≤ k := fun k hk => by
    have := HB2.out.size
    rcases hk with rfl | rfl | hk
    · exact .inl rfl
    · exact .inr this
    · have := HR.out.hi k hk; exact .inr (by omega)
  have HC4 := Lib.hid hc4
  have HGA := Lib.hid hg4'
  have HHI := Lib.hid hhi
  clear HR HH3 HH4 HG4 hc4 hg4' hhi hgl
  have hrb0 := HG.out.own_lt rb (.inr (.inl rfl))
  have hrg : rb ≠ g := fun e => HG.out.head.ne_ (e ▸ HG.out.rows) (by decide) rfl
  generalize w2.heap.size = rb2 at HGA HHI ⊢
  clear HG2 HB2 HT2
  go_wp2_with (fail)
  go_loopw [61] (fun v61 wr => ∃ k : Nat, v61 = .int .i64 k ∧ k ≤ K ∧ GrAt wr lo g rb2 nb W' ((kept.take k).map (fitM · W') ++ List.replicate (H' - k) (List.replicate W' bl)) ∧ Chg (one g) w wr) (fun v61 _ => K - (intOf v61).toNat)
  case atStart => exact ⟨0, rfl, by omega, by simpa using HGA.out, HC4.out⟩
  case round =>
    obtain ⟨k, rfl, hk, hga, hcw⟩ := hrel
    have HGA2 := Lib.hid hga
    have HCW := Lib.hid hcw
    clear hga hcw HGA HC4
    by_cases hlt : k < K
    · have hki : (k : Int) < K := by omega
      have hkH : k < H' := by omega
      have hkHi : (k : Int) < H' := by omega
      have hkk := HGET.out k hlt
      obtain ⟨b, l, hbi, hl, hrv, hlen, hwf, hb⟩ := HG.out.at_ (i := F + k) (by have := HN.out; omega)
      rw [hl] at hkk
      have hkl : k < kept.length := by have := HK.out; omega
      have hBl := rows_get (f := (fitM · W')) (B := List.replicate W' bl) hkl hkH
      obtain ⟨c, l2, hci, hl2, hrv2, hlen2, hwf2, hc⟩ := HGA2.out.at_ (i := k) (by simp; omega)
      rw [hBl] at hl2
      injection hl2 with hl2
      subst hl2
      have hrvw : wr.cell? ⟨rb, F + k, none⟩ = some (.slice (some ⟨b, 0, none⟩) W W) := HCW.out.cell (p := ⟨rb, F + k, none⟩) hrv (fun e => hrg e)
      have hbg : b ≠ g := fun e => HG.out.head.ne_ (e ▸ hb) (by decide) rfl
      have hbw : Blk wr b 83 (rc l) := hb.chg HCW.out (fun e => hbg e)
      have hr2 := HGA2.out.rws
      have hLen : ((kept.take k).map (fitM · W') ++ List.replicate (H' - k) (List.replicate W' bl)).length = H' := by simp; omega
      rw [hLen] at hr2
      have hrv2' : wr.cell? ⟨rb2, k, none⟩ = some (.slice (some ⟨c, 0, none⟩) W' W') := hrv2
      have hset := set_rows (f := (fitM · W')) (H := H') (B := List.replicate W' bl) hkk hkH
      obtain ⟨x, hx, hfx, hfw⟩ := fit_cpy hwf W' a1 (by omega)
      have HHB := Lib.hid hbw
      have HHC := Lib.hid hc
      have HCI := Lib.hid hci
      have HSET := Lib.hid hset
      have HX := Lib.hid hx
      have HFX := Lib.hid hfx
      have HFW := Lib.hid hfw
      have HLEN := Lib.hid hlen
      have hsrc : ∀ (j : Nat) v, (rc (l.take W'))[j]? = some v → wr.cell? ((⟨b, 0, none⟩ : Addr).add j) = some v := fun j v hv => by
        rw [Addr.add_mid, Nat.zero_add, hbw.cell]
        rw [← rc_take, List.getElem?_take] at hv
        split at hv
        · exact hv
        · cases hv
      have HSRC := Lib.hid hsrc
      have hlt' : (l.take W').length = min W W' := by rw [List.length_take, hlen, Nat.min_comm]
      have HLT := Lib.hid hlt'
      clear hkk hbi hl hrv hlen hwf hb hBl hci hrv2 hlen2 hwf2 hc hbw hLen hset hx hfx hfw hsrc hlt' hkl
      go_upto_region 14 with ((with_reducible refine at_dst 74 ?_); refine wpList_copy_k rfl _ _ _ _ rfl 83 7 Tryz.underlying78 cl_size _ _ W' W' W W rfl rfl c 0 83 _ HHC.out (rc (l.take W')) (min W W') rfl (by rw [rc_length, HLT.out]) (fun _ => ⟨rfl, _, rfl, HSRC.out⟩) (by rw [rc_length, rc_length, HLT.out, List.length_replicate]; omega) (rc_one _) ?_; intro w5 hn5 hg5)
      have e5 := rc_splice_list (List.replicate W' bl) (l.take W') 0
      rw [Nat.zero_mul, cpyM_splice] at e5
      rw [e5] at hn5
      have HH5 := Lib.hid hn5
      have hcg : Chg (one c) wr w5 := chg_of_grown hg5
      have hgc : g ≠ c := fun e => HGA2.out.head.ne_ (e ▸ HHC.out) (by decide) rfl
      have hrc : rb2 ≠ c := fun e => HGA2.out.rows.ne_ (e ▸ HHC.out) (by decide) rfl
      have s1 : w5.cell? ⟨g, 1, none⟩ = some (.slice (some ⟨rb2, 0, none⟩) H' H') := hcg.cell hr2 (fun e => hgc e)
      have s2 : w5.cell? ⟨rb2, k, none⟩ = some (.slice (some ⟨c, 0, none⟩) W' W') := hcg.cell hrv2' (fun e => hrc e)
      obtain ⟨p, hp⟩ : ∃ p, W' - 1 = p := ⟨_, rfl⟩
      have hW1 : (W' : Int) - 1 = (p : Int) := by omega
      have hpW : (p : Int) < W' := by omega
      have hpn : p < W' := by omega
      rw [hp] at HX HFX
      have s3 : w5.cell? ⟨c, p * 7 + 1, none⟩ = some (.int .i64 x.w) := by rw [HH5.out.cell]; exact rc_get HX.out (j := 1) rfl
      have HCG := Lib.hid hcg
      have hclo : w.heap.size ≤ c := by
        rcases HHI.out c (.inr (.inr (List.mem_of_getElem? HCI.out))) with e | e
        · exact absurd e.symm hgc
        · exact e
      have hb5 : 0 ≠ c ∧ 0 ≠ g := by
        have := HG.out.lo g (.inl rfl)
        omega
      have fin : ∀ w6, Blk w6 c 83 (rc (fitM l W')) → Chg (one c) wr w6 → GrAt w6 lo g rb2 nb W' ((kept.take (k + 1)).map (fitM · W') ++ List.replicate (H' - (k + 1)) (List.replicate W' bl)) ∧ Chg (one g) w w6 := fun w6 hb hc => by
        refine ⟨?_, HCW.out.trans hc (fun j e => .inr (by have e' : j = c := e; omega))⟩
        have := HGA2.out.set HCI.out hc (fitM_length l W') HFW.out hb
        rw [HSET.out] at this
        exact this
      have FIN := Lib.hid fin
      have hbt := HT.out.chg (HCW.out.trans hcg (S := one g) (fun j e => .inr (by have e' : j = c := e; omega))) (fun e => hb5.2 e)
      have b0 : w5.cell? ⟨0, 0, none⟩ = some (.string ⟨#[32]⟩) := hbt.1 0 _ rfl
      have b1 : w5.cell? ⟨0, 1, none⟩ = some (.int .i64 1) := hbt.1 1 _ rfl
      have b2 : w5.cell? ⟨0, 2, none⟩ = some (.bool false) := hbt.1 2 _ rfl
      have b3 : w5.cell? ⟨0, 3, none⟩ = some (.bool false) := hbt.1 3 _ rfl
      have b4 : w5.cell? ⟨0, 4, none⟩ = some (.bool false) := hbt.1 4 _ rfl
      have b5 : w5.cell? ⟨0, 5, none⟩ = some (.int .i64 0) := hbt.1 5 _ rfl
      have b6 : w5.cell? ⟨0, 6, none⟩ = some (.int .i64 0) := hbt.1 6 _ rfl
      clear fin hbt hcg hn5 hg5 e5 hp hr2 hrv2' hrvw HSRC
      have key : x.w = 2 ∨ x.w ≠ 2 := by omega
      rcases key with h2 | h2
      · have e2 : (x.w == 2) = true := by simp [h2]
        have HF2 : Hid (fitM l W' = (cpyM l W').set p bl) := by have := HFX.out; rw [if_pos h2] at this; exact this
        have hcl : p < (cpyM l W').length := by rw [cpyM_length]; omega
        have c0 : w5.cell? ⟨c, p * 7, none⟩ = some (.string ⟨x.s.toArray⟩) := by rw [HH5.out.cell]; exact rc_get HX.out (j := 0) rfl
        have c2 : w5.cell? ⟨c, p * 7 + 2, none⟩ = some (.bool x.y.b) := by rw [HH5.out.cell]; exact rc_get HX.out (j := 2) rfl
        have c3 : w5.cell? ⟨c, p * 7 + 3, none⟩ = some (.bool x.y.u) := by rw [HH5.out.cell]; exact rc_get HX.out (j := 3) rfl
        have c4 : w5.cell? ⟨c, p * 7 + 4, none⟩ = some (.bool x.y.i) := by rw [HH5.out.cell]; exact rc_get HX.out (j := 4) rfl
        have c5 : w5.cell? ⟨c, p * 7 + 5, none⟩ = some (.int .i64 x.y.f) := by rw [HH5.out.cell]; exact rc_get HX.out (j := 5) rfl
        have c6 : w5.cell? ⟨c, p * 7 + 6, none⟩ = some (.int .i64 x.y.g) := by rw [HH5.out.cell]; exact rc_get HX.out (j := 6) rfl
        have z0 := HH5.out.frozen (p * 7)
        have z1 := HH5.out.frozen (p * 7 + 1)
        have z2 := HH5.out.frozen (p * 7 + 2)
        have z3 := HH5.out.frozen (p * 7 + 3)
        have z4 := HH5.out.frozen (p * 7 + 4)
        have z5 := HH5.out.frozen (p * 7 + 5)
        have z6 := HH5.out.frozen (p * 7 + 6)
        have hst := blk_store7 HH5.out p hcl
        rw [← HF2.out] at hst
        have HST := Lib.hid hst
        clear hst h2 hcl
        go_upto_region 16 with fail
        go_region_law (fail)
        all_goals
          (try simp only [Act.put])
          go_simp
          go_wp2
          have hf := FIN.out _ HST.out.1.drew ((HCG.out.trans HST.out.2 (fun _ h => .inl h)).drew)
          exact ⟨⟨k + 1, by go_num, by omega, hf.1, hf.2⟩, by simp [intOf]; omega⟩
      · have e2 : (x.w == 2) = false := by simp [h2]
        have HF2 : Hid (fitM l W' = cpyM l W') := by have := HFX.out; rw [if_neg h2] at this; exact this
        have hb6 := HH5.out
        rw [← HF2.out] at hb6
        have HB6 := Lib.hid hb6
        clear hb6 h2
        go_wp2_with (fail)
        go_roundw
        case rel =>
          have := FIN.out w5 HB6.out HCG.out
          exact ⟨k + 1, by go_num, by omega, this.1, this.2⟩
        case measure => simp [intOf]; omega
    · have hkK : k = K := by omega
      have hki : ¬ (k : Int) < K := by omega
      have hg9 : GrAt wr lo g rb2 nb W' (kept.map (fitM · W') ++ List.replicate (H' - K) (List.replicate W' bl)) := by
        have h1 := HGA2.out
        rw [hkK, List.take_of_length_le (by have := HK.out; omega)] at h1
        exact h1
      have HG9 := Lib.hid hg9
      clear hg9 hkK
      go_wp2
      go_ret2
      exact ⟨rfl, rb2, nb, HG9.out, fun j hj => (HHI.out j hj).elim (fun e => .inl (.inl e)) .inr, HCW.out.mono (fun j e => .inl (.inl e))⟩
end Go.Proofs.YtfmkeeaenjeneaaGreatDoor

namespace Go.Proofs.YtfmkeeaenjeneaaGreatDoor
open Go.RowKit
set_option linter.unusedVariables false
set_option linter.unusedSimpArgs false

set_option maxHeartbeats 1000000 in
theorem resize_no {w : World} {lo g rb W : Nat} {bs : List Nat} {L : List (List Cl)} (h : GrAt w lo g rb bs W L) (a b row : Int) (q : Int) (hbad : ((sideB a = false ∨ sideB b = false) ∧ q = 40) ∨ (sideB a = true ∧ sideB b = true ∧ inB row 0 W L.length = false ∧ q = 5)) :
    Calls Tryz.prog 29 #[.pointer (some ⟨g, 0, none⟩), .int .i64 a, .int .i64 b, .int .i64 row] w fun e w' => e = .returned (.tuple #[.int .i64 0, .int .i64 q]) ∧ Below w.heap.size w w' := by
  have H := Lib.hid h
  clear h
  rcases hbad with ⟨h1, rfl⟩ | ⟨h1, h2, h3, rfl⟩
  · obtain ⟨x, hx⟩ : ∃ x, sideB a = x := ⟨_, rfl⟩
    obtain ⟨y, hy⟩ : ∃ y, sideB b = y := ⟨_, rfl⟩
    rw [hx, hy] at h1
    have HX := Lib.hid hx
    have HY := Lib.hid hy
    clear hx hy
    have key : x = false ∨ (x = true ∧ y = false) := by cases x <;> cases y <;> simp_all
    clear h1
    rcases key with rfl | ⟨rfl, rfl⟩
    · go_enter Tryz.func29, Tryz.ntmps29
      go_wp2_with (first
        | (go_at_call 59; refine (made_yes g _ H.out.ptr).mono ?_; rintro e w' ⟨rfl, rfl⟩)
        | (go_at_call 44; refine (side_any _ _).mono ?_; rintro e w' ⟨rfl, rfl⟩; rw [HX.out]))
      go_ret2
      exact ⟨rfl, Below.refl _ _⟩
    · go_enter Tryz.func29, Tryz.ntmps29
      go_wp2_with (go_at_call 59; refine (made_yes g _ H.out.ptr).mono ?_; rintro e w' ⟨rfl, rfl⟩)
      refine (side_any _ _).mono ?_
      rintro e w' ⟨rfl, rfl⟩
      rw [HX.out]
      go_wp2_with (fail)
      refine (side_any _ _).mono ?_
      rintro e w' ⟨rfl, rfl⟩
      rw [HY.out]
      go_wp2
      go_ret2
      exact ⟨rfl, Below.refl _ _⟩
  · have HX := Lib.hid h1
    have HY := Lib.hid h2
    have HIN := Lib.hid h3
    clear h1 h2 h3
    go_enter Tryz.func29, Tryz.ntmps29
    go_wp2_with (go_at_call 59; refine (made_yes g _ H.out.ptr).mono ?_; rintro e w' ⟨rfl, rfl⟩)
    refine (side_any _ _).mono ?_
    rintro e w' ⟨rfl, rfl⟩
    rw [HX.out]
    go_wp2_with (fail)
    refine (side_any _ _).mono ?_
    rintro e w' ⟨rfl, rfl⟩
    rw [HY.out]
    go_wp2_with (fail)
    refine (has_bel H.out row 0).mono ?_
    rintro e w1 ⟨rfl, hb1⟩
    rw [HIN.out]
    go_wp2
    go_ret2
    exact ⟨rfl, hb1⟩
/-- Resize, whatever comes -/
theorem resize_any {w : World} {lo g rb W : Nat} {bs : List Nat} {L : List (List Cl)} (h : GrAt w lo g rb bs W L) (hT : BlankT w) (hlo : 0 < lo) (hlo2 : lo ≤ w.heap.size) (a b row : Int) :
    Calls Tryz.prog 29 #[.pointer (some ⟨g, 0, none⟩), .int .i64 a, .int .i64 b, .int .i64 row] w fun e w' => e = .returned (.tuple #[.int .i64 (rszM W L a b row).2.2.1, .int .i64 (rszM W L a b row).2.2.2]) ∧
      ∃ rb' bs', GrAt w' lo g rb' bs' (rszM W L a b row).2.1 (rszM W L a b row).1 ∧ (∀ k, GrOwn g rb' bs' k → GrOwn g rb bs k ∨ w.heap.size ≤ k) ∧ Chg (GrOwn g rb bs) w w' := by
  unfold rszM
  by_cases h1 : sideB a = false ∨ sideB b = false
  · rw [if_pos h1]
    exact (resize_no h a b row 40 (.inl ⟨h1, rfl⟩)).mono fun e w' ⟨he, hb⟩ => ⟨he, rb, bs, h.below hb, fun _ h => .inl h, Chg.of_below hb⟩
  · rw [if_neg h1]
    have ha : sideB a = true := by simpa using fun e => h1 (.inl e)
    have hb : sideB b = true := by simpa using fun e => h1 (.inr e)
    by_cases h2 : inB row 0 W L.length = false
    · rw [if_pos h2]
      exact (resize_no h a b row 5 (.inr ⟨ha, hb, h2, rfl⟩)).mono fun e w' ⟨he, hb⟩ => ⟨he, rb, bs, h.below hb, fun _ h => .inl h, Chg.of_below hb⟩
    · rw [if_neg h2]
      have a' : inB row 0 W L.length = true := by simpa using h2
      obtain ⟨r0, r1⟩ : 0 ≤ row ∧ row < L.length := by simp [inB] at a'; omega
      obtain ⟨A1, A2⟩ : 1 ≤ a ∧ a ≤ 500 := by simpa [sideB] using ha
      obtain ⟨B1, B2⟩ : 1 ≤ b ∧ b ≤ 500 := by simpa [sideB] using hb
      obtain ⟨r, rfl⟩ := Int.eq_ofNat_of_zero_le r0
      obtain ⟨x, rfl⟩ := Int.eq_ofNat_of_zero_le (show 0 ≤ a by omega)
      obtain ⟨y, rfl⟩ := Int.eq_ofNat_of_zero_le (show 0 ≤ b by omega)
      exact resize_ok h hT hlo hlo2 x y r (by omega) (by omega) (by omega) (by omega) (by omega)

end Go.Proofs.YtfmkeeaenjeneaaGreatDoor

namespace Go.Proofs.YtfmkeeaenjeneaaGreatDoor
open Go.RowKit Go.Sort
set_option linter.unusedVariables false
set_option linter.unusedSimpArgs false

/-- a terminal of another size -/
def rszT (T : TS) (x y : Nat) : TS := { T with W := x, L := resizeM T.L x y T.row, scr := wrap64 (T.scr + (topM T.row y : Int)), row := T.row - topM T.row y, col := min T.col (x - 1), pend := false, joins := false }
theorem rsz_len (L : List (List Cl)) (W H : Nat) (row : Int) : (resizeM L W H row).length = H := by
  unfold resizeM
  simp only [List.length_append, List.length_map, List.length_replicate, List.length_take, List.length_drop]
  omega
/-- another size: the terminal's blocks may be others -/
def TmMoved (w : World) (lo t g rb : Nat) (bs : List Nat) (T : TS) (B : List UInt8) (w' : World) : Prop :=
  ∃ rb' bs', TmAt w' lo t g rb' bs' T B ∧ (∀ k, TmOwn t g rb' bs' k → TmOwn t g rb bs k ∨ w.heap.size ≤ k) ∧ Chg (TmOwn t g rb bs) w w'
set_option maxRecDepth 100000 in
set_option maxHeartbeats 8000000 in
theorem tresize_ok {w : World} {lo t g rb : Nat} {bs : List Nat} {T : TS} {B : List UInt8} (h : TmAt w lo t g rb bs T B) (hbase : Base w lo) (x y : Nat) (x1 : 1 ≤ x) (x5 : x ≤ 500) (y1 : 1 ≤ y) (y5 : y ≤ 500) :
    Calls Tryz.prog 12 #[.pointer (some ⟨t, 0, none⟩), .int .i64 x, .int .i64 y] w fun e w' => e = .returned (.int .i64 0) ∧ TmMoved w lo t g rb bs (rszT T x y) B w' := by
  have hrow := h.row
  have hcol := h.col
  have hh5 := h.grid.h5
  have hw5 := h.grid.w5
  obtain ⟨xs, hx1, hx2, hx3⟩ := h.blk
  have c0 := h.cell 0 (by omega)
  have c1 := h.cell 1 (by omega)
  have c2 := h.cell 2 (by omega)
  simp only [tmc, stc, List.getElem?_cons_zero, List.getElem?_cons_succ, List.cons_append] at c0 c1 c2
  obtain ⟨K, hK⟩ : ∃ K, K = topM T.row y := ⟨_, rfl⟩
  have hKr : K ≤ T.row := by rw [hK]; unfold topM; omega
  have hKy : T.row - K < y := by rw [hK]; unfold topM; omega
  have HM : Hid (rszM T.W T.L x y T.row = (resizeM T.L x y T.row, x, (K : Int), 0)) := Lib.hid (by
    unfold rszM
    rw [if_neg (by simp [sideB]; omega), if_neg (by simp [inB]; have := h.grid.w1; omega)]
    simp only [Int.toNat_natCast]
    rw [← hK])
  have HRZ : Hid (∀ W, Below w.heap.size w W → Calls Tryz.prog 29 #[.pointer (some ⟨g, 0, none⟩), .int .i64 x, .int .i64 y, .int .i64 T.row] W fun e w' => e = .returned (.tuple #[.int .i64 K, .int .i64 0]) ∧ ∃ rb' bs', GrAt w' lo g rb' bs' x (resizeM T.L x y T.row) ∧ (∀ k, GrOwn g rb' bs' k → GrOwn g rb bs k ∨ W.heap.size ≤ k) ∧ Chg (GrOwn g rb bs) W w') := Lib.hid (fun W hW => by
    have hb := hbase.below hW
    have := resize_any (h.below hW).grid hb.bl hb.b1 hb.b4 x y T.row
    rw [HM.out] at this
    exact this)
  have HR : Hid (rszT T x y = { T with W := x, L := resizeM T.L x y T.row, scr := wrap64 (T.scr + (K : Int)), row := T.row - K, col := min T.col (x - 1), pend := false, joins := false }) := Lib.hid (by unfold rszT; rw [← hK])
  have hrk : (T.row : Int) - (K : Int) = ((T.row - K : Nat) : Int) := by omega
  have hmn : min (T.col : Int) ((x : Int) - 1) = ((min T.col (x - 1) : Nat) : Int) := by omega
  have HRK := Lib.hid hrk
  have HMN := Lib.hid hmn
  have hxi : 1 ≤ (x : Int) := by omega
  have hxi5 : (x : Int) ≤ 500 := by omega
  have hki : (K : Int) ≤ 500 := by omega
  have hri : (T.row : Int) ≤ 500 := by omega
  have hci : (T.col : Int) ≤ 500 := by omega
  have HX1 := Lib.hid hx1
  have HX2 := Lib.hid hx2
  have HX3 := Lib.hid hx3
  have H := Lib.hid h
  clear hx1 hx2 hx3 h hbase hK hrk hmn
  go_enter Tryz.func12, Tryz.ntmps12
  go_upto_region 3 with (go_at_call 24; refine (tmade_yes t w c0).mono ?_; rintro e w' ⟨rfl, rfl⟩)
  clear c0
  go_region_with (go_at_call 29; refine (HRZ.out _ ((Below.refl w.heap.size w).drew)).mono ?_; rintro e w2 ⟨rfl, rb2, bs2, hg2, ho2, hc2⟩; have hn2 := (HX3.out.below ((Below.refl w.heap.size w).drew) HX3.out.lt).chg hc2 (fun hk => H.out.ne_g hk rfl); have HN2 := Lib.hid hn2; have k12 : w2.cell? ⟨t, 12, none⟩ = some (.int .i64 T.scr) := HN2.out.cell 12; have HGR := Lib.hid hg2; have HO2 := Lib.hid ho2; have HC2 := Lib.hid hc2; have HG2 := Lib.hid (World.grownBy.refl w2 (some t)); clear hn2 hg2 ho2 hc2)
  all_goals
   go_wp2_with (first
    | ((with_reducible refine at_store 39 ?_); refine wpList_store_cell rfl _ _ _ rfl rfl t 12 _ (tmc t g T xs B.length) (.int .i64 (wrap64 (T.scr + (K : Int)))) rfl rfl HN2.out (by simp [tmc, stc]) (by kernel_rfl) rfl ?_; intro w3 hn hg; have HN3 : Hid (Blk w3 t 63 (tmc t g { T with scr := wrap64 (T.scr + (K : Int)) } xs B.length)) := Lib.hid hn; have HG3 := Lib.hid (grown_trans HG2.out hg); have k2 : w3.cell? ⟨t, 2, none⟩ = some (.int .i64 T.row) := HN3.out.cell 2; clear k12; clear hn hg)
    | ((with_reducible refine at_store 51 ?_); refine wpList_store_cell rfl _ _ _ rfl rfl t 2 _ (tmc t g { T with scr := wrap64 (T.scr + (K : Int)) } xs B.length) (.int .i64 ((T.row : Int) - (K : Int))) rfl rfl HN3.out (by simp [tmc, stc]) (by kernel_rfl) rfl ?_; intro w4 hn hg; rw [HRK.out] at hn; have HN4 : Hid (Blk w4 t 63 (tmc t g { T with scr := wrap64 (T.scr + (K : Int)), row := T.row - K } xs B.length)) := Lib.hid hn; have HG4 := Lib.hid (grown_trans HG3.out hg); have k3 : w4.cell? ⟨t, 3, none⟩ = some (.int .i64 T.col) := HN4.out.cell 3; clear k2; clear hn hg)
    | ((with_reducible refine at_store 65 ?_); refine wpList_store_cell rfl _ _ _ rfl rfl t 3 _ (tmc t g { T with scr := wrap64 (T.scr + (K : Int)), row := T.row - K } xs B.length) (.int .i64 (min (T.col : Int) ((x : Int) - 1))) rfl rfl HN4.out (by simp [tmc, stc]) (by kernel_rfl) rfl ?_; intro w5 hn hg; rw [HMN.out] at hn; have HN5 : Hid (Blk w5 t 63 (tmc t g { T with scr := wrap64 (T.scr + (K : Int)), row := T.row - K, col := min T.col (x - 1) } xs B.length)) := Lib.hid hn; have HG5 := Lib.hid (grown_trans HG4.out hg); clear k3; clear hn hg)
    | ((with_reducible refine at_store 70 ?_); refine wpList_store_cell rfl _ _ _ rfl rfl t 9 _ (tmc t g { T with scr := wrap64 (T.scr + (K : Int)), row := T.row - K, col := min T.col (x - 1) } xs B.length) (.bool false) rfl rfl HN5.out (by simp [tmc, stc]) (by kernel_rfl) rfl ?_; intro w6 hn hg; have HN6 : Hid (Blk w6 t 63 (tmc t g { T with scr := wrap64 (T.scr + (K : Int)), row := T.row - K, col := min T.col (x - 1), pend := false } xs B.length)) := Lib.hid hn; have HG6 := Lib.hid (grown_trans HG5.out hg); clear hn hg)
    | ((with_reducible refine at_store 73 ?_); refine wpList_store_cell rfl _ _ _ rfl rfl t 16 _ (tmc t g { T with scr := wrap64 (T.scr + (K : Int)), row := T.row - K, col := min T.col (x - 1), pend := false } xs B.length) (.bool false) rfl rfl HN6.out (by simp [tmc, stc]) (by kernel_rfl) rfl ?_; intro w7 hn hg; have HN7 : Hid (Blk w7 t 63 (tmc t g { T with scr := wrap64 (T.scr + (K : Int)), row := T.row - K, col := min T.col (x - 1), pend := false, joins := false } xs B.length)) := Lib.hid hn; have HG7 := Lib.hid (grown_trans HG6.out hg); clear hn hg))
   go_ret
   rw [HR.out]
   have hne : ∀ k, GrOwn g rb2 bs2 k → k ≠ t := fun k hk e => by
     rcases HO2.out k hk with h | h
     · exact H.out.ne_g h e.symm
     · have h' : w.heap.size ≤ k := h
       have := H.out.lt
       omega
   exact ⟨rfl, rb2, bs2, ⟨⟨xs, HX1.out, HX2.out, HN7.out⟩, HGR.out.keep (chg_one HG7.out) (fun k hk e => hne k hk e), H.out.lot, by show T.row - K < (resizeM T.L x y T.row).length; rw [rsz_len]; exact hKy, by show min T.col (x - 1) < x; omega, H.out.b32⟩, fun k hk => by
     rcases hk with rfl | hk
     · exact .inl (.inl rfl)
     · exact (HO2.out k hk).imp .inr id, (((Chg.refl (TmOwn t g rb bs) w).drew.trans HC2.out (fun k hk => .inl (.inr hk))).trans (chg_one HG7.out) (fun k hk => .inl (.inl hk)))⟩
set_option maxHeartbeats 1000000 in
theorem tresize_no {w : World} {lo t g rb : Nat} {bs : List Nat} {T : TS} {B : List UInt8} (h : TmAt w lo t g rb bs T B) (hbase : Base w lo) (x y : Int) (hbad : sideB x = false ∨ sideB y = false) :
    Calls Tryz.prog 12 #[.pointer (some ⟨t, 0, none⟩), .int .i64 x, .int .i64 y] w fun e w' => e = .returned (.int .i64 50) ∧ Below w.heap.size w w' := by
  have c0 := h.cell 0 (by omega)
  have c1 := h.cell 1 (by omega)
  have c2 := h.cell 2 (by omega)
  simp only [tmc, stc, List.getElem?_cons_zero, List.getElem?_cons_succ, List.cons_append] at c0 c1 c2
  have HRZ : Hid (∀ W, Below w.heap.size w W → Calls Tryz.prog 29 #[.pointer (some ⟨g, 0, none⟩), .int .i64 x, .int .i64 y, .int .i64 T.row] W fun e w' => e = .returned (.tuple #[.int .i64 0, .int .i64 40]) ∧ Below w.heap.size w w') := Lib.hid (fun W hW => (resize_no (h.below hW).grid x y T.row 40 (.inl ⟨hbad, rfl⟩)).mono fun e w' ⟨a, b⟩ => ⟨a, hW.trans (b.mono hW.size)⟩)
  clear h hbase hbad
  go_enter Tryz.func12, Tryz.ntmps12
  go_upto_region 3 with (go_at_call 24; refine (tmade_yes t w c0).mono ?_; rintro e w' ⟨rfl, rfl⟩)
  clear c0
  go_region_with (go_at_call 29; refine (HRZ.out _ ((Below.refl w.heap.size w).drew)).mono ?_; rintro e w2 ⟨rfl, hb2⟩)
  all_goals
    go_wp2_with (fail)
    go_ret
    exact ⟨rfl, hb2⟩
/-- any size: what Resize answers, and what the terminal is behind it -/
def rszA (T : TS) (x y : Int) : TS := if sideB x = false ∨ sideB y = false then T else rszT T x.toNat y.toNat
def rszE (x y : Int) : Int := if sideB x = false ∨ sideB y = false then 50 else 0
theorem TmS.resize {w : World} {lo t : Nat} {T : TS} {B : List UInt8} {O : Nat → Prop} (h : TmS w lo t T B O) (hbase : Base w lo) (x y : Int) :
    Calls Tryz.prog 12 #[.pointer (some ⟨t, 0, none⟩), .int .i64 x, .int .i64 y] w fun e w' => e = .returned (.int .i64 (rszE x y)) ∧ ∃ O', TmS w' lo t (rszA T x y) B O' ∧ (∀ k, O' k → O k ∨ w.heap.size ≤ k) ∧ Chg O w w' := by
  unfold rszA rszE
  by_cases hb : sideB x = false ∨ sideB y = false
  · rw [if_pos hb, if_pos hb]
    obtain ⟨g, rb, bs, h1, rfl⟩ := h
    refine (tresize_no h1 hbase x y hb).mono ?_
    rintro e w' ⟨rfl, hb2⟩
    exact ⟨rfl, _, ⟨g, rb, bs, h1.below hb2, rfl⟩, fun _ hk => .inl hk, Chg.of_below hb2⟩
  · rw [if_neg hb, if_neg hb]
    have hx : sideB x = true := by cases hq : sideB x; exact absurd (.inl hq) hb; rfl
    have hy : sideB y = true := by cases hq : sideB y; exact absurd (.inr hq) hb; rfl
    obtain ⟨X, rfl⟩ : ∃ X : Nat, x = X := ⟨x.toNat, by simp [sideB] at hx; omega⟩
    obtain ⟨Y, rfl⟩ : ∃ Y : Nat, y = Y := ⟨y.toNat, by simp [sideB] at hy; omega⟩
    simp only [sideB, decide_eq_true_eq] at hx hy
    obtain ⟨g, rb, bs, h1, rfl⟩ := h
    refine (tresize_ok h1 hbase X Y (by omega) (by omega) (by omega) (by omega)).mono ?_
    rintro e w' ⟨rfl, rb', bs', h2, h3, h4⟩
    refine ⟨rfl, _, ⟨g, rb', bs', ?_, rfl⟩, h3, h4⟩
    simpa only [Int.toNat_natCast] using h2
end Go.Proofs.YtfmkeeaenjeneaaGreatDoor

