/-
  Walk: Scroll.
-/
import Derived.Test.YtijbimofigkdkaaDoorGrPut
import Derived.Test.YtijbimofigkdkaaDoorGrNew
import Derived.Test.YtijbimofigkdkaaDoorMemC
import Derived.Deep.RegionHeld3
import Derived.Deep.DeepCutAuto
import Derived.BigRegion
namespace Go.Proofs.YtijbimofigkdkaaDoor
open Go.RowKit
set_option linter.unusedVariables false
set_option linter.unusedSimpArgs false

/-- how many rows go -/
def scrollN (H : Nat) (n : Int) : Nat := (min (max n 0) H).toNat
/-- what Scroll comes to -/
def scrollM (W : Nat) (L : List (List Cl)) (n : Int) : List (List Cl) := L.drop (scrollN L.length n) ++ List.replicate (scrollN L.length n) (List.replicate W bl)
theorem scrollM_length (W : Nat) (L : List (List Cl)) (n : Int) : (scrollM W L n).length = L.length := by
  unfold scrollM scrollN
  simp
  omega

theorem rowV_one (W : Nat) (bs : List Nat) : ∀ v ∈ bs.map (rowV W), v.oneCell' = true := by
  intro v hv
  obtain ⟨b, _, rfl⟩ := List.mem_map.1 hv
  rfl
theorem enters_blankRows : ∀ args w, (callFunc 29 args).run Tryd.prog w = .ok (.enter 29 args) w := enters_of Tryd.func29 (by kernel_rfl) rfl

theorem RowsNew.undrew {w w' : World} {W H : Nat} {bs : List Nat} (h : RowsNew w.drew w' W H bs) : RowsNew w w' W H bs :=
  ⟨h.len, h.nd, h.hi, h.row, h.rows, ⟨h.bel.os, h.bel.tape, h.bel.output, h.bel.size, h.bel.block⟩⟩
/-- A grid whose first rows went, and that got as many new ones. -/
theorem GrAt.scroll {w wc w3 w4 : World} {lo g rb W k : Nat} {bs nb : List Nat} {L : List (List Cl)} (h : GrAt w lo g rb bs W L) (hk : k ≤ L.length) (hcx : Chg (one rb) w wc) (hR : RowsNew wc w3 W k nb) (hlo : lo ≤ w.heap.size)
    (hc : Chg (one rb) w3 w4) (hrows : Blk w4 rb 46 ((bs.drop k ++ nb).map (rowV W))) :
    GrAt w4 lo g rb (bs.drop k ++ nb) W (L.drop k ++ List.replicate k (List.replicate W bl)) := by
  have hll : (L.drop k ++ List.replicate k (List.replicate W bl)).length = L.length := by simp; omega
  have hkb : k ≤ bs.length := by rw [h.len]; exact hk
  have hsz := hcx.size
  have hall : Chg (one rb) w w4 := (hcx.trans (Chg.of_below (S := one rb) hR.bel) (fun _ h => .inl h)).trans hc (fun _ h => .inl h)
  have hb34 : ∀ b t cs, t ≠ 46 → Blk w b t cs → Blk w4 b t cs := fun b t cs ht hb => hb.chg hall (fun e => by
    have e' : b = rb := e
    exact h.rows.ne_ (e' ▸ hb) (Ne.symm ht) rfl)
  have hb35 : ∀ b t cs, t ≠ 46 → wc.heap.size < b → Blk w3 b t cs → Blk w4 b t cs := fun b t cs ht hlt hb => hb.chg hc (fun e => by
    have e' : b = rb := e
    have := h.rows.lt
    omega)
  refine ⟨?_, hrows, ?_, ?_, ?_, ?_, h.w1, h.w5, by rw [hll]; exact h.h1, by rw [hll]; exact h.h5⟩
  · rw [hll]
    exact hb34 _ _ _ (by decide) h.head
  · rw [hll, List.length_append, List.length_drop, hR.len]; have := h.len; omega
  · rw [List.nodup_append]
    refine ⟨h.nd.sublist (List.drop_sublist _ _), hR.nd, ?_⟩
    rintro a ha b hb rfl
    have h1 := h.own_lt a (.inr (.inr (List.mem_of_mem_drop ha)))
    have h2 := hR.hi a hb
    omega
  · intro i b hb
    by_cases hi : i < (bs.drop k).length
    · rw [List.getElem?_append_left hi, List.getElem?_drop] at hb
      obtain ⟨l, h1, h2, h4, h5⟩ := h.row _ b hb
      refine ⟨l, ?_, h2, h4, hb34 _ _ _ (by decide) h5⟩
      rw [List.getElem?_append_left (by rw [List.length_drop] at hi ⊢; rw [← h.len]; exact hi), List.getElem?_drop]
      exact h1
    · rw [List.getElem?_append_right (by omega)] at hb
      have hm := List.mem_of_getElem? hb
      have hj := (List.getElem?_eq_some_iff.1 hb).1
      rw [hR.len] at hj
      refine ⟨List.replicate W bl, ?_, by simp, Wf.blanks W, hb35 _ _ _ (by decide) (hR.hi b hm) (hR.row b hm)⟩
      rw [List.length_drop, h.len] at hi hj
      rw [List.getElem?_append_right (by rw [List.length_drop]; omega), List.length_drop, List.getElem?_replicate, if_pos (by omega)]
  · rintro j (rfl | rfl | hj)
    · exact h.lo _ (.inl rfl)
    · exact h.lo _ (.inr (.inl rfl))
    · rcases List.mem_append.1 hj with hj | hj
      · exact h.lo _ (.inr (.inr (List.mem_of_mem_drop hj)))
      · have := hR.hi j hj
        omega

theorem scroll_own {w wc w3 : World} {g rb W k : Nat} {bs nb : List Nat} (hs : w.heap.size ≤ wc.heap.size) (hR : RowsNew wc w3 W k nb) (j : Nat) (hj : GrOwn g rb (bs.drop k ++ nb) j) : GrOwn g rb bs j ∨ w.heap.size ≤ j := by
  rcases hj with h | h | h
  · exact .inl (.inl h)
  · exact .inl (.inr (.inl h))
  · rcases List.mem_append.1 h with h | h
    · exact .inl (.inr (.inr (List.mem_of_mem_drop h)))
    · have := hR.hi j h
      exact .inr (by omega)
theorem scroll_chg {w wc w3 w4 : World} {g rb W k : Nat} {bs nb : List Nat} (hcx : Chg (one rb) w wc) (hR : RowsNew wc w3 W k nb) (hc : Chg (one rb) w3 w4) : Chg (GrOwn g rb bs) w w4 :=
  ((hcx.trans (Chg.of_below (S := one rb) hR.bel) (fun _ h => .inl h)).trans hc (fun _ h => .inl h)).mono (fun j e => .inl (.inr (.inl e)))

set_option maxRecDepth 100000 in
set_option maxHeartbeats 4000000 in
theorem scroll_ok {w : World} {lo g rb W : Nat} {bs : List Nat} {L : List (List Cl)} (h : GrAt w lo g rb bs W L) (hT : BlankT w) (hlo : 0 < lo) (hlo2 : lo ≤ w.heap.size) (n : Int) (hn0 : -9223372036854775808 ≤ n) (hn1 : n ≤ 9223372036854775807) :
    Calls Tryd.prog 14 #[.pointer (some ⟨g, 0, none⟩), .int .i64 n] w fun e w' => e = .returned (.int .i64 (scrollN L.length n)) ∧
      ∃ bs', GrAt w' lo g rb bs' W (scrollM W L n) ∧ (∀ k, GrOwn g rb bs' k → GrOwn g rb bs k ∨ w.heap.size ≤ k) ∧ Chg (GrOwn g rb bs) w w' := by
  have hh1 := h.h1
  have hh5 := h.h5
  have hw1 := h.w1
  have hw5 := h.w5
  have hk0 : scrollN L.length n ≤ L.length := by unfold scrollN; omega
  obtain ⟨k, hkk⟩ : ∃ k, scrollN L.length n = k := ⟨_, rfl⟩
  have hM : scrollM W L n = L.drop k ++ List.replicate k (List.replicate W bl) := by unfold scrollM; rw [hkk]
  rw [hM, hkk]
  rw [hkk] at hk0
  have hkd : (min (max n 0) (L.length : Int)).toNat = k := hkk
  have H := Lib.hid h
  have HT := Lib.hid hT
  have HK := Lib.hid hkd
  clear h hT hM hkk hkd
  by_cases hz : k = 0
  · subst hz
    have hn : n ≤ 0 := by have := HK.out; omega
    have hfin : GrAt w lo g rb bs W (L.drop 0 ++ List.replicate 0 (List.replicate W bl)) := by simpa using H.out
    have HF := Lib.hid hfin
    clear hfin
    go_enter Tryd.func14, Tryd.ntmps14
    go_wp2_with (go_at_call 23; refine (size_any H.out).mono ?_; rintro e w' ⟨rfl, q, rfl⟩)
    all_goals
      first
        | (exfalso; omega)
        | (go_ret
           exact ⟨rfl, bs, HF.out.drewN q, fun _ h => .inl h, (Chg.refl _ _).drewN q⟩)
  · have hn : 1 ≤ n := by have := HK.out; omega
    have hkn : True := trivial
    have hke : ((k : Int) == 0) = false := by simp; omega
    obtain ⟨d, hd⟩ : ∃ d, d + k = L.length := ⟨L.length - k, by omega⟩
    have hdl : d < L.length := by omega
    -- behind the first copy
    have hrl : (bs.map (rowV W)).length = L.length := by rw [List.length_map, H.out.len]
    have hdr : ((bs.drop k).map (rowV W)).length = d := by rw [List.length_map, List.length_drop, H.out.len]; omega
    have HRL := Lib.hid hrl
    have HDR := Lib.hid hdr
    have hsp1 : splice (bs.map (rowV W)) 0 ((bs.drop k).map (rowV W)) = (bs.drop k).map (rowV W) ++ (bs.map (rowV W)).drop d := by
      unfold splice; rw [hdr]; simp
    have HSP1 := Lib.hid hsp1
    have hsp2 : ∀ nb : List Nat, nb.length = k → splice ((bs.drop k).map (rowV W) ++ (bs.map (rowV W)).drop d) d (nb.map (rowV W)) = (bs.drop k ++ nb).map (rowV W) := fun nb hnb => by
      have e0 : ((bs.drop k).map (rowV W) ++ (bs.map (rowV W)).drop d).drop (d + k) = [] := List.drop_eq_nil_of_le (by rw [List.length_append, hdr, List.length_drop, hrl]; omega)
      unfold splice
      rw [List.take_left' hdr, List.length_map, hnb, e0, List.append_nil, List.map_append]
    have HSP2 := Lib.hid hsp2
    have hlen1 : ((bs.drop k).map (rowV W) ++ (bs.map (rowV W)).drop d).length = L.length := by rw [List.length_append, hdr, List.length_drop, hrl]; omega
    have HLEN1 := Lib.hid hlen1
    have hs := H.out.rws
    have HRB := Lib.hid H.out.rows
    have hsrc : ∀ (j : Nat) v, ((bs.drop k).map (rowV W))[j]? = some v → w.cell? ((⟨rb, k, none⟩ : Addr).add j) = some v := fun j v hv => by
      rw [Addr.add_mid, H.out.rows.cell, List.getElem?_map]
      rw [List.getElem?_map, List.getElem?_drop] at hv
      exact hv
    have HSRC := Lib.hid hsrc
    clear hrl hdr hsp1 hsp2 hsrc hlen1
    have hmax : max n 0 = n := by omega
    have hmin : min n (L.length : Int) = (k : Int) := by have := HK.out; omega
    have hk00 : 0 ≤ (k : Int) := by omega
    have hkle : (k : Int) ≤ L.length := by omega
    clear hkn hn0 hn1 hn
    by_cases hkl : k < L.length
    · have hkli : (k : Int) < L.length := by omega
      have hne : ¬ L.length = k := by omega
      go_enter Tryd.func14, Tryd.ntmps14
      go_wp2_with (go_at_call 23; refine (size_any H.out).mono ?_; rintro e w' ⟨rfl, q, rfl⟩)
      go_upto_region 5 with fail
      go_cut [7] (fun s7 wx => s7 = .int .i64 d ∧ Blk wx rb 46 ((bs.drop k).map (rowV W) ++ (bs.map (rowV W)).drop d) ∧ Chg (one rb) w wx)
      case first =>
        go_region_law (refine step_copy_k rfl (.tmp 22) (.tmp 28) _ _ rfl 46 1 Tryd.underlying60 sl_size (some ⟨rb, 0, none⟩) (some ⟨rb, k, none⟩) L.length L.length (L.length - k) (L.length - k) (by simp [Act.eval, Act.put]) (by simp [Act.eval, Act.put]) rb 0 46 (bs.map (rowV W)) HRB.out ((bs.drop k).map (rowV W)) d (by show d = min (L.length - k) L.length; omega) (by have := HDR.out; omega) (fun _ => ⟨rfl, _, rfl, HSRC.out⟩) (by rw [HDR.out, HRL.out]; omega) (rowV_one W _) ?_; intro w4 hn4 hg4)
        all_goals
          simp only [Act.put]
          go_simp
          go_wp2_with fail
          go_meet
        all_goals
          rw [HSP1.out] at hn4
          exact ⟨rfl, hn4, ((Chg.refl (one rb) w).drewN _).trans (chg_of_grown hg4) (fun _ h => .inl h)⟩
      case rest =>
        obtain ⟨rfl, hbx, hcx⟩ := hcut
        have HBX := Lib.hid hbx
        have HCX := Lib.hid hcx
        have h4s : wc.cell? ⟨g, 1, none⟩ = some (.slice (some ⟨rb, 0, none⟩) L.length L.length) := hcx.cell hs (fun e => H.out.head.ne_ H.out.rows (by decide) e)
        have HT4 := Lib.hid (HT.out.chg hcx (fun e => by have := H.out.lo rb (.inr (.inl rfl)); have e' : 0 = rb := e; omega))
        have HGS := Lib.hid (Nat.lt_of_lt_of_le H.out.head.lt hcx.size)
        have hRS := hbx.lt
        have hdi : (d : Int) < L.length := by omega
        have hdi0 : 0 ≤ (d : Int) := by omega
        have hdi1 : (d : Int) ≤ L.length := by omega
        have hdne : ¬ L.length = d := by omega
        clear hbx hcx
        go_wp2_with fail
        go_region_law (first
          | (refine step_call rfl 29 _ _ rfl enters_blankRows #[.int .i64 W, .int .i64 k] (by simp [Act.eval, Act.put]) (blankRows_any W k hw1 hw5 (by omega) (by omega) _ HT4.out) ?_; rintro e w5 ⟨rfl, nb, hR⟩; refine ⟨_, rfl, ?_⟩; have h5s : w5.cell? ⟨g, 1, none⟩ = some (.slice (some ⟨rb, 0, none⟩) L.length L.length) := (hR.bel.cell (p := ⟨g, 1, none⟩) HGS.out).trans h4s; have HR := Lib.hid hR.undrew; clear hR)
          | (refine step_copy_k rfl (.tmp 35) (.tmp 38) _ _ rfl 46 1 Tryd.underlying60 sl_size (some ⟨rb, d, none⟩) (some ⟨wc.heap.size, 0, none⟩) (L.length - d) (L.length - d) k k (by simp [Act.eval, Act.put]) (by simp [Act.eval, Act.put]) rb d 46 _ (HBX.out.below HR.out.bel hRS) (nb.map (rowV W)) k (by show k = min k (L.length - d); omega) (by rw [List.length_map, HR.out.len]; omega) (fun _ => ⟨rfl, _, rfl, fun j v hv => by rw [Addr.add_mid, Nat.zero_add]; exact (HR.out.rows.cell j).trans hv⟩) (by rw [List.length_map, HR.out.len, HLEN1.out]; omega) (rowV_one W _) ?_; intro w6 hn6 hg6))
        all_goals
          (try simp only [Act.put])
          go_simp
          go_wp2
          go_ret
          rw [HSP2.out nb HR.out.len] at hn6
          exact ⟨rfl, bs.drop k ++ nb, H.out.scroll hk0 HCX.out HR.out hlo2 (chg_of_grown hg6) hn6, fun j hj => scroll_own HCX.out.size HR.out j hj, scroll_chg HCX.out HR.out (chg_of_grown hg6)⟩
    · obtain rfl : k = L.length := by omega
      obtain rfl : d = 0 := by omega
      go_enter Tryd.func14, Tryd.ntmps14
      go_wp2_with (go_at_call 23; refine (size_any H.out).mono ?_; rintro e w' ⟨rfl, q, rfl⟩)
      go_upto_region 5 with fail
      go_cut [7] (fun s7 wx => s7 = .int .i64 0 ∧ Blk wx rb 46 ((bs.drop L.length).map (rowV W) ++ (bs.map (rowV W)).drop 0) ∧ Chg (one rb) w wx)
      case first =>
        go_region_law (refine step_copy_k rfl (.tmp 22) (.tmp 28) _ _ rfl 46 1 Tryd.underlying60 sl_size (some ⟨rb, 0, none⟩) (some ⟨rb, 0, none⟩) L.length L.length (L.length - L.length) (L.length - L.length) (by simp [Act.eval, Act.put]) (by simp [Act.eval, Act.put]) rb 0 46 (bs.map (rowV W)) HRB.out ((bs.drop L.length).map (rowV W)) 0 (by show 0 = min (L.length - L.length) L.length; omega) (by have := HDR.out; omega) (fun h => by omega) (by rw [HDR.out, HRL.out]; omega) (rowV_one W _) ?_; intro w4 hn4 hg4)
        all_goals
          simp only [Act.put]
          go_simp
          go_wp2_with fail
          go_meet
        all_goals
          rw [HSP1.out] at hn4
          exact ⟨rfl, hn4, ((Chg.refl (one rb) w).drewN _).trans (chg_of_grown hg4) (fun _ h => .inl h)⟩
      case rest =>
        obtain ⟨rfl, hbx, hcx⟩ := hcut
        have HBX := Lib.hid hbx
        have HCX := Lib.hid hcx
        have h4s : wc.cell? ⟨g, 1, none⟩ = some (.slice (some ⟨rb, 0, none⟩) L.length L.length) := hcx.cell hs (fun e => H.out.head.ne_ H.out.rows (by decide) e)
        have HT4 := Lib.hid (HT.out.chg hcx (fun e => by have := H.out.lo rb (.inr (.inl rfl)); have e' : 0 = rb := e; omega))
        have HGS := Lib.hid (Nat.lt_of_lt_of_le H.out.head.lt hcx.size)
        have hRS := hbx.lt
        have hdi : (0 : Int) < L.length := by omega
        have hdi0 : 0 ≤ (0 : Int) := by omega
        have hdi1 : (0 : Int) ≤ L.length := by omega
        have hdne : ¬ L.length = 0 := by omega
        clear hbx hcx
        go_wp2_with fail
        go_region_law (first
          | (refine step_call rfl 29 _ _ rfl enters_blankRows #[.int .i64 W, .int .i64 L.length] (by simp [Act.eval, Act.put]) (blankRows_any W L.length hw1 hw5 (by omega) (by omega) _ HT4.out) ?_; rintro e w5 ⟨rfl, nb, hR⟩; refine ⟨_, rfl, ?_⟩; have h5s : w5.cell? ⟨g, 1, none⟩ = some (.slice (some ⟨rb, 0, none⟩) L.length L.length) := (hR.bel.cell (p := ⟨g, 1, none⟩) HGS.out).trans h4s; have HR := Lib.hid hR.undrew; clear hR)
          | (refine step_copy_k rfl (.tmp 35) (.tmp 38) _ _ rfl 46 1 Tryd.underlying60 sl_size (some ⟨rb, 0, none⟩) (some ⟨wc.heap.size, 0, none⟩) (L.length - 0) (L.length - 0) L.length L.length (by simp [Act.eval, Act.put]) (by simp [Act.eval, Act.put]) rb 0 46 _ (HBX.out.below HR.out.bel hRS) (nb.map (rowV W)) L.length (by show L.length = min L.length (L.length - 0); omega) (by rw [List.length_map, HR.out.len]; omega) (fun _ => ⟨rfl, _, rfl, fun j v hv => by rw [Addr.add_mid, Nat.zero_add]; exact (HR.out.rows.cell j).trans hv⟩) (by rw [List.length_map, HR.out.len, HLEN1.out]; omega) (rowV_one W _) ?_; intro w6 hn6 hg6))
        all_goals
          (try simp only [Act.put])
          go_simp
          go_wp2
          go_ret
          rw [HSP2.out nb HR.out.len] at hn6
          exact ⟨rfl, bs.drop L.length ++ nb, H.out.scroll hk0 HCX.out HR.out hlo2 (chg_of_grown hg6) hn6, fun j hj => scroll_own HCX.out.size HR.out j hj, scroll_chg HCX.out HR.out (chg_of_grown hg6)⟩
end Go.Proofs.YtijbimofigkdkaaDoor
