/-
  Walk: the reference's Resize.
-/
import Derived.Test.YtijbimofigkdkaaDoorRfNew
namespace Go.Proofs.YtijbimofigkdkaaDoor
open Go.RowKit
set_option linter.unusedVariables false
set_option linter.unusedSimpArgs false

theorem enters_rfit : ∀ args w, (callFunc 56 args).run Tryd.prog w = .ok (.enter 56 args) w := enters_of Tryd.func56 (by kernel_rfl) rfl
/-- what Resize comes to: the rows, their width, how many went, what is told -/
def rszM (W : Nat) (L : List (List Cl)) (a b row : Int) : List (List Cl) × Nat × Int × Int :=
  if sideB a = false ∨ sideB b = false then (L, W, 0, 40)
  else if inB row 0 W L.length = false then (L, W, 0, 5)
  else (resizeM L a.toNat b.toNat row, a.toNat, (topM row b.toNat : Int), 0)
/-- every row, whatever was made since -/
theorem RfAt.all_later {w : World} {D : Nat → Prop} {A : Option Addr} {c : Nat} {L : List (List Cl)} (h : RfAt w D A c L) (hn : 1 ≤ L.length) :
    ∃ b off, A = some ⟨b, off, none⟩ ∧ ∀ (j : Nat) l, L[j]? = some l → ∃ Ai ci, ∀ w', Below w.heap.size w w' → w'.cell? ⟨b, off + j, none⟩ = some (.slice Ai l.length ci) ∧ RowD w' D (.slice Ai l.length ci) l := by
  obtain ⟨b, off, Ai, ci, hA, _⟩ := h.row_later (row := 0) (List.getElem?_eq_getElem (by omega))
  refine ⟨b, off, hA, fun j l hl => ?_⟩
  obtain ⟨b', off', Aj, cj, hA', hlat⟩ := h.row_later hl
  rw [hA] at hA'
  injection hA' with hA'
  injection hA' with e1 e2
  subst e1 e2
  exact ⟨Aj, cj, hlat⟩

set_option maxRecDepth 100000 in
set_option maxHeartbeats 4000000 in
theorem rresize_no {w : World} {W n : Nat} {A : Option Addr} {c : Nat} (a b row : Int) (q : Int) (hbad : ((sideB a = false ∨ sideB b = false) ∧ q = 40) ∨ (sideB a = true ∧ sideB b = true ∧ (row < 0 ∨ (n : Int) ≤ row) ∧ q = 5)) :
    Calls Tryd.prog 40 #[.agg #[.int .i64 W, .int .i64 n, .slice A n c], .int .i64 a, .int .i64 b, .int .i64 row] w fun e w' => e = .returned (.tuple #[.agg (rgC W n A c).toArray, .int .i64 0, .int .i64 q]) ∧ Below w.heap.size w w' := by
  obtain ⟨hb0, h1, h2⟩ := erW0_is w W n A c
  have hW0 : erW0 w W n A c = (w.alloc (.cells #[.int .i64 W, .int .i64 n, .slice A n c] 29)).alloc (.cells #[.int .i64 0, .int .i64 0, .slice none 0 0] 29) := rfl
  generalize erW0 w W n A c = W0 at hb0 h1 h2 hW0
  have HB0 := Lib.hid hb0
  have H2 := Lib.hid h2
  have HW0 := Lib.hid hW0
  obtain ⟨e0, e1, e2⟩ := blk3 h1
  clear hb0 h1 h2 hW0
  have key : ((sideB a && sideB b) = false ∧ q = 40) ∨ ((sideB a && sideB b) = true ∧ row < 0 ∧ q = 5) ∨ ((sideB a && sideB b) = true ∧ ¬ row < 0 ∧ (n : Int) ≤ row ∧ q = 5) := by
    rcases hbad with ⟨h, hq⟩ | ⟨h1, h2, h3, hq⟩
    · exact .inl ⟨by rcases h with h | h <;> simp [h], hq⟩
    · rcases h3 with h3 | h3
      · exact .inr (.inl ⟨by simp [h1, h2], h3, hq⟩)
      · exact .inr (.inr ⟨by simp [h1, h2], by omega, h3, hq⟩)
  clear hbad
  rcases key with ⟨hz, rfl⟩ | ⟨hz, hr, rfl⟩ | ⟨hz, hr, hr2, rfl⟩
  all_goals
    have HZ := Lib.hid hz
    clear hz
    go_enter Tryd.func40, Tryd.ntmps40
    go_upto_region 1 with fail
    rw [← HW0.out]
    go_wp2_with (first
      | (go_at_call 30; refine (rsize_any a b _).mono ?_; rintro e w' ⟨rfl, rfl⟩; rw [HZ.out])
      | ((with_reducible refine at_store 8 ?_); refine wpList_store_blk rfl _ _ _ rfl rfl (w.heap.size + 1) 0 _ (rgC 0 0 none 0) (rgC W n A c) rfl rfl H2.out (by simp [rgC]) rg_size (rgC_one _ _ _ _) ?_; intro w2 hn2 hg2; have hn2' : Blk w2 (w.heap.size + 1) 29 (rgC W n A c) := hn2))
    exact bodyPost_ret (results_ctt rfl rfl rfl rfl hn2'.whole Tryd.underlying29 rfl rg_size) rfl ⟨rfl, HB0.out.grown hg2 HB0.out.size (fun j hj => by injection hj with hj; omega)⟩

set_option maxRecDepth 100000 in
set_option maxHeartbeats 16000000 in
theorem rresize_ok {w : World} {D : Nat → Prop} {A : Option Addr} {c W : Nat} {L : List (List Cl)} (h : RfAt w D A c L) (hq : Rws W L) (W' H' row : Nat) (a1 : 1 ≤ W') (a2 : W' ≤ 500) (a3 : 1 ≤ H') (a4 : H' ≤ 500) (hr : row < L.length) :
    Calls Tryd.prog 40 #[.agg #[.int .i64 W, .int .i64 L.length, .slice A L.length c], .int .i64 W', .int .i64 H', .int .i64 row] w fun e w' => ∃ V, e = .returned (.tuple #[V, .int .i64 (topM row H'), .int .i64 0]) ∧ RfV w' (fun b => D b ∨ w.heap.size ≤ b) V W' (resizeM L W' H' row) ∧ Below w.heap.size w w' := by
  obtain ⟨ρ, hρ⟩ : ∃ ρ : Int, (row : Int) = ρ := ⟨_, rfl⟩
  have hρ0 : 0 ≤ ρ := by omega
  have hρ1 : ρ < L.length := by omega
  rw [hρ]
  clear hρ hr
  have hz : (sideB W' && sideB H') = true := by simp [sideB]; omega
  have HZ := Lib.hid hz
  obtain ⟨i0, hi0, hz0, hz1, hz2⟩ := info_parts rrow_info
  have HI0 := Lib.hid hi0
  have HZ0 := Lib.hid hz0
  have HZ1 := Lib.hid hz1
  have HZ2 := Lib.hid hz2
  have hw1 := hq.w1
  have hw5 := hq.w5
  have hh5 := hq.h5
  obtain ⟨b, off, rfl, hlat⟩ := h.all_later hq.h1
  obtain ⟨hb0, h1, h2⟩ := erW0_is w W L.length (some ⟨b, off, none⟩) c
  have hW0 : erW0 w W L.length (some ⟨b, off, none⟩) c = (w.alloc (.cells #[.int .i64 W, .int .i64 L.length, .slice (some ⟨b, off, none⟩) L.length c] 29)).alloc (.cells #[.int .i64 0, .int .i64 0, .slice none 0 0] 29) := rfl
  generalize erW0 w W L.length (some ⟨b, off, none⟩) c = W0 at hb0 h1 h2 hW0
  have HLAT := Lib.hid hlat
  have HQ := Lib.hid hq
  obtain ⟨n, hn⟩ : ∃ n, n = L.length := ⟨_, rfl⟩
  obtain ⟨F, hF⟩ : ∃ F, topM ρ H' = F := ⟨_, rfl⟩
  obtain ⟨kept, hkp⟩ : ∃ kept, (L.drop F).take H' = kept := ⟨_, rfl⟩
  have hM : resizeM L W' H' ρ = kept.map (fitM · W') ++ List.replicate (H' - kept.length) (List.replicate W' bl) := by
    unfold resizeM
    simp only
    rw [hF, hkp]
  rw [hM, hF]
  obtain ⟨K, hK⟩ : ∃ K, K = kept.length := ⟨_, rfl⟩
  have hKe : K = min H' (n - F) := by rw [hK, ← hkp, List.length_take, List.length_drop, hn]
  have hFe : (F : Int) = max 0 (ρ + 1 - H') := by rw [← hF]; unfold topM; omega
  have hget : ∀ i, i < K → kept[i]? = L[F + i]? := fun i hi => by rw [← hkp, List.getElem?_take, if_pos (by omega), List.getElem?_drop]
  rw [← hn] at hρ1 hh5 h1 hW0 ⊢
  rw [← hK]
  obtain ⟨m1, hm1⟩ : ∃ m1, max 0 ((n : Int) - H') = m1 := ⟨_, rfl⟩
  obtain ⟨m2, hm2⟩ : ∃ m2, min m1 ((n : Int) - 1 - ρ) = m2 := ⟨_, rfl⟩
  have hlst : (n : Int) - m2 = (F : Int) + (K : Int) := by omega
  have hmx : max 0 ((F : Int) + (K : Int) - H') = (F : Int) := by omega
  have hFK : F + K ≤ n := by omega
  have hKH : K ≤ H' := by omega
  have hri : ρ < n := by omega
  have hrn : decide (ρ < 0) = false := by simp; omega
  have hrj : ¬ (n : Int) ≤ ρ := by omega
  have HB0 := Lib.hid hb0
  have H1 := Lib.hid h1
  have H2 := Lib.hid h2
  have HW0 := Lib.hid hW0
  have HN := Lib.hid hn
  have HK := Lib.hid hK
  have HGET := Lib.hid hget
  obtain ⟨e0, e1, e2⟩ := blk3 h1
  have HM0 := Lib.hid (Blk.new W0 29 (rgC 0 0 none 0))
  have hws : W0.heap.size = w.heap.size + 2 := by rw [hW0]; simp
  have HWS := Lib.hid hws
  clear hz hi0 hz0 hz1 hz2 h hlat hq hb0 h1 h2 hW0 hn hF hkp hM hK hKe hFe hget hws
  go_enter Tryd.func40, Tryd.ntmps40
  go_upto_region 1 with fail
  rw [← HW0.out]
  go_wp2_with (first
    | (go_at_call 30; refine (rsize_any W' H' _).mono ?_; rintro e w' ⟨rfl, rfl⟩; rw [HZ.out])
    | ((with_reducible refine at_store 11 ?_); refine wpList_store_blk rfl _ _ _ rfl rfl W0.heap.size 0 _ (rgC 0 0 none 0) [.int .i64 W', .int .i64 H', .slice none 0 0] rfl rfl HM0.out (by simp [rgC]) rg_size (by intro v hv; simp at hv; rcases hv with rfl | rfl | rfl <;> rfl) ?_; intro w2 hn2 hg2; have HM2 := Lib.hid (show Blk w2 W0.heap.size 29 [.int .i64 W', .int .i64 H', .slice none 0 0] from hn2); have hb2 : Below W0.heap.size W0 w2 := ((Below.refl _ _).alloc (Nat.le_refl _) _).grown hg2 (by simp) (fun j hj => by injection hj with hj; omega); have HX2 := Lib.hid (H1.out.below hb2 H1.out.lt); have HY2 := Lib.hid (H2.out.below hb2 H2.out.lt); have HB2 := Lib.hid (HB0.out.trans (hb2.mono HB0.out.size)); obtain ⟨g0, g1, g2⟩ := blk3 HX2.out; clear hn2 hg2 hb2))
  clear hlst hmx hm1 hm2 g0 g1 g2 e0 e1 e2
  go_loopw [14] (fun v14 wr => ∃ (k : Nat) (A1 : Option Addr) (c1 : Nat) (us : List Value), v14 = .int .i64 ((F : Int) + (k : Int)) ∧ k ≤ K ∧ Bld wr W0.heap.size (W0.heap.size + 1) W' H' A1 c1 k us ((kept.take k).map (fitM · W')) ∧ Blk wr w.heap.size 29 (rgC W n (some ⟨b, off, none⟩) c) ∧ Blk wr (w.heap.size + 1) 29 (rgC 0 0 none 0) ∧ Below w.heap.size w wr) (fun v14 _ => F + K - (intOf v14).toNat)
  case atStart => exact ⟨0, none, 0, [], by simp, by omega, ⟨HM2.out, World.ownsRow_nil _ _ _ _, .nil, fun _ => rfl⟩, HX2.out, HY2.out, HB2.out⟩
  case round =>
    obtain ⟨k, A1, c1, us, rfl, hk, hbd, hx, hy, hbr⟩ := hrel
    have HBD := Lib.hid hbd
    have HX := Lib.hid hx
    have HY := Lib.hid hy
    have HBR := Lib.hid hbr
    have e2 := hbd.e2
    obtain ⟨g0, g1, g2⟩ := blk3 hx
    clear hbd hx hy hbr HM2 HX2 HY2 HB2 HM0
    have hGw := HBD.out.box.lt
    by_cases hlt : k < K
    · have hki : (F : Int) + (k : Int) < ((F + K : Nat) : Int) := by omega
      have hki2 : (F : Int) + (k : Int) < (F : Int) + (K : Int) := by omega
      have hki3 : (F : Int) + (k : Int) < (n : Int) := by omega
      have hki4 : 0 ≤ (F : Int) + (k : Int) := by omega
      have hkt : ((F : Int) + (k : Int)).toNat = F + k := by omega
      have hlj : L[F + k]? = some (L[F + k]'(by have := HN.out; omega)) := List.getElem?_eq_getElem _
      have hkp : kept.take (k + 1) = kept.take k ++ [L[F + k]'(by have := HN.out; omega)] := by
        have h1 := HGET.out k hlt
        rw [hlj] at h1
        rw [List.take_add_one, h1]
        rfl
      generalize L[F + k]'(by have := HN.out; omega) = l at hlj hkp
      have hll := (HQ.out.wd _ _ hlj).1
      obtain ⟨Ai, ci, hlat⟩ := HLAT.out _ _ hlj
      have hrl := hlat _ (HBR.out.trans ((Below.refl _ _).drew))
      have hcr : wr.cell? ⟨b, off + (F + k), none⟩ = some (.slice Ai l.length ci) := (hlat _ HBR.out).1
      have hfit := rfit_any (w := wr.drew) hrl.2 W' a1 a2 (by omega) (by omega)
      have HFIT := Lib.hid hfit
      have HKP := Lib.hid hkp
      have HLA2 := Lib.hid hlat
      clear hlj hkp hll hlat hrl hfit
      go_upto_region 11 with fail
      go_region_law (first
        | (refine step_call rfl 56 _ _ rfl enters_rfit #[.slice Ai l.length ci, .int .i64 W'] (by simp [Act.eval, Act.put]) HFIT.out ?_; rintro e w3 ⟨v3, rfl, hr3, hb3⟩; obtain ⟨A3, c3, rfl⟩ := hr3.len; rw [fitM_length] at hr3 ⊢; refine ⟨_, rfl, ?_⟩; have HR3 := Lib.hid hr3; have HB3 := Lib.hid ((Below.refl _ _).drew.trans hb3); have HD3 := Lib.hid (HBD.out.below HB3.out); have f2 := HD3.out.e2; have f3 : (w3.alloc (.cells #[.slice A3 W' c3] 77)).cell? ⟨W0.heap.size, 2, none⟩ = some (.slice A1 k c1) := (HD3.out.box.alloc _).cell 2; clear hr3 hb3)
        | (refine step_append_lies _ rfl (.tmp 57) (.tmp 67) _ rfl (W0.heap.size + 1) 77 i0 _ 1 24 Tryd.underlying27 HI0.out HZ0.out HZ1.out HZ2.out rfl (by omega) (.slice A1 k c1) k us (by simp [Act.eval, Act.put]) (HD3.out.own.alloc _) ⟨w3.heap.size, 0, none⟩ 1 1 [.slice A3 W' c3] (by simp [Act.eval, Act.put]) rfl (World.news_of_block (cs := #[.slice A3 W' c3]) (t := 77) (fr := (0, 0)) (heap_alloc_new w3 _)) (fun v hv => by simp at hv; subst hv; rfl) (by omega) (by simp only [maxLen]; omega) (by omega) (by have := HB3.out.size; simp; omega) (w3.heap.size + 1) (by simp) ?_; intro g cap w5 ho hg hat hgl; have hstep := HBD.out.step (by omega) (by omega) HB3.out HR3.out ho hg hat; have HST := Lib.hid hstep; have hbx := (HD3.out.box.alloc (.cells #[.slice A3 W' c3] 77)).chg (chg_of_own hg) (fun e => by have := (HD3.out.own.lt _ e).1; omega); have z2 := hbx.cell 2; have zf2 := hbx.frozen 2; clear ho hg hat hbx hstep))
      all_goals
        go_wp2
        go_roundw
        case rel =>
          first
            | exact ⟨k + 1, _, cap, us ++ [.slice A3 W' c3], by go_num, by omega, by have := HST.out.1; rw [HKP.out, List.map_append]; exact this, HX.out.below HST.out.2 (by have := HWS.out; omega), HY.out.below HST.out.2 (by have := HWS.out; omega), HBR.out.trans (HST.out.2.mono (by have := HWS.out; omega))⟩
            | ((repeat apply Exists.intro); exact ⟨⟨k + 1, _, cap, us ++ [.slice A3 W' c3], by go_num, by omega, by have := HST.out.1; rw [HKP.out, List.map_append]; exact this, HX.out.below HST.out.2 (by have := HWS.out; omega), HY.out.below HST.out.2 (by have := HWS.out; omega), HBR.out.trans (HST.out.2.mono (by have := HWS.out; omega))⟩, rfl⟩)
        case measure => simp [intOf]; omega
    · have hki : ¬ (F : Int) + (k : Int) < (F : Int) + (K : Int) := by omega
      have hkK : k = K := by omega
      have hbd0 : Bld wr W0.heap.size (W0.heap.size + 1) W' H' A1 c1 k us (kept.map (fitM · W') ++ List.replicate (k - K) (List.replicate W' bl)) := by
        have h1 := HBD.out
        rw [hkK] at h1 ⊢
        rw [List.take_of_length_le (by have := HK.out; omega)] at h1
        rw [Nat.sub_self, List.replicate_zero, List.append_nil]
        exact h1
      have HBD0 := Lib.hid hbd0
      have hKk : K ≤ k := by omega
      clear hbd0 hkK g0 g1 g2 e2 HBD
      go_wp2_with (fail)
      go_loopw [72] (fun v72 wx => ∃ (q : Nat) (A2 : Option Addr) (c2 : Nat) (us2 : List Value), K ≤ q ∧ q ≤ H' ∧ wx.cell? ⟨W0.heap.size, 2, none⟩ = some (.slice A2 q c2) ∧ Bld wx W0.heap.size (W0.heap.size + 1) W' H' A2 c2 q us2 (kept.map (fitM · W') ++ List.replicate (q - K) (List.replicate W' bl)) ∧ Blk wx (w.heap.size + 1) 29 (rgC 0 0 none 0) ∧ Below w.heap.size w wx) (fun _ wx => H' - lenOf ((wx.cell? ⟨W0.heap.size, 2, none⟩).getD undef))
      case atStart => exact ⟨k, A1, c1, us, hKk, by omega, HBD0.out.e2, HBD0.out, HY.out, HBR.out⟩
      case round =>
        obtain ⟨q, A2, c2, us2, hq1, hq2, hc2, hbd, hy, hbx⟩ := hrel
        have HBD2 := Lib.hid hbd
        have HY2 := Lib.hid hy
        have HBX := Lib.hid hbx
        have HC2 := Lib.hid hc2
        have e2 := hc2
        have hGw := hbd.box.lt
        clear hbd hy hbx hc2 HBD0 HBR HX HY
        by_cases hlt : q < H'
        · have hqi : (q : Int) < H' := by omega
          go_upto_region 13 with fail
          go_region_law (first
            | (refine step_call rfl 31 _ _ rfl enters_rblanks #[.int .i64 W'] (by simp [Act.eval, Act.put]) (rblanks_any W' (by omega) _) ?_; rintro e w3 ⟨v3, rfl, hr3, hb3⟩; refine ⟨_, rfl, ?_⟩; have HR3 := Lib.hid hr3; have HB3 := Lib.hid ((Below.refl _ _).drew.trans hb3); have hv1 : v3.oneCell' = true := hr3.one; have HV1 := Lib.hid hv1; have HD3 := Lib.hid (HBD2.out.below HB3.out); have f2 := HD3.out.e2; have f3 : (w3.alloc (.cells #[v3] 77)).cell? ⟨W0.heap.size, 2, none⟩ = some (.slice A2 q c2) := (HD3.out.box.alloc _).cell 2; clear hr3 hb3 hv1)
            | (refine step_append_lies _ rfl (.tmp 76) (.tmp 79) _ rfl (W0.heap.size + 1) 77 i0 _ 1 24 Tryd.underlying27 HI0.out HZ0.out HZ1.out HZ2.out rfl (by omega) (.slice A2 q c2) q us2 (by simp [Act.eval, Act.put]) (HD3.out.own.alloc _) ⟨w3.heap.size, 0, none⟩ 1 1 [v3] (by simp [Act.eval, Act.put]) rfl (World.news_of_block (cs := #[v3]) (t := 77) (fr := (0, 0)) (heap_alloc_new w3 _)) (fun v hv => by simp at hv; subst hv; exact HV1.out) (by omega) (by simp only [maxLen]; omega) (by omega) (by have := HB3.out.size; simp; omega) (w3.heap.size + 1) (by simp) ?_; intro g cap w5 ho hg hat hgl; have hstep := HBD2.out.step (by omega) (by omega) HB3.out HR3.out ho hg hat; have HST := Lib.hid hstep; have hbx := (HD3.out.box.alloc (.cells #[v3] 77)).chg (chg_of_own hg) (fun e => by have := (HD3.out.own.lt _ e).1; omega); have z2 := hbx.cell 2; have zf2 := hbx.frozen 2; clear ho hg hat hbx hstep))
          all_goals
            go_wp2
            go_roundw
            case rel =>
              first
                | exact ⟨q + 1, _, cap, us2 ++ [v3], by omega, by omega, HST.out.1.e2, by have := HST.out.1; rw [List.append_assoc, ← List.replicate_succ', show q - K + 1 = q + 1 - K by omega] at this; exact this, HY2.out.below HST.out.2 (by have := HWS.out; omega), HBX.out.trans (HST.out.2.mono (by have := HWS.out; omega))⟩
                | ((repeat apply Exists.intro); exact ⟨⟨q + 1, _, cap, us2 ++ [v3], by omega, by omega, HST.out.1.e2, by have := HST.out.1; rw [List.append_assoc, ← List.replicate_succ', show q - K + 1 = q + 1 - K by omega] at this; exact this, HY2.out.below HST.out.2 (by have := HWS.out; omega), HBX.out.trans (HST.out.2.mono (by have := HWS.out; omega))⟩, rfl⟩)
            case measure =>
              have h1 := HC2.out
              have h2 := HST.out.1.e2
              show H' - lenOf _ < H' - lenOf _
              rw [h1, h2]
              simp [lenOf]
              omega
        · have hqi : ¬ (q : Int) < H' := by omega
          obtain rfl : q = H' := by omega
          obtain ⟨y0, y1, y2⟩ := blk3 (show Blk wr W0.heap.size 29 (rgC W' q A2 c2) from HBD2.out.box)
          go_wp2_with ((with_reducible refine at_store 8 ?_); refine wpList_store_blk rfl _ _ _ rfl rfl (w.heap.size + 1) 0 _ (rgC 0 0 none 0) (rgC W' q A2 c2) rfl rfl HY2.out (by simp [rgC]) rg_size (rgC_one _ _ _ _) ?_; intro w6 hn6 hg6; have hn6' : Blk w6 (w.heap.size + 1) 29 (rgC W' q A2 c2) := hn6)
          have hv := HBD2.out.fin rfl (by simp; have := HK.out; omega)
          refine bodyPost_ret (results_ctt rfl rfl rfl rfl hn6'.whole Tryd.underlying29 rfl rg_size) rfl ⟨_, rfl, (hv.chg (chg_of_grown hg6) (fun z _ h e => by have e' : z = w.heap.size + 1 := e; have h' : W0.heap.size + 1 ≤ z := h; have := HWS.out; omega)).mono (fun z _ h => .inr (by have h' : W0.heap.size + 1 ≤ z := h; have := HWS.out; omega)), HBX.out.grown hg6 HBX.out.size (fun j hj => by injection hj with hj; omega)⟩

theorem rresize_any {w : World} {D : Nat → Prop} {A : Option Addr} {c W : Nat} {L : List (List Cl)} (h : RfAt w D A c L) (hq : Rws W L) (a b row : Int) :
    Calls Tryd.prog 40 #[.agg #[.int .i64 W, .int .i64 L.length, .slice A L.length c], .int .i64 a, .int .i64 b, .int .i64 row] w fun e w' => ∃ V, e = .returned (.tuple #[V, .int .i64 (rszM W L a b row).2.2.1, .int .i64 (rszM W L a b row).2.2.2]) ∧ RfV w' (fun b => D b ∨ w.heap.size ≤ b) V (rszM W L a b row).2.1 (rszM W L a b row).1 ∧ Below w.heap.size w w' := by
  unfold rszM
  by_cases h1 : sideB a = false ∨ sideB b = false
  · rw [if_pos h1]
    exact (rresize_no (W := W) (n := L.length) (A := A) (c := c) a b row 40 (.inl ⟨h1, rfl⟩)).mono fun e w' ⟨he, hb⟩ => ⟨_, he, (h.v.mono (fun b _ h => .inl h)).below hb, hb⟩
  · rw [if_neg h1]
    have ha : sideB a = true := by simpa using fun e => h1 (.inl e)
    have hb : sideB b = true := by simpa using fun e => h1 (.inr e)
    by_cases h2 : inB row 0 W L.length = false
    · rw [if_pos h2]
      have hr : row < 0 ∨ (L.length : Int) ≤ row := by
        have := hq.w1
        simp [inB] at h2
        omega
      exact (rresize_no (W := W) (n := L.length) (A := A) (c := c) a b row 5 (.inr ⟨ha, hb, hr, rfl⟩)).mono fun e w' ⟨he, hb⟩ => ⟨_, he, (h.v.mono (fun b _ h => .inl h)).below hb, hb⟩
    · rw [if_neg h2]
      have a' : inB row 0 W L.length = true := by simpa using h2
      obtain ⟨r0, r1⟩ : 0 ≤ row ∧ row < L.length := by simp [inB] at a'; omega
      obtain ⟨A1, A2⟩ : 1 ≤ a ∧ a ≤ 500 := by simpa [sideB] using ha
      obtain ⟨B1, B2⟩ : 1 ≤ b ∧ b ≤ 500 := by simpa [sideB] using hb
      obtain ⟨r, rfl⟩ := Int.eq_ofNat_of_zero_le r0
      obtain ⟨x, rfl⟩ := Int.eq_ofNat_of_zero_le (show 0 ≤ a by omega)
      obtain ⟨y, rfl⟩ := Int.eq_ofNat_of_zero_le (show 0 ≤ b by omega)
      exact rresize_ok h hq x y r (by omega) (by omega) (by omega) (by omega) (by omega)
end Go.Proofs.YtijbimofigkdkaaDoor
