/-
  Walk: the reference's Scroll.
-/
import Derived.Test.YtijbimofigkdkaaDoorRfErase
namespace Go.Proofs.YtijbimofigkdkaaDoor
open Go.RowKit
set_option linter.unusedVariables false
set_option linter.unusedSimpArgs false

theorem rrow_info : (Tryd.prog.info? 77).map (fun i => (i.zero, i.size, i.bytes)) = some (some (.agg #[.slice none 0 0]), 1, 24) := by kernel_rfl

set_option maxRecDepth 100000 in
set_option maxHeartbeats 8000000 in
theorem rscroll_any {w : World} {D : Nat → Prop} {A : Option Addr} {c W : Nat} {L : List (List Cl)} (h : RfAt w D A c L) (hq : Rws W L) (m : Int) :
    Calls Tryd.prog 39 #[.agg #[.int .i64 W, .int .i64 L.length, .slice A L.length c], .int .i64 m] w fun e w' => ∃ V, e = .returned (.tuple #[V, .int .i64 (scrollN L.length m)]) ∧ RfV w' (fun b => D b ∨ w.heap.size ≤ b) V W (scrollM W L m) ∧ Below w.heap.size w w' := by
  have hw1 := hq.w1
  have hw5 := hq.w5
  have hh5 := hq.h5
  have hh1 := hq.h1
  obtain ⟨hb0, h1, h2⟩ := erW0_is w W L.length A c
  have hW0 : erW0 w W L.length A c = (w.alloc (.cells #[.int .i64 W, .int .i64 L.length, .slice A L.length c] 29)).alloc (.cells #[.int .i64 0, .int .i64 0, .slice none 0 0] 29) := rfl
  generalize erW0 w W L.length A c = W0 at hb0 h1 h2 hW0
  obtain ⟨hnil, hcap, vs, hvs, hrows⟩ := h.mono (D' := fun b => (D b ∧ b < w.heap.size) ∨ w.heap.size + 2 ≤ b) (fun b hb h => .inl ⟨h, hb⟩)
  obtain ⟨i0, hi0, hz0, hz1, hz2⟩ := info_parts rrow_info
  obtain ⟨n, hn⟩ : ∃ n, n = L.length := ⟨_, rfl⟩
  have hvl : vs.length = n := by rw [hn]; exact hrows.1
  obtain ⟨b, off, rfl, hbl, hbd, hbx⟩ := hvs.open_ (by omega)
  obtain ⟨k, hk⟩ : ∃ k, scrollN L.length m = k := ⟨_, rfl⟩
  have hkn : k ≤ n := by rw [← hk, hn]; unfold scrollN; omega
  have hM : scrollM W L m = L.drop k ++ List.replicate k (List.replicate W bl) := by unfold scrollM; rw [hk]
  rw [hk, hM]
  obtain ⟨E, hE⟩ : ∃ E : Int, min m (n : Int) = E := ⟨_, rfl⟩
  have hmx : max 0 E = (k : Int) := by rw [← hk, ← hE, hn]; unfold scrollN; omega
  rw [← hn] at hh5 hh1 hcap h1 hW0 ⊢
  have hdrop := (hvs.drop (k := k) (cap := c) (by omega)).sl
  have HDR := Lib.hid hdrop
  have HI0 := Lib.hid hi0
  have HZ0 := Lib.hid hz0
  have HZ1 := Lib.hid hz1
  have HZ2 := Lib.hid hz2
  have HB0 := Lib.hid hb0
  have H1 := Lib.hid h1
  have H2 := Lib.hid h2
  have HW0 := Lib.hid hW0
  have HVL := Lib.hid hvl
  have HROWS := Lib.hid hrows
  have HONE := Lib.hid hrows.one
  have HN := Lib.hid hn
  have hki : (k : Int) ≤ n := by omega
  have hk0 : (0 : Int) ≤ (k : Int) := by omega
  have hkc : k ≤ c := by omega
  obtain ⟨e0, e1, e2⟩ := blk3 h1
  clear hb0 h1 h2 hW0 h hnil hvs hrows hi0 hz0 hz1 hz2 hvl hn hk hM hq hdrop hbx
  have hw0 : w.heap.size + 1 < W0.heap.size := H2.out.lt
  have e2' : (W0.alloc (.cells #[] 77)).cell? ⟨w.heap.size, 2, none⟩ = some (.slice (some ⟨b, off, none⟩) n c) := (World.cell?_alloc_lt W0 _ ⟨w.heap.size, 2, none⟩ (by show w.heap.size < _; omega)).trans e2
  have HLIT := Lib.hid (show (W0.alloc (.cells #[] 77)).ownsRow W0.heap.size 77 1 (.slice (some ⟨W0.heap.size, 0, none⟩) 0 0) 0 [] by have := World.ownsRow_lit (base := W0.heap.size) (e := 77) (size := 1) W0 #[] 0 (Nat.le_refl _) (by simp only [maxLen]; omega) (by simp); simpa using this)
  have HSD := Lib.hid ((HDR.out.below HB0.out).more HB0.out.size |>.alloc (Nat.le_refl _) (.cells #[] 77))
  have HDL : Hid ((vs.drop k).length = (n - k) * 1) := by show _ = _; rw [List.length_drop, HVL.out]; omega
  have hd1 : ∀ v ∈ vs.drop k, v.oneCell' = true := fun v hv => HONE.out v (List.mem_of_mem_drop hv)
  have HD1 := Lib.hid hd1
  have pre : ∀ w1, Below W0.heap.size W0 w1 → Blk w1 w.heap.size 29 (rgC W n (some ⟨b, off, none⟩) c) ∧ Blk w1 (w.heap.size + 1) 29 (rgC 0 0 none 0) ∧ Below w.heap.size w w1 := fun w1 hb =>
    ⟨H1.out.below hb H1.out.lt, H2.out.below hb H2.out.lt, HB0.out.trans (hb.mono HB0.out.size)⟩
  have PRE := Lib.hid pre
  have hnil2 : ∀ q : Nat, (some (⟨b, q, none⟩ : Addr) = none) → c - k = 0 := fun q h => by cases h
  clear hd1 pre H1 H2 hnil2 e2
  by_cases hkn2 : k < n
  · have hck : ¬ c = k := by omega
    have hnk : ¬ n = k := by omega
    have HSX : Hid (Sl (W0.alloc (.cells #[] 77)) W0.heap.size (some ⟨b, off + k, none⟩) (vs.drop k)) := by have := HSD.out; rw [if_neg hck] at this; show Sl _ _ _ _; simpa [Addr.add_mid] using this
    have HDX := HDL
    go_enter Tryd.func39, Tryd.ntmps39
    go_upto_region 1 with fail
    rw [← HW0.out]
    go_wp2_with (at_builtin; (refine wpList_append_sl _ rfl (.tmp 14) (.tmp 18) _ rfl W0.heap.size 77 i0 _ 1 24 Tryd.underlying27 HI0.out HZ0.out HZ1.out HZ2.out rfl (by omega) (.slice (some ⟨W0.heap.size, 0, none⟩) 0 0) 0 [] rfl HLIT.out W0.heap.size _ (n - k) (c - k) (vs.drop k) rfl HSX.out HDX.out (by intro h; cases h) HD1.out (by simp only [maxLen]; omega) (by omega) (by simp) ?_); intro v' w2 ho hg hat; rw [Nat.zero_add, List.nil_append] at ho; obtain ⟨A1, c1, rfl, hn1, _⟩ := own_of ho; have HO2 := Lib.hid ho; have HN1 := Lib.hid hn1; have HBB := Lib.hid (((Below.refl W0.heap.size W0).alloc (Nat.le_refl _) (.cells #[] 77)).grown hg (by simp) (fun j hj => by have : some W0.heap.size = some j := hj; injection this with this; omega)); clear ho hg hat hn1)
    have HNM : Hid ((n - k) = n - k) := (rfl : n - k = n - k)
    go_loopw [7, 8] (fun v7 v8 wr => ∃ (j N : Nat) (A1 : Option Addr) (c1 : Nat) (us : List Value), v8 = .int .i64 j ∧ j ≤ k ∧ v7 = .slice A1 N c1 ∧ N = n - k + j ∧ (A1 = none → c1 = 0) ∧ wr.ownsRow W0.heap.size 77 1 (.slice A1 N c1) N us ∧ RowsD wr (fun b => ((D b ∧ b < w.heap.size) ∨ w.heap.size + 2 ≤ b) ∧ (Value.slice A1 N c1).ownBlock ≠ some b) us (L.drop k ++ List.replicate j (List.replicate W bl)) ∧ Below W0.heap.size W0 wr) (fun _ v8 _ => k - (intOf v8).toNat)
    case atStart => exact ⟨0, _, A1, c1, vs.drop k, rfl, by omega, rfl, HNM.out, HN1.out, HO2.out, by rw [List.replicate_zero, List.append_nil]; exact ((HROWS.out.drop k).mono (fun b hb h => ⟨h, fun e => by have := (HO2.out.lt b e).1; have := HB0.out.size; omega⟩)).below (HB0.out.trans (HBB.out.mono HB0.out.size)), HBB.out⟩
    case round =>
      obtain ⟨j, N, A1, c1, us, rfl, hj, rfl, hN, hn1, ho, hrs, hbr⟩ := hrel
      have HO := Lib.hid ho
      have HRS := Lib.hid hrs
      have HBR := Lib.hid hbr
      have HN1 := Lib.hid hn1
      have HNN := Lib.hid hN
      obtain ⟨h1, h2, hbw⟩ := PRE.out _ hbr
      obtain ⟨e0, e1, e2⟩ := blk3 h1
      have HX1 := Lib.hid h1
      have HX2 := Lib.hid h2
      have HBW := Lib.hid hbw
      clear ho hrs hbr hn1 h1 h2 hbw HO2
      by_cases hlt : j < k
      · have hji : (j : Int) < k := by omega
        have hN5 : N ≤ 500 := by omega
        clear hN
        go_wp2_with (fail)
        refine (rblanks_any W (by omega) _).mono ?_
        rintro e w3 ⟨v3, rfl, hr3, hb3⟩
        have HR3 := Lib.hid hr3
        have HB3 := Lib.hid hb3
        have hv1 : v3.oneCell' = true := hr3.one
        have HV1 := Lib.hid hv1
        clear hr3 hb3 hv1
        have hws : W0.heap.size ≤ w3.heap.size := Nat.le_trans HBR.out.size HB3.out.size
        go_wp2_with (at_builtin; (refine wpList_append_sl _ rfl (.tmp 25) (.tmp 29) _ rfl W0.heap.size 77 i0 _ 1 24 Tryd.underlying27 HI0.out HZ0.out HZ1.out HZ2.out rfl (by omega) (.slice A1 N c1) N us rfl ((HO.out.kept (row := none) (grown_of_below HB3.out) (by cases h : (Value.slice A1 N c1).ownBlock <;> simp)).alloc _) (w3.heap.size + 1) (some ⟨w3.heap.size, 0, none⟩) 1 1 [v3] rfl (Sl.new w3 _ _) rfl (fun e => by cases e) (fun v hv => by simp at hv; subst hv; exact HV1.out) (by simp only [maxLen]; omega) (by omega) (by simp; omega) ?_); intro v' w5 ho hg hat; obtain ⟨A5, c5, rfl, hn5, _⟩ := own_of ho; have HO5 := Lib.hid ho; have HN5 := Lib.hid hn5; have HG5 := Lib.hid hg; have HAT := Lib.hid hat; clear ho hg hat hn5)
        have hb5 : Below W0.heap.size W0 w5 := by
          have h1 : Below W0.heap.size W0 (w3.alloc (.cells #[v3] 77)) := (HBR.out.trans (HB3.out.mono HBR.out.size)).alloc hws _
          exact h1.grown HG5.out h1.size (fun q hq => (HO.out.lt q hq).1)
        have hrs5 : RowsD w5 (fun b => ((D b ∧ b < w.heap.size) ∨ w.heap.size + 2 ≤ b) ∧ (Value.slice A5 (N + 1) c5).ownBlock ≠ some b) (us ++ [v3]) (L.drop k ++ List.replicate (j + 1) (List.replicate W bl)) := by
          rw [List.replicate_succ', ← List.append_assoc]
          have c1' : Chg (fun q => (Value.slice A1 N c1).ownBlock = some q) w3 w5 := ((Chg.refl (fun q => (Value.slice A1 N c1).ownBlock = some q) w3).alloc (.cells #[v3] 77)).grown HG5.out (fun q hq => .inl hq)
          have hne5 : ∀ q, q < w3.heap.size → (Value.slice A1 N c1).ownBlock ≠ some q → (Value.slice A5 (N + 1) c5).ownBlock ≠ some q := fun q hq h e => by
            rcases HAT.out with h2 | h2
            · rw [h2] at e; exact h e
            · rw [h2] at e
              injection e with e
              simp at e
              omega
          have hold := ((HRS.out.below HB3.out).mono (D' := fun b => (((D b ∧ b < w.heap.size) ∨ w.heap.size + 2 ≤ b) ∧ (Value.slice A5 (N + 1) c5).ownBlock ≠ some b) ∧ (Value.slice A1 N c1).ownBlock ≠ some b) (fun q hq h => ⟨⟨h.1, hne5 q hq h.2⟩, h.2⟩)).chg c1' (fun q _ h e => h.2 e)
          have hnew := (HR3.out.mono (D' := fun b => (((D b ∧ b < w.heap.size) ∨ w.heap.size + 2 ≤ b) ∧ (Value.slice A5 (N + 1) c5).ownBlock ≠ some b) ∧ (Value.slice A1 N c1).ownBlock ≠ some b) (fun q hq h => by
            have h1 : wr.heap.size ≤ q := h
            have h2 : (Value.slice A1 N c1).ownBlock ≠ some q := fun e => by have := (HO.out.lt q e).2; omega
            have := HBR.out.size
            exact ⟨⟨.inr (by omega), hne5 q hq h2⟩, h2⟩)).chg c1' (fun q _ h e => h.2 e)
          exact (hold.snoc hnew).mono (fun q _ h => h.1)
        have HRS5 := Lib.hid hrs5
        have HB5 := Lib.hid hb5
        clear hb5 hrs5
        go_roundw
        case rel => exact ⟨j + 1, N + 1, A5, c5, us ++ [v3], by go_num, by omega, rfl, by have := HNN.out; omega, HN5.out, HO5.out, HRS5.out, HB5.out⟩
        case measure => simp [intOf]; omega
      · have hjk : j = k := by omega
        have hNn : N = n := by omega
        have HJK := Lib.hid hjk
        clear hN
        subst hNn
        have hji : ¬ (j : Int) < k := by omega
        clear hjk
        go_wp2_with (first
          | ((with_reducible refine at_store 32 ?_); refine wpList_store_cell rfl _ _ _ rfl rfl w.heap.size 2 _ _ (.slice A1 N c1) rfl rfl HX1.out (by simp [rgC]) (by kernel_rfl) rfl ?_; intro w6 hn6 hg6; have hn6' : Blk w6 w.heap.size 29 (rgC W N A1 c1) := hn6; obtain ⟨z0, z1, z2⟩ := blk3 hn6'; have HX26 := Lib.hid (HX2.out.chg (chg_of_grown hg6) (fun e => by have e' : w.heap.size + 1 = w.heap.size := e; omega)); have HG6 := Lib.hid hg6; clear hn6 hn6' hg6 e0 e1 e2)
          | ((with_reducible refine at_store 4 ?_); refine wpList_store_blk rfl _ _ _ rfl rfl (w.heap.size + 1) 0 _ (rgC 0 0 none 0) (rgC W N A1 c1) rfl rfl HX26.out (by simp [rgC]) rg_size (rgC_one _ _ _ _) ?_; intro w7 hn7 hg7; have hn7' : Blk w7 (w.heap.size + 1) 29 (rgC W N A1 c1) := hn7))
        have hlN : (L.drop k ++ List.replicate j (List.replicate W bl)).length = N := by
          have h1 := HRS.out.1
          have h2 := HO.out.1
          omega
        have hv : RfV wr (fun b => (D b ∧ b < w.heap.size) ∨ w.heap.size + 2 ≤ b) (.agg (rgC W N A1 c1).toArray) W (L.drop k ++ List.replicate j (List.replicate W bl)) := by
          refine ⟨A1, c1, by rw [hlN], HN1.out, by rw [hlN]; exact own_cap HO.out, us, (SlD.own HO.out).mono (fun q _ h => .inr (by have h' : W0.heap.size ≤ q := h; omega)), HRS.out.mono (fun q _ h => h.1)⟩
        have hv6 := hv.chg (chg_of_grown HG6.out) (fun q _ h e => by have e' : q = w.heap.size := e; omega)
        have hbw6 : Below w.heap.size w w6 := HBW.out.grown HG6.out HBW.out.size (fun q hq => by injection hq with hq; omega)
        have hjk := HJK.out
        subst hjk
        exact bodyPost_ret (results_ct rfl rfl rfl hn7'.whole Tryd.underlying29 rfl rg_size) rfl ⟨_, rfl, grid_fin1 hbw6 hv6 (chg_of_grown hg7)⟩
  · have hkn3 : n - k = 0 := by omega
    have hvd : vs.drop k = [] := List.drop_eq_nil_of_le (by have := HVL.out; omega)
    have HSX : Hid (∀ X, Sl (W0.alloc (.cells #[] 77)) W0.heap.size X (vs.drop k)) := fun X => by rw [hvd]; exact .inl rfl
    have HDX : Hid ((vs.drop k).length = 0 * 1) := by show _ = _; rw [hvd]; rfl
    have HK0 := Lib.hid hkn3
    clear hvd
    by_cases hck : c = k
    · have hck2 := hck.symm
      subst hck2
      go_enter Tryd.func39, Tryd.ntmps39
      go_upto_region 1 with fail
      rw [← HW0.out]
      go_wp2_with (at_builtin; (refine wpList_append_sl _ rfl (.tmp 14) (.tmp 18) _ rfl W0.heap.size 77 i0 _ 1 24 Tryd.underlying27 HI0.out HZ0.out HZ1.out HZ2.out rfl (by omega) (.slice (some ⟨W0.heap.size, 0, none⟩) 0 0) 0 [] rfl HLIT.out W0.heap.size _ 0 0 (vs.drop k) rfl (HSX.out _) HDX.out (by intro h; cases h) HD1.out (by simp only [maxLen]; omega) (by omega) (by simp) ?_); intro v' w2 ho hg hat; rw [Nat.zero_add, List.nil_append] at ho; obtain ⟨A1, c1, rfl, hn1, _⟩ := own_of ho; have HO2 := Lib.hid ho; have HN1 := Lib.hid hn1; have HBB := Lib.hid (((Below.refl W0.heap.size W0).alloc (Nat.le_refl _) (.cells #[] 77)).grown hg (by simp) (fun j hj => by have : some W0.heap.size = some j := hj; injection this with this; omega)); clear ho hg hat hn1)
      have HNM : Hid (0 = n - k) := HK0.out.symm
      go_loopw [7, 8] (fun v7 v8 wr => ∃ (j N : Nat) (A1 : Option Addr) (c1 : Nat) (us : List Value), v8 = .int .i64 j ∧ j ≤ k ∧ v7 = .slice A1 N c1 ∧ N = n - k + j ∧ (A1 = none → c1 = 0) ∧ wr.ownsRow W0.heap.size 77 1 (.slice A1 N c1) N us ∧ RowsD wr (fun b => ((D b ∧ b < w.heap.size) ∨ w.heap.size + 2 ≤ b) ∧ (Value.slice A1 N c1).ownBlock ≠ some b) us (L.drop k ++ List.replicate j (List.replicate W bl)) ∧ Below W0.heap.size W0 wr) (fun _ v8 _ => k - (intOf v8).toNat)
      case atStart => exact ⟨0, _, A1, c1, vs.drop k, rfl, by omega, rfl, HNM.out, HN1.out, HO2.out, by rw [List.replicate_zero, List.append_nil]; exact ((HROWS.out.drop k).mono (fun b hb h => ⟨h, fun e => by have := (HO2.out.lt b e).1; have := HB0.out.size; omega⟩)).below (HB0.out.trans (HBB.out.mono HB0.out.size)), HBB.out⟩
      case round =>
        obtain ⟨j, N, A1, c1, us, rfl, hj, rfl, hN, hn1, ho, hrs, hbr⟩ := hrel
        have HO := Lib.hid ho
        have HRS := Lib.hid hrs
        have HBR := Lib.hid hbr
        have HN1 := Lib.hid hn1
        have HNN := Lib.hid hN
        obtain ⟨h1, h2, hbw⟩ := PRE.out _ hbr
        obtain ⟨e0, e1, e2⟩ := blk3 h1
        have HX1 := Lib.hid h1
        have HX2 := Lib.hid h2
        have HBW := Lib.hid hbw
        clear ho hrs hbr hn1 h1 h2 hbw HO2
        by_cases hlt : j < k
        · have hji : (j : Int) < k := by omega
          have hN5 : N ≤ 500 := by omega
          clear hN
          go_wp2_with (fail)
          refine (rblanks_any W (by omega) _).mono ?_
          rintro e w3 ⟨v3, rfl, hr3, hb3⟩
          have HR3 := Lib.hid hr3
          have HB3 := Lib.hid hb3
          have hv1 : v3.oneCell' = true := hr3.one
          have HV1 := Lib.hid hv1
          clear hr3 hb3 hv1
          have hws : W0.heap.size ≤ w3.heap.size := Nat.le_trans HBR.out.size HB3.out.size
          go_wp2_with (at_builtin; (refine wpList_append_sl _ rfl (.tmp 25) (.tmp 29) _ rfl W0.heap.size 77 i0 _ 1 24 Tryd.underlying27 HI0.out HZ0.out HZ1.out HZ2.out rfl (by omega) (.slice A1 N c1) N us rfl ((HO.out.kept (row := none) (grown_of_below HB3.out) (by cases h : (Value.slice A1 N c1).ownBlock <;> simp)).alloc _) (w3.heap.size + 1) (some ⟨w3.heap.size, 0, none⟩) 1 1 [v3] rfl (Sl.new w3 _ _) rfl (fun e => by cases e) (fun v hv => by simp at hv; subst hv; exact HV1.out) (by simp only [maxLen]; omega) (by omega) (by simp; omega) ?_); intro v' w5 ho hg hat; obtain ⟨A5, c5, rfl, hn5, _⟩ := own_of ho; have HO5 := Lib.hid ho; have HN5 := Lib.hid hn5; have HG5 := Lib.hid hg; have HAT := Lib.hid hat; clear ho hg hat hn5)
          have hb5 : Below W0.heap.size W0 w5 := by
            have h1 : Below W0.heap.size W0 (w3.alloc (.cells #[v3] 77)) := (HBR.out.trans (HB3.out.mono HBR.out.size)).alloc hws _
            exact h1.grown HG5.out h1.size (fun q hq => (HO.out.lt q hq).1)
          have hrs5 : RowsD w5 (fun b => ((D b ∧ b < w.heap.size) ∨ w.heap.size + 2 ≤ b) ∧ (Value.slice A5 (N + 1) c5).ownBlock ≠ some b) (us ++ [v3]) (L.drop k ++ List.replicate (j + 1) (List.replicate W bl)) := by
            rw [List.replicate_succ', ← List.append_assoc]
            have c1' : Chg (fun q => (Value.slice A1 N c1).ownBlock = some q) w3 w5 := ((Chg.refl (fun q => (Value.slice A1 N c1).ownBlock = some q) w3).alloc (.cells #[v3] 77)).grown HG5.out (fun q hq => .inl hq)
            have hne5 : ∀ q, q < w3.heap.size → (Value.slice A1 N c1).ownBlock ≠ some q → (Value.slice A5 (N + 1) c5).ownBlock ≠ some q := fun q hq h e => by
              rcases HAT.out with h2 | h2
              · rw [h2] at e; exact h e
              · rw [h2] at e
                injection e with e
                simp at e
                omega
            have hold := ((HRS.out.below HB3.out).mono (D' := fun b => (((D b ∧ b < w.heap.size) ∨ w.heap.size + 2 ≤ b) ∧ (Value.slice A5 (N + 1) c5).ownBlock ≠ some b) ∧ (Value.slice A1 N c1).ownBlock ≠ some b) (fun q hq h => ⟨⟨h.1, hne5 q hq h.2⟩, h.2⟩)).chg c1' (fun q _ h e => h.2 e)
            have hnew := (HR3.out.mono (D' := fun b => (((D b ∧ b < w.heap.size) ∨ w.heap.size + 2 ≤ b) ∧ (Value.slice A5 (N + 1) c5).ownBlock ≠ some b) ∧ (Value.slice A1 N c1).ownBlock ≠ some b) (fun q hq h => by
              have h1 : wr.heap.size ≤ q := h
              have h2 : (Value.slice A1 N c1).ownBlock ≠ some q := fun e => by have := (HO.out.lt q e).2; omega
              have := HBR.out.size
              exact ⟨⟨.inr (by omega), hne5 q hq h2⟩, h2⟩)).chg c1' (fun q _ h e => h.2 e)
            exact (hold.snoc hnew).mono (fun q _ h => h.1)
          have HRS5 := Lib.hid hrs5
          have HB5 := Lib.hid hb5
          clear hb5 hrs5
          go_roundw
          case rel => exact ⟨j + 1, N + 1, A5, c5, us ++ [v3], by go_num, by omega, rfl, by have := HNN.out; omega, HN5.out, HO5.out, HRS5.out, HB5.out⟩
          case measure => simp [intOf]; omega
        · have hjk : j = k := by omega
          have hNn : N = n := by omega
          have HJK := Lib.hid hjk
          clear hN
          subst hNn
          have hji : ¬ (j : Int) < k := by omega
          clear hjk
          go_wp2_with (first
            | ((with_reducible refine at_store 32 ?_); refine wpList_store_cell rfl _ _ _ rfl rfl w.heap.size 2 _ _ (.slice A1 N c1) rfl rfl HX1.out (by simp [rgC]) (by kernel_rfl) rfl ?_; intro w6 hn6 hg6; have hn6' : Blk w6 w.heap.size 29 (rgC W N A1 c1) := hn6; obtain ⟨z0, z1, z2⟩ := blk3 hn6'; have HX26 := Lib.hid (HX2.out.chg (chg_of_grown hg6) (fun e => by have e' : w.heap.size + 1 = w.heap.size := e; omega)); have HG6 := Lib.hid hg6; clear hn6 hn6' hg6 e0 e1 e2)
            | ((with_reducible refine at_store 4 ?_); refine wpList_store_blk rfl _ _ _ rfl rfl (w.heap.size + 1) 0 _ (rgC 0 0 none 0) (rgC W N A1 c1) rfl rfl HX26.out (by simp [rgC]) rg_size (rgC_one _ _ _ _) ?_; intro w7 hn7 hg7; have hn7' : Blk w7 (w.heap.size + 1) 29 (rgC W N A1 c1) := hn7))
          have hlN : (L.drop k ++ List.replicate j (List.replicate W bl)).length = N := by
            have h1 := HRS.out.1
            have h2 := HO.out.1
            omega
          have hv : RfV wr (fun b => (D b ∧ b < w.heap.size) ∨ w.heap.size + 2 ≤ b) (.agg (rgC W N A1 c1).toArray) W (L.drop k ++ List.replicate j (List.replicate W bl)) := by
            refine ⟨A1, c1, by rw [hlN], HN1.out, by rw [hlN]; exact own_cap HO.out, us, (SlD.own HO.out).mono (fun q _ h => .inr (by have h' : W0.heap.size ≤ q := h; omega)), HRS.out.mono (fun q _ h => h.1)⟩
          have hv6 := hv.chg (chg_of_grown HG6.out) (fun q _ h e => by have e' : q = w.heap.size := e; omega)
          have hbw6 : Below w.heap.size w w6 := HBW.out.grown HG6.out HBW.out.size (fun q hq => by injection hq with hq; omega)
          have hjk := HJK.out
          subst hjk
          exact bodyPost_ret (results_ct rfl rfl rfl hn7'.whole Tryd.underlying29 rfl rg_size) rfl ⟨_, rfl, grid_fin1 hbw6 hv6 (chg_of_grown hg7)⟩
    · have hckf : ¬ c = k := hck
      go_enter Tryd.func39, Tryd.ntmps39
      go_upto_region 1 with fail
      rw [← HW0.out]
      go_wp2_with (at_builtin; (refine wpList_append_sl _ rfl (.tmp 14) (.tmp 18) _ rfl W0.heap.size 77 i0 _ 1 24 Tryd.underlying27 HI0.out HZ0.out HZ1.out HZ2.out rfl (by omega) (.slice (some ⟨W0.heap.size, 0, none⟩) 0 0) 0 [] rfl HLIT.out W0.heap.size _ 0 (c - k) (vs.drop k) rfl (HSX.out _) HDX.out (by intro h; cases h) HD1.out (by simp only [maxLen]; omega) (by omega) (by simp) ?_); intro v' w2 ho hg hat; rw [Nat.zero_add, List.nil_append] at ho; obtain ⟨A1, c1, rfl, hn1, _⟩ := own_of ho; have HO2 := Lib.hid ho; have HN1 := Lib.hid hn1; have HBB := Lib.hid (((Below.refl W0.heap.size W0).alloc (Nat.le_refl _) (.cells #[] 77)).grown hg (by simp) (fun j hj => by have : some W0.heap.size = some j := hj; injection this with this; omega)); clear ho hg hat hn1)
      have HNM : Hid (0 = n - k) := HK0.out.symm
      go_loopw [7, 8] (fun v7 v8 wr => ∃ (j N : Nat) (A1 : Option Addr) (c1 : Nat) (us : List Value), v8 = .int .i64 j ∧ j ≤ k ∧ v7 = .slice A1 N c1 ∧ N = n - k + j ∧ (A1 = none → c1 = 0) ∧ wr.ownsRow W0.heap.size 77 1 (.slice A1 N c1) N us ∧ RowsD wr (fun b => ((D b ∧ b < w.heap.size) ∨ w.heap.size + 2 ≤ b) ∧ (Value.slice A1 N c1).ownBlock ≠ some b) us (L.drop k ++ List.replicate j (List.replicate W bl)) ∧ Below W0.heap.size W0 wr) (fun _ v8 _ => k - (intOf v8).toNat)
      case atStart => exact ⟨0, _, A1, c1, vs.drop k, rfl, by omega, rfl, HNM.out, HN1.out, HO2.out, by rw [List.replicate_zero, List.append_nil]; exact ((HROWS.out.drop k).mono (fun b hb h => ⟨h, fun e => by have := (HO2.out.lt b e).1; have := HB0.out.size; omega⟩)).below (HB0.out.trans (HBB.out.mono HB0.out.size)), HBB.out⟩
      case round =>
        obtain ⟨j, N, A1, c1, us, rfl, hj, rfl, hN, hn1, ho, hrs, hbr⟩ := hrel
        have HO := Lib.hid ho
        have HRS := Lib.hid hrs
        have HBR := Lib.hid hbr
        have HN1 := Lib.hid hn1
        have HNN := Lib.hid hN
        obtain ⟨h1, h2, hbw⟩ := PRE.out _ hbr
        obtain ⟨e0, e1, e2⟩ := blk3 h1
        have HX1 := Lib.hid h1
        have HX2 := Lib.hid h2
        have HBW := Lib.hid hbw
        clear ho hrs hbr hn1 h1 h2 hbw HO2
        by_cases hlt : j < k
        · have hji : (j : Int) < k := by omega
          have hN5 : N ≤ 500 := by omega
          clear hN
          go_wp2_with (fail)
          refine (rblanks_any W (by omega) _).mono ?_
          rintro e w3 ⟨v3, rfl, hr3, hb3⟩
          have HR3 := Lib.hid hr3
          have HB3 := Lib.hid hb3
          have hv1 : v3.oneCell' = true := hr3.one
          have HV1 := Lib.hid hv1
          clear hr3 hb3 hv1
          have hws : W0.heap.size ≤ w3.heap.size := Nat.le_trans HBR.out.size HB3.out.size
          go_wp2_with (at_builtin; (refine wpList_append_sl _ rfl (.tmp 25) (.tmp 29) _ rfl W0.heap.size 77 i0 _ 1 24 Tryd.underlying27 HI0.out HZ0.out HZ1.out HZ2.out rfl (by omega) (.slice A1 N c1) N us rfl ((HO.out.kept (row := none) (grown_of_below HB3.out) (by cases h : (Value.slice A1 N c1).ownBlock <;> simp)).alloc _) (w3.heap.size + 1) (some ⟨w3.heap.size, 0, none⟩) 1 1 [v3] rfl (Sl.new w3 _ _) rfl (fun e => by cases e) (fun v hv => by simp at hv; subst hv; exact HV1.out) (by simp only [maxLen]; omega) (by omega) (by simp; omega) ?_); intro v' w5 ho hg hat; obtain ⟨A5, c5, rfl, hn5, _⟩ := own_of ho; have HO5 := Lib.hid ho; have HN5 := Lib.hid hn5; have HG5 := Lib.hid hg; have HAT := Lib.hid hat; clear ho hg hat hn5)
          have hb5 : Below W0.heap.size W0 w5 := by
            have h1 : Below W0.heap.size W0 (w3.alloc (.cells #[v3] 77)) := (HBR.out.trans (HB3.out.mono HBR.out.size)).alloc hws _
            exact h1.grown HG5.out h1.size (fun q hq => (HO.out.lt q hq).1)
          have hrs5 : RowsD w5 (fun b => ((D b ∧ b < w.heap.size) ∨ w.heap.size + 2 ≤ b) ∧ (Value.slice A5 (N + 1) c5).ownBlock ≠ some b) (us ++ [v3]) (L.drop k ++ List.replicate (j + 1) (List.replicate W bl)) := by
            rw [List.replicate_succ', ← List.append_assoc]
            have c1' : Chg (fun q => (Value.slice A1 N c1).ownBlock = some q) w3 w5 := ((Chg.refl (fun q => (Value.slice A1 N c1).ownBlock = some q) w3).alloc (.cells #[v3] 77)).grown HG5.out (fun q hq => .inl hq)
            have hne5 : ∀ q, q < w3.heap.size → (Value.slice A1 N c1).ownBlock ≠ some q → (Value.slice A5 (N + 1) c5).ownBlock ≠ some q := fun q hq h e => by
              rcases HAT.out with h2 | h2
              · rw [h2] at e; exact h e
              · rw [h2] at e
                injection e with e
                simp at e
                omega
            have hold := ((HRS.out.below HB3.out).mono (D' := fun b => (((D b ∧ b < w.heap.size) ∨ w.heap.size + 2 ≤ b) ∧ (Value.slice A5 (N + 1) c5).ownBlock ≠ some b) ∧ (Value.slice A1 N c1).ownBlock ≠ some b) (fun q hq h => ⟨⟨h.1, hne5 q hq h.2⟩, h.2⟩)).chg c1' (fun q _ h e => h.2 e)
            have hnew := (HR3.out.mono (D' := fun b => (((D b ∧ b < w.heap.size) ∨ w.heap.size + 2 ≤ b) ∧ (Value.slice A5 (N + 1) c5).ownBlock ≠ some b) ∧ (Value.slice A1 N c1).ownBlock ≠ some b) (fun q hq h => by
              have h1 : wr.heap.size ≤ q := h
              have h2 : (Value.slice A1 N c1).ownBlock ≠ some q := fun e => by have := (HO.out.lt q e).2; omega
              have := HBR.out.size
              exact ⟨⟨.inr (by omega), hne5 q hq h2⟩, h2⟩)).chg c1' (fun q _ h e => h.2 e)
            exact (hold.snoc hnew).mono (fun q _ h => h.1)
          have HRS5 := Lib.hid hrs5
          have HB5 := Lib.hid hb5
          clear hb5 hrs5
          go_roundw
          case rel => exact ⟨j + 1, N + 1, A5, c5, us ++ [v3], by go_num, by omega, rfl, by have := HNN.out; omega, HN5.out, HO5.out, HRS5.out, HB5.out⟩
          case measure => simp [intOf]; omega
        · have hjk : j = k := by omega
          have hNn : N = n := by omega
          have HJK := Lib.hid hjk
          clear hN
          subst hNn
          have hji : ¬ (j : Int) < k := by omega
          clear hjk
          go_wp2_with (first
            | ((with_reducible refine at_store 32 ?_); refine wpList_store_cell rfl _ _ _ rfl rfl w.heap.size 2 _ _ (.slice A1 N c1) rfl rfl HX1.out (by simp [rgC]) (by kernel_rfl) rfl ?_; intro w6 hn6 hg6; have hn6' : Blk w6 w.heap.size 29 (rgC W N A1 c1) := hn6; obtain ⟨z0, z1, z2⟩ := blk3 hn6'; have HX26 := Lib.hid (HX2.out.chg (chg_of_grown hg6) (fun e => by have e' : w.heap.size + 1 = w.heap.size := e; omega)); have HG6 := Lib.hid hg6; clear hn6 hn6' hg6 e0 e1 e2)
            | ((with_reducible refine at_store 4 ?_); refine wpList_store_blk rfl _ _ _ rfl rfl (w.heap.size + 1) 0 _ (rgC 0 0 none 0) (rgC W N A1 c1) rfl rfl HX26.out (by simp [rgC]) rg_size (rgC_one _ _ _ _) ?_; intro w7 hn7 hg7; have hn7' : Blk w7 (w.heap.size + 1) 29 (rgC W N A1 c1) := hn7))
          have hlN : (L.drop k ++ List.replicate j (List.replicate W bl)).length = N := by
            have h1 := HRS.out.1
            have h2 := HO.out.1
            omega
          have hv : RfV wr (fun b => (D b ∧ b < w.heap.size) ∨ w.heap.size + 2 ≤ b) (.agg (rgC W N A1 c1).toArray) W (L.drop k ++ List.replicate j (List.replicate W bl)) := by
            refine ⟨A1, c1, by rw [hlN], HN1.out, by rw [hlN]; exact own_cap HO.out, us, (SlD.own HO.out).mono (fun q _ h => .inr (by have h' : W0.heap.size ≤ q := h; omega)), HRS.out.mono (fun q _ h => h.1)⟩
          have hv6 := hv.chg (chg_of_grown HG6.out) (fun q _ h e => by have e' : q = w.heap.size := e; omega)
          have hbw6 : Below w.heap.size w w6 := HBW.out.grown HG6.out HBW.out.size (fun q hq => by injection hq with hq; omega)
          have hjk := HJK.out
          subst hjk
          exact bodyPost_ret (results_ct rfl rfl rfl hn7'.whole Tryd.underlying29 rfl rg_size) rfl ⟨_, rfl, grid_fin1 hbw6 hv6 (chg_of_grown hg7)⟩
end Go.Proofs.YtijbimofigkdkaaDoor
