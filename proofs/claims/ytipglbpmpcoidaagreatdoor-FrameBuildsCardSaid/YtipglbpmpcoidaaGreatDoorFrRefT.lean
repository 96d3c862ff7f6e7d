/-
  Walks: the document's builder: Fill.
-/
import Derived.Test.YtipglbpmpcoidaaGreatDoorFrRef
import Derived.Test.YtipglbpmpcoidaaGreatDoorFrFill
import Derived.Test.YtipglbpmpcoidaaGreatDoorGfP
import Derived.Test.YtipglbpmpcoidaaGreatDoorRegT
namespace Go.Proofs.YtipglbpmpcoidaaGreatDoor
open Go.RowKit Go.Sort
set_option linter.unusedVariables false
set_option linter.unusedSimpArgs false

theorem Rws.set {W : Nat} {L : List (List Cl)} (h : Rws W L) (k : Nat) {l : List Cl} (hl : l.length = W) (hf : Wf l) : Rws W (L.set k l) :=
  ⟨fun i x hx => by
    by_cases e : i = k
    · subst e
      have hi : i < L.length := by have := (List.getElem?_eq_some_iff.1 hx).1; simpa using this
      rw [List.getElem?_set_self hi] at hx
      injection hx with hx
      subst hx
      exact ⟨hl, hf⟩
    · rw [List.getElem?_set_ne (by omega)] at hx
      exact h.wd i x hx, h.w1, h.w5, by rw [List.length_set]; exact h.h1, by rw [List.length_set]; exact h.h5⟩
theorem inB_row {row col : Int} {W H : Nat} (h : inB row col W H = true) : 0 ≤ row ∧ row < H ∧ 0 ≤ col ∧ col < W := by simpa [inB] using h
theorem Rws.getD {W : Nat} {L : List (List Cl)} (h : Rws W L) {row : Int} (h0 : 0 ≤ row ∧ row < L.length) : (L.getD row.toNat []).length = W ∧ Wf (L.getD row.toNat []) := by
  have hr : row.toNat < L.length := by omega
  have e : L[row.toNat]? = some (L.getD row.toNat []) := by simp [List.getD, hr]
  exact h.wd _ _ e
theorem Rws.put {W : Nat} {L : List (List Cl)} (h : Rws W L) (row col : Int) (s : List UInt8) (m : Int) (y : Sty) : Rws W (putM W L row col s m y).1 := by
  unfold putM
  split
  · exact h
  · next h1 =>
    split
    · exact h
    · next h2 =>
      have a : inB row col W L.length = true := by simpa using fun e => h2 (.inl e)
      have b : inB row (col + m - 1) W L.length = true := by simpa using fun e => h2 (.inr e)
      have a' := inB_row a
      have b' := inB_row b
      have hm : m = 1 ∨ m = 2 := by
        by_cases k1 : m = 1
        · exact .inl k1
        · by_cases k2 : m = 2
          · exact .inr k2
          · exact absurd (.inr (.inr ⟨k1, k2⟩)) h1
      obtain ⟨g1, g2⟩ := h.getD (row := row) ⟨a'.1, a'.2.1⟩
      have hne : s ≠ [] := fun e => h1 (.inl e)
      have h64 : s.length ≤ 64 := by
        rcases Nat.lt_or_ge 64 s.length with h | h
        · exact absurd (.inr (.inl h)) h1
        · exact h
      exact h.set _ (by rw [putR_length]; exact g1) (g2.put (by omega) (by rw [g1]; omega) hne h64)
theorem Rws.erase {W : Nat} {L : List (List Cl)} (h : Rws W L) (row a z : Int) : Rws W (eraseG W L row a z).1 := by
  unfold eraseG
  split
  · exact h
  · next h1 =>
    have a := inB_row (by simpa using h1 : inB row 0 W L.length = true)
    obtain ⟨g1, g2⟩ := h.getD (row := row) ⟨a.1, a.2.1⟩
    exact h.set _ (by rw [eraseM_length]; exact g1) (g2.erase _ _)
theorem Rws.fill {W : Nat} {L : List (List Cl)} (h : Rws W L) (row a : Int) (y : Sty) (n : Nat) : Rws W (fillC W L row a y n) := by
  induction n with
  | zero => exact h
  | succ n ih => exact ih.put _ _ _ _ _
theorem fwith_cases {i n : Int} (h : fwithB i n = false) : i < 0 ∨ n ≤ i := by
  unfold fwithB at h
  simp only [decide_eq_false_iff_not] at h
  omega
theorem fwith_yes {i n : Int} (h : fwithB i n = true) : 0 ≤ i ∧ i < n := by
  unfold fwithB at h
  simpa using h
/-- A box that holds the document's builder, whose rows lie elsewhere: not in it, nor in the block of the result. -/
structure RBx (X : World) (hB hZ : Nat) (D : Nat → Prop) (W : Nat) (A : Option Addr) (c : Nat) (L : List (List Cl)) (r0 c0 : Int) (sn : Bool) : Prop where
  box : Blk X hB 31 (rbC W L.length A c r0 c0 sn)
  rf : RfAt X (fun k => D k ∧ k ≠ hB ∧ k ≠ hZ) A c L
  lz : hZ < X.heap.size
theorem RBx.below {X Y : World} {hB hZ : Nat} {D : Nat → Prop} {W : Nat} {A : Option Addr} {c : Nat} {L : List (List Cl)} {r0 c0 : Int} {sn : Bool} (h : RBx X hB hZ D W A c L r0 c0 sn) (hb : Below X.heap.size X Y) : RBx Y hB hZ D W A c L r0 c0 sn :=
  ⟨h.box.below hb h.box.lt, h.rf.below hb, Nat.lt_of_lt_of_le h.lz hb.size⟩
/-- The box's grid is written anew. -/
theorem RBx.stored {X Y Z : World} {hB hZ : Nat} {D : Nat → Prop} {W : Nat} {A A' : Option Addr} {c c' : Nat} {L L' : List (List Cl)} {r0 c0 : Int} {sn : Bool} (h : RBx X hB hZ D W A c L r0 c0 sn) (hb : Below X.heap.size X Y)
    (hr : RfAt Y (fun b => (D b ∧ b ≠ hB ∧ b ≠ hZ) ∨ X.heap.size ≤ b) A' c' L') (hD : ∀ k, X.heap.size ≤ k → D k) (hn : Blk Z hB 31 (rbC W L'.length A' c' r0 c0 sn)) (hc : Chg (one hB) Y Z) : RBx Z hB hZ D W A' c' L' r0 c0 sn := by
  have hlt := h.box.lt
  have hlz := h.lz
  refine ⟨hn, (hr.mono (fun b _ hb => ?_)).chg hc (fun b _ hb e => hb.2.1 e), by have := hb.size; have := hc.size; omega⟩
  rcases hb with h1 | h1
  · exact h1
  · exact ⟨hD b h1, by omega, by omega⟩
theorem RBx.grid {X : World} {hB hZ : Nat} {D : Nat → Prop} {W : Nat} {A : Option Addr} {c : Nat} {L : List (List Cl)} {r0 c0 : Int} {sn : Bool} (h : RBx X hB hZ D W A c L r0 c0 sn) : X.rangeAt hB 0 (rgC W L.length A c) :=
  h.box.range 0 _ (fun j v hv => by
    have hj : j < 3 := (List.getElem?_eq_some_iff.1 hv).1
    match j, hj with
    | 0, _ => exact hv
    | 1, _ => exact hv
    | 2, _ => exact hv)
/-- What a way out comes to. -/
theorem RBx.out {w X Y : World} {hB hZ : Nat} {D : Nat → Prop} {W : Nat} {A : Option Addr} {c : Nat} {L : List (List Cl)} {r0 c0 : Int} {sn : Bool} (h : RBx X hB hZ (fun k => D k ∨ w.heap.size ≤ k) W A c L r0 c0 sn) (hb : Below w.heap.size w X) (hz : w.heap.size ≤ hZ) (hg : X.grownBy Y (some hZ)) :
    RbV Y (fun k => D k ∨ w.heap.size ≤ k) (.agg (rbC W L.length A c r0 c0 sn).toArray) W L r0 c0 sn ∧ Below w.heap.size w Y :=
  ⟨⟨A, c, rfl, (h.rf.chg (chg_of_grown hg) (fun b _ hb' e => hb'.2.2 e)).mono (fun b _ hb' => hb'.1)⟩, hb.grown hg hb.size (fun k hk => by injection hk with hk; omega)⟩

set_option maxRecDepth 100000 in
set_option maxHeartbeats 8000000 in
theorem rbfill_any {w : World} {D : Nat → Prop} {A : Option Addr} {c W : Nat} {L : List (List Cl)} (h : RfAt w D A c L) (hq : Rws W L) (r0 c0 : Int) (sn : Bool) (row a z : Int) (y : Sty) :
    Calls Tryz.prog 10 #[.agg (rbC W L.length A c r0 c0 sn).toArray, .int .i64 row, .int .i64 a, .int .i64 z, .agg y.cells.toArray] w fun e w' => ∃ V, e = .returned (.tuple #[V, .int .i64 (ffil W L row a z y).2]) ∧
      RbV w' (fun k => D k ∨ w.heap.size ≤ k) V W (ffil W L row a z y).1 r0 c0 sn ∧ Below w.heap.size w w' := by
  have hW5 := hq.w5
  obtain ⟨W0, hW0⟩ : ∃ W0, W0 = ((w.alloc (.cells (rbC W L.length A c r0 c0 sn).toArray 31)).alloc (.cells y.cells.toArray 36)).alloc (.cells #[.int .i64 0, .int .i64 0, .slice none 0 0, .int .i64 0, .int .i64 0, .bool false] 31) := ⟨_, rfl⟩
  have hB0 : Below w.heap.size w W0 := by rw [hW0]; exact (((Below.refl _ w).alloc (Nat.le_refl _) _).alloc (by simp) _).alloc (by simp; omega) _
  have h1 : Blk W0 w.heap.size 31 (rbC W L.length A c r0 c0 sn) := by rw [hW0]; exact ((Blk.new w _ _).alloc _).alloc _
  have h2 : Blk W0 (w.heap.size + 1) 36 y.cells := by rw [hW0]; exact (Blk.new1 w _ _ _).alloc _
  have h3 : Blk W0 (w.heap.size + 1 + 1) 31 rbZ := by rw [hW0]; exact Blk.new2 w _ _ _ rbZ
  have hsz : W0.heap.size = w.heap.size + 3 := by rw [hW0]; simp
  have hbx : RBx W0 w.heap.size (w.heap.size + 1 + 1) (fun k => D k ∨ w.heap.size ≤ k) W A c L r0 c0 sn := ⟨h1, (h.mono (D' := fun k => (D k ∨ w.heap.size ≤ k) ∧ k ≠ w.heap.size ∧ k ≠ w.heap.size + 1 + 1) (fun b hb hd => ⟨.inl hd, by omega, by omega⟩)).below hB0, by omega⟩
  have k1 : W0.cell? ⟨w.heap.size, 1, none⟩ = some (.int .i64 L.length) := h1.cell 1
  have hlt : w.heap.size + 1 + 1 < W0.heap.size := by omega
  have HB0 := Lib.hid hB0
  have HX0 := Lib.hid hbx
  have HS0 := Lib.hid h2
  have HZ0 := Lib.hid h3
  have HW0 := Lib.hid hW0
  have HQ := Lib.hid hq
  obtain ⟨v1, hv1⟩ : ∃ v, v = fwithB row L.length := ⟨_, rfl⟩
  obtain ⟨v3, hv3⟩ : ∃ v, v = styB y := ⟨_, rfl⟩
  have HST := Lib.hid (rcolours_any y)
  rw [← hv3] at HST
  unfold ffil
  rw [← hv1, ← hv3]
  have H1 := Lib.hid hv1
  have H3 := Lib.hid hv3
  clear h hq hB0 h1 h2 h3 hW0 hbx hv1 hv3 hsz
  cases v1
  · have hr := fwith_cases H1.out.symm
    go_enter Tryz.func10, Tryz.ntmps10
    go_upto_region 1 with (fail)
    rw [← HW0.out]
    by_cases hr0 : row < 0
    · go_wp2_with (first
        | ((with_reducible refine at_dst 22 ?_); refine wpList_load_mid rfl _ _ rfl w.heap.size 0 rfl (rbC W L.length A c r0 c0 sn) _ (range_all HX0.out.box) Tryz.underlying31 rfl rb_size ?_)
        | ((with_reducible refine at_store 10 ?_); refine wpList_store_blk rfl _ _ _ rfl rfl (w.heap.size + 1 + 1) 0 _ rbZ (rbC W L.length A c r0 c0 sn) rfl rfl HZ0.out (by simp [rbC, rbZ]) rb_size (rbC_one _ _ _ _ _ _ _) ?_; intro wz hn5 hg5))
      have hn6 : Blk wz (w.heap.size + 1 + 1) 31 (rbC W L.length A c r0 c0 sn) := hn5
      obtain ⟨o1, o2⟩ := HX0.out.out HB0.out (by omega) hg5
      exact bodyPost_ret (results_ct rfl rfl rfl (range_all hn6) Tryz.underlying31 rfl rb_size) rfl ⟨_, rfl, o1, o2⟩
    · have hr1 : (L.length : Int) ≤ row := by omega
      go_wp2_with (first
        | ((with_reducible refine at_dst 22 ?_); refine wpList_load_mid rfl _ _ rfl w.heap.size 0 rfl (rbC W L.length A c r0 c0 sn) _ (range_all HX0.out.box) Tryz.underlying31 rfl rb_size ?_)
        | ((with_reducible refine at_store 10 ?_); refine wpList_store_blk rfl _ _ _ rfl rfl (w.heap.size + 1 + 1) 0 _ rbZ (rbC W L.length A c r0 c0 sn) rfl rfl HZ0.out (by simp [rbC, rbZ]) rb_size (rbC_one _ _ _ _ _ _ _) ?_; intro wz hn5 hg5))
      have hn6 : Blk wz (w.heap.size + 1 + 1) 31 (rbC W L.length A c r0 c0 sn) := hn5
      obtain ⟨o1, o2⟩ := HX0.out.out HB0.out (by omega) hg5
      exact bodyPost_ret (results_ct rfl rfl rfl (range_all hn6) Tryz.underlying31 rfl rb_size) rfl ⟨_, rfl, o1, o2⟩
  obtain ⟨g1, g2⟩ := fwith_yes H1.out.symm
  have g3 : ¬ row < 0 := by omega
  have g4 : ¬ (L.length : Int) ≤ row := by omega
  cases v3
  · go_enter Tryz.func10, Tryz.ntmps10
    go_upto_region 1 with (fail)
    rw [← HW0.out]
    · go_wp2_with (first
        | ((with_reducible refine at_dst 23 ?_); refine wpList_load_mid rfl _ _ rfl (w.heap.size + 1) 0 rfl y.cells _ (range_all HS0.out) Tryz.underlying36 rfl sty_size ?_)
        | (go_at_call 29; refine (HST.out _).mono ?_; rintro e w2 ⟨rfl, hb2⟩; have HX2 := Lib.hid (HX0.out.below hb2); have HB2 := Lib.hid (HB0.out.trans (hb2.mono HB0.out.size)); have HZ2 := Lib.hid (HZ0.out.below hb2 HZ0.out.lt); clear hb2)
        | ((with_reducible refine at_dst 26 ?_); refine wpList_load_mid rfl _ _ rfl w.heap.size 0 rfl (rbC W L.length A c r0 c0 sn) _ (range_all HX2.out.box) Tryz.underlying31 rfl rb_size ?_)
        | ((with_reducible refine at_store 10 ?_); refine wpList_store_blk rfl _ _ _ rfl rfl (w.heap.size + 1 + 1) 0 _ rbZ (rbC W L.length A c r0 c0 sn) rfl rfl HZ2.out (by simp [rbC, rbZ]) rb_size (rbC_one _ _ _ _ _ _ _) ?_; intro wz hn5 hg5))
      have hn6 : Blk wz (w.heap.size + 1 + 1) 31 (rbC W L.length A c r0 c0 sn) := hn5
      obtain ⟨o1, o2⟩ := HX2.out.out HB2.out (by omega) hg5
      exact bodyPost_ret (results_ct rfl rfl rfl (range_all hn6) Tryz.underlying31 rfl rb_size) rfl ⟨_, rfl, o1, o2⟩
  · obtain ⟨m, hm⟩ : ∃ m, m = max a 0 := ⟨_, rfl⟩
    obtain ⟨N, hN⟩ : ∃ N, N = fillN W a z := ⟨_, rfl⟩
    have hNe : (N : Int) = max 0 (min z W - m) := by rw [hN, hm]; unfold fillN; omega
    have hm0 : 0 ≤ m := by omega
    obtain ⟨L1, hL1⟩ : ∃ L1, L1 = (eraseG W L row a z).1 := ⟨_, rfl⟩
    have hpost : fillG W L row a z y = fillC W L1 row m y N := by unfold fillG; rw [hL1, hm, hN]
    simp only [Bool.true_eq_false, if_false]
    rw [hpost]
    have hq1 : Rws W L1 := by rw [hL1]; exact HQ.out.erase row a z
    have HQ1 := Lib.hid hq1
    have HNE := Lib.hid hNe
    have HME := Lib.hid (show max 0 a = m by omega)
    have HL1 := Lib.hid hL1
    clear hm hN hNe hL1 hpost hq1
    go_enter Tryz.func10, Tryz.ntmps10
    go_upto_region 1 with (fail)
    rw [← HW0.out]
    go_wp2_with (first
      | ((with_reducible refine at_dst 23 ?_); refine wpList_load_mid rfl _ _ rfl (w.heap.size + 1) 0 rfl y.cells _ (range_all HS0.out) Tryz.underlying36 rfl sty_size ?_)
      | (go_at_call 29; refine (HST.out _).mono ?_; rintro e w2 ⟨rfl, hb2⟩; have HX2 := Lib.hid (HX0.out.below hb2); have HB2 := Lib.hid (HB0.out.trans (hb2.mono HB0.out.size)); have HZ2 := Lib.hid (HZ0.out.below hb2 HZ0.out.lt); have HS2 := Lib.hid (HS0.out.below hb2 HS0.out.lt); clear hb2)
      | ((with_reducible refine at_dst 29 ?_); refine wpList_load_mid rfl _ _ rfl w.heap.size 0 rfl (rgC W L.length A c) _ HX2.out.grid Tryz.underlying29 rfl rg_size3 ?_)
      | (go_at_call 35; refine (rerase_any HX2.out.rf HQ.out row a z).mono ?_; rintro e w3 ⟨V, rfl, ⟨A3, c3, rfl, hr3⟩, hb3⟩; rw [← HL1.out] at hr3; have HR3 := Lib.hid hr3; have HB3 := Lib.hid hb3; have HX3 := Lib.hid (HX2.out.below hb3); have HZ3 := Lib.hid (HZ2.out.below hb3 HZ2.out.lt); have HS3 := Lib.hid (HS2.out.below hb3 HS2.out.lt); have HLE := Lib.hid (show (eraseG W L row a z).1 = L1 from HL1.out.symm); rw [HLE.out]; clear hr3 hb3)
      | ((with_reducible refine at_store 36 ?_); refine wpList_store_blk rfl _ _ _ rfl rfl w.heap.size 0 _ (rbC W L.length A c r0 c0 sn) (rgC W L1.length A3 c3) rfl rfl HX3.out.box (by simp [rbC, rgC]) rg_size3 (rgC_one _ _ _ _) ?_; intro w4 hn4 hg4))
    have hx4 : RBx w4 w.heap.size (w.heap.size + 1 + 1) (fun k => D k ∨ w.heap.size ≤ k) W A3 c3 L1 r0 c0 sn := HX2.out.stored HB3.out HR3.out (fun k hk => .inr (by have := HB2.out.size; omega)) hn4 (chg_of_grown hg4)
    have hch4 := chg_of_grown hg4
    have hs4 : Blk w4 (w.heap.size + 1) 36 y.cells := HS3.out.chg hch4 (fun e => by have e' : w.heap.size + 1 = w.heap.size := e; omega)
    have hz4 : Blk w4 (w.heap.size + 1 + 1) 31 rbZ := HZ3.out.chg hch4 (fun e => by have e' : w.heap.size + 1 + 1 = w.heap.size := e; omega)
    have hb4 : Below w.heap.size w w4 := (HB2.out.trans (HB3.out.mono HB2.out.size)).grown hg4 (by have := HB2.out.size; have := HB3.out.size; omega) (fun k hk => by injection hk with hk; omega)
    have HX4 := Lib.hid hx4
    have HS4 := Lib.hid hs4
    have HZ4 := Lib.hid hz4
    have HB4 := Lib.hid hb4
    rw [HME.out]
    clear hn4 hg4 hx4 hch4 hs4 hz4 hb4
    go_loopw [12] (fun i wr => ∃ (k : Nat) (A' : Option Addr) (c' : Nat), i = .int .i64 (m + k) ∧ k ≤ N ∧ RBx wr w.heap.size (w.heap.size + 1 + 1) (fun k => D k ∨ w.heap.size ≤ k) W A' c' (fillC W L1 row m y k) r0 c0 sn ∧ Blk wr (w.heap.size + 1) 36 y.cells ∧ Blk wr (w.heap.size + 1 + 1) 31 rbZ ∧ Below w.heap.size w wr) (fun i _ => (m + N - intOf i).toNat)
    case atStart => exact ⟨0, A3, c3, by simp, by omega, HX4.out, HS4.out, HZ4.out, HB4.out⟩
    case round =>
      obtain ⟨k, A', c', rfl, hk, hx, hs, hz, hb⟩ := hrel
      have hNe := HNE.out
      have q0 : wr.cell? ⟨w.heap.size, 0, none⟩ = some (.int .i64 W) := hx.box.cell 0
      have XX := Lib.hid hx
      have SS := Lib.hid hs
      have ZZ := Lib.hid hz
      have BB := Lib.hid hb
      have QK := Lib.hid (HQ1.out.fill row m y k)
      by_cases hlt : k < N
      · have hmk : m + k < min z W := by omega
        have hmk2 : m + k < 500 := by omega
        have hfk : fillC W L1 row m y (k + 1) = (putM W (fillC W L1 row m y k) row (m + k) [32] 1 y).1 := rfl
        have HFK := Lib.hid hfk
        clear hx hs hz hb hNe hfk
        generalize fillC W L1 row m y k = LK at XX QK HFK
        go_wp2_with (first
          | ((with_reducible refine at_dst 50 ?_); refine wpList_load_mid rfl _ _ rfl w.heap.size 0 rfl (rgC W LK.length A' c') _ XX.out.grid Tryz.underlying29 rfl rg_size3 ?_)
          | ((with_reducible refine at_dst 53 ?_); refine wpList_load_mid rfl _ _ rfl (w.heap.size + 1) 0 rfl y.cells _ (range_all SS.out) Tryz.underlying36 rfl sty_size ?_)
          | (go_at_call 33; refine (rput_any XX.out.rf QK.out row (m + k) [32] 1 y (by simp)).mono ?_; rintro e w5 ⟨V, rfl, ⟨A5, c5, rfl, hr5⟩, hb5⟩; have HR5 := Lib.hid hr5; have HB5 := Lib.hid hb5; have HX5 := Lib.hid (XX.out.below hb5); have HZ5 := Lib.hid (ZZ.out.below hb5 ZZ.out.lt); have HS5 := Lib.hid (SS.out.below hb5 SS.out.lt); clear hr5 hb5)
          | ((with_reducible refine at_store 57 ?_); refine wpList_store_blk rfl _ _ _ rfl rfl w.heap.size 0 _ (rbC W LK.length A' c' r0 c0 sn) (rgC W (putM W LK row (m + k) [32] 1 y).1.length A5 c5) rfl rfl HX5.out.box (by simp [rbC, rgC]) rg_size3 (rgC_one _ _ _ _) ?_; intro w6 hn6 hg6))
        have hch6 := chg_of_grown hg6
        have hx6 : RBx w6 w.heap.size (w.heap.size + 1 + 1) (fun k => D k ∨ w.heap.size ≤ k) W A5 c5 (putM W LK row (m + k) [32] 1 y).1 r0 c0 sn := XX.out.stored HB5.out HR5.out (fun k hk => .inr (by have := BB.out.size; omega)) hn6 (chg_of_grown hg6)
        go_roundw
        case rel =>
          refine ⟨k + 1, A5, c5, ?_, by omega, ?_, ?_, ?_, ?_⟩
          · rw [Int.natCast_add, Int.add_assoc]; rfl
          · rw [HFK.out]; exact hx6
          · exact HS5.out.chg hch6 (fun e => by have e' : w.heap.size + 1 = w.heap.size := e; omega)
          · exact HZ5.out.chg hch6 (fun e => by have e' : w.heap.size + 1 + 1 = w.heap.size := e; omega)
          · exact (BB.out.trans (HB5.out.mono BB.out.size)).grown hg6 (by have := BB.out.size; have := HB5.out.size; omega) (fun k hk => by injection hk with hk; omega)
        case measure => simp [intOf]; omega
      · obtain rfl : k = N := by omega
        have hmk : ¬ m + k < min z W := by omega
        clear hx hs hz hb hNe
        obtain ⟨LK, hLK⟩ : ∃ LK, LK = fillC W L1 row m y k := ⟨_, rfl⟩
        rw [← hLK] at XX QK
        have HLK := Lib.hid hLK
        clear hLK
        go_wp2_with (first
          | ((with_reducible refine at_dst 58 ?_); refine wpList_load_mid rfl _ _ rfl w.heap.size 0 rfl (rbC W LK.length A' c' r0 c0 sn) _ (range_all XX.out.box) Tryz.underlying31 rfl rb_size ?_)
          | ((with_reducible refine at_store 10 ?_); refine wpList_store_blk rfl _ _ _ rfl rfl (w.heap.size + 1 + 1) 0 _ rbZ (rbC W LK.length A' c' r0 c0 sn) rfl rfl ZZ.out (by simp [rbC, rbZ]) rb_size (rbC_one _ _ _ _ _ _ _) ?_; intro wz hn5 hg5))
        have hn6 : Blk wz (w.heap.size + 1 + 1) 31 (rbC W LK.length A' c' r0 c0 sn) := hn5
        obtain ⟨o1, o2⟩ := XX.out.out BB.out (by omega) hg5
        refine bodyPost_ret (results_ct rfl rfl rfl (range_all hn6) Tryz.underlying31 rfl rb_size) rfl ⟨_, rfl, ?_, o2⟩
        rw [← HLK.out]
        exact o1
end Go.Proofs.YtipglbpmpcoidaaGreatDoor
