/-
  Walks: the reference's Write.
-/
import Derived.Test.YtfmkeeaenjeneaaGreatDoorRtFirst
import Derived.Test.YtfmkeeaenjeneaaGreatDoorTmWrite
namespace Go.Proofs.YtfmkeeaenjeneaaGreatDoor
open Go.RowKit Go.Sort
set_option linter.unusedVariables false
set_option linter.unusedSimpArgs false

theorem RtS.setB {w W W' : World} {D : Nat → Prop} {T : TS} {A : Option Addr} {c : Nat} {vB vB' : Value} (h : RtS w W D T A c vB) (hg : W.grownBy W' (some w.heap.size)) (hn : Blk W' w.heap.size 34 (rtC T A c vB')) : RtS w W' D T A c vB' :=
  ⟨h.bel.grown hg h.bel.size (fun j hj => by injection hj with hj; omega), hn, (hg.block (w.heap.size + 1) (by have := h.size; omega) (fun e => by injection e with e; omega)).trans h.z, h.g.chg (chg_of_grown hg) (fun b _ hd => RtS.one_no hd)⟩
/-- a terminal's value with the bytes that wait -/
def RtB (w : World) (D : Nat → Prop) (V : Value) (T : TS) (B : List UInt8) : Prop := ∃ Ab cb, RtV w D V T (.slice Ab B.length cb) ∧ (Ab = none → cb = 0) ∧ B.length ≤ cb ∧ SlD w D Ab (bv B)
theorem RtB.below {w w' : World} {D : Nat → Prop} {V : Value} {T : TS} {B : List UInt8} (h : RtB w D V T B) (hb : Below w.heap.size w w') : RtB w' D V T B := by
  obtain ⟨Ab, cb, h1, h2, h3, h4⟩ := h
  exact ⟨Ab, cb, h1.below hb, h2, h3, h4.below hb⟩
theorem RtB.mono {w : World} {D D' : Nat → Prop} {V : Value} {T : TS} {B : List UInt8} (h : RtB w D V T B) (hd : ∀ b, b < w.heap.size → D b → D' b) : RtB w D' V T B := by
  obtain ⟨Ab, cb, h1, h2, h3, h4⟩ := h
  exact ⟨Ab, cb, h1.mono hd, h2, h3, h4.mono hd⟩
def slN : Value → Nat
  | .slice _ n _ => n
  | _ => 0
theorem or_cap {w : World} {base n c : Nat} {e : TypeId} {A : Option Addr} {xs : List Value} (h : OR w base e A n c xs) : n ≤ c := by
  obtain ⟨hl, ⟨hv, hn⟩ | ⟨g, cap, cur, hv, h1, h2, h3, h4, h5, h6⟩⟩ := h.1
  · injection hv with _ a b; omega
  · injection hv with _ a b; omega
set_option maxRecDepth 100000 in
set_option maxHeartbeats 8000000 in
theorem rwrite_any {w : World} {D : Nat → Prop} {A : Option Addr} {c : Nat} {T : TS} (h : RfAt w D A c T.L) (hk : TOk T) (B b : List UInt8) (Ab Ax : Option Addr) (nb cb nx cx : Nat) (hnb : nb = B.length) (hnil : Ab = none → cb = 0) (hSB : Sl w w.heap.size Ab (bv B)) (hnx : nx = b.length) (hnil2 : Ax = none → cx = 0) (hSx : Sl w w.heap.size Ax (bv b)) (hB : B.length ≤ 100) (hb : b.length ≤ 90000000) :
    Calls Tryz.prog 10 #[.agg #[.int .i64 T.W, .int .i64 T.L.length, .slice A T.L.length c, .int .i64 T.row, .int .i64 T.col, .bool T.y.b, .bool T.y.u, .bool T.y.i, .int .i64 T.y.f, .int .i64 T.y.g, .bool T.pend, .bool T.seen, .bool T.mark, .int .i64 T.bells, .int .i64 T.scr, .slice Ab nb cb, .bool T.joins, .int .i64 T.lr, .int .i64 T.lc], .slice Ax nx cx] w fun e w' => ∃ V, e = .returned V ∧ RtB w' (fun b => D b ∨ w.heap.size ≤ b) V (bytesT T (B ++ b)).1 (bytesT T (B ++ b)).2 ∧ Below w.heap.size w w' := by
  have HK := Lib.hid hk
  have HSB := Lib.hid hSB
  have HSX := Lib.hid hSx
  have HNIL := Lib.hid hnil
  have HNIL2 := Lib.hid hnil2
  have HNB := Lib.hid hnb
  have HNX := Lib.hid hnx
  have hnb1 : nb ≤ 100 := by omega
  have hnx1 : nx ≤ 90000000 := by omega
  have HONE : Hid ((Value.slice Ab nb cb).oneCell' = true) := Lib.hid rfl
  have HX : Hid (bv [] ++ bv B ++ bv b = bv (B ++ b)) := Lib.hid (by simp [bv])
  have HXL : Hid (nb + nx = (B ++ b).length) := Lib.hid (by rw [List.length_append]; omega)
  clear hk hSB hSx hnil hnil2 hnb hnx hB hb
  generalize B ++ b = X at HX HXL ⊢
  obtain ⟨W0, HW0, HS0⟩ := rt_start (vB := .slice Ab nb cb) h
  have e0_v : W0.cell? ⟨w.heap.size, 15, none⟩ = some (.slice Ab nb cb) := HS0.out.x.cell 15
  have hz0 := HS0.out.size
  have hz1 : w.heap.size < W0.heap.size := by omega
  clear h
  go_enter Tryz.func10, Tryz.ntmps10
  go_upto_region 1 with fail
  rw [← HW0.out]
  clear HW0
  go_wp2_with (first
    | (at_builtin
       refine wpList_app Tryz.underlying32 u8_info rfl (by omega) _ rfl (.tmp 7) (.tmp 9) rfl W0.heap.size (some ⟨W0.heap.size, 0, none⟩) 0 0 (bv []) rfl (OB.lit W0 [] (Nat.le_refl _) (by simp)) Ab nb cb (bv B) w.heap.size rfl ((HSB.out.below HS0.out.bel).alloc (by omega) _) (by rw [bv_length]; exact HNB.out) HNIL.out (bv_one _) nb (by omega) (by omega) (by simp) ?_
       intro A1 c1 w1 h1 hg1 hat1
       have hb1 : Below W0.heap.size W0 w1 := ((Below.refl _ _).alloc (Nat.le_refl _) _).grown hg1 (by simp) (by simp [blk])
       have H1 := Lib.hid h1
       have HB1 := Lib.hid hb1
       clear h1 hg1 hat1 hb1)
    | (at_builtin
       refine wpList_app Tryz.underlying32 u8_info rfl (by omega) _ rfl (.tmp 10) (.tmp 11) rfl W0.heap.size A1 nb c1 (bv [] ++ bv B) rfl H1.out Ax nx cx (bv b) w.heap.size rfl ((HSX.out.below HS0.out.bel).below (HB1.out.mono (by omega))) (by rw [bv_length]; exact HNX.out) HNIL2.out (bv_one _) (nb + nx) (by omega) (by omega) HB1.out.size ?_
       intro A2 c2 w2 h2 hg2 hat2
       have hb2 : Below W0.heap.size W0 w2 := HB1.out.grown hg2 HB1.out.size (fun g hg => (H1.out.blk_lt g hg).1)
       have h2' := h2
       rw [HX.out] at h2'
       have H2 := Lib.hid h2'
       have HS2 := Lib.hid (HS0.out.below hb2)
       clear h2 h2' hg2 hat2 hb2 e0_v)
    | ((with_reducible refine at_store 13 ?_); refine wpList_store_cell rfl _ _ _ rfl rfl w.heap.size 15 _ (rtC T A c (.slice Ab nb cb)) (.slice none 0 0) rfl rfl HS2.out.x (by simp [rtC]) (by kernel_rfl) rfl ?_; intro w3 hn hg; have HS3 := Lib.hid (HS2.out.setB (vB' := (.slice none 0 0)) hg hn); have HSD := Lib.hid ((SlD.own H2.out.1).chg (chg_of_grown hg) (fun b _ hd e => by have e' : b = w.heap.size := e; omega)); clear hn hg))
  have HD3 : Hid (SlD w3 (fun b => w.heap.size + 2 ≤ b) A2 (bv X)) := Lib.hid (HSD.out.mono (fun b _ hd => by omega))
  have hcap := or_cap H2.out
  have HNI2 := Lib.hid H2.out.2
  have HXL2 := HXL
  clear HSD HS2 HB1 H1 HSB HSX H2
  go_loopw [1] (fun v1 wr => ∃ (T1 : TS) (A1 : Option Addr) (c1 : Nat) (R : List UInt8) (A' : Option Addr) (n' c' : Nat), v1 = .slice A' n' c' ∧ n' = R.length ∧ n' ≤ c' ∧ n' ≤ 90000100 ∧ (A' = none → c' = 0) ∧ SlD wr (fun b => w.heap.size + 2 ≤ b) A' (bv R) ∧ bytesT T1 R = bytesT T X ∧ TOk T1 ∧ RtS w wr D T1 A1 c1 (.slice none 0 0)) (fun v1 _ => slN v1)
  case atStart => exact ⟨T, A, c, X, A2, nb + nx, c2, rfl, HXL2.out, hcap, by omega, HNI2.out, HD3.out, rfl, HK.out, HS3.out⟩
  case round =>
    obtain ⟨T1, A1, c1, R, A', n', c', rfl, hn', hc', hl', hni, hsd, hby, hok, hrs⟩ := hrel
    have HBY := Lib.hid hby
    have HS := Lib.hid hrs
    have HOK := Lib.hid hok
    have HN' := Lib.hid hn'
    have HNI := Lib.hid hni
    clear hby hrs hok hni
    by_cases hR : R = []
    · have hn0 : n' = 0 := by rw [hn', hR]; rfl
      have HE : Hid (bytesT T X = (T1, [])) := Lib.hid (by rw [← HBY.out, hR]; rfl)
      clear hn' hR hsd
      subst hn0
      go_wp2_with (first
        | ((with_reducible refine at_dst 32 ?_); refine wpList_load_mid rfl _ _ rfl w.heap.size 0 rfl (rtC T1 A1 c1 (.slice none 0 0)) _ HS.out.x.whole Tryz.underlying34 rfl rt_size ?_)
        | ((with_reducible refine at_store 4 ?_); refine wpList_store_blk rfl _ _ _ rfl rfl (w.heap.size + 1) 0 _ rtZ (rtC T1 A1 c1 (.slice none 0 0)) rfl rfl HS.out.z (by simp [rtC, rtZ]) rt_size (rtC_one _ _ _ rfl) ?_; intro w9 hn9 hg9))
      have hfin := HS.out.fin hg9
      rw [HE.out]
      exact bodyPost_ret (results_c rfl rfl hn9.whole Tryz.underlying34 rfl rt_size) rfl ⟨_, rfl, ⟨none, 0, hfin.1, fun _ => rfl, Nat.le_refl _, .inl rfl⟩, hfin.2⟩
    · obtain ⟨bb, bo, rfl, hbl, hbd, hbx⟩ := hsd.open_ (by rw [bv_length]; exact List.length_pos_iff.2 hR)
      have HSD := Lib.hid hsd
      have HBX := Lib.hid hbx
      have hpos : 0 < n' := by have := List.length_pos_iff.2 hR; omega
      have hposi : (0 : Int) < (n' : Int) := by omega
      have hle := stepT_le T1 R
      have HF := Lib.hid (rfirst_any (vB := (.slice none 0 0)) HS.out.g HOK.out rfl R (by omega) bb bo n' c' hn' hc' hsd.sl hR)
      have HOK4 := Lib.hid (HOK.out.step R)
      obtain ⟨T4, hT4⟩ : ∃ T4, T4 = (stepT T1 R).1 := ⟨_, rfl⟩
      obtain ⟨k9, hk9⟩ : ∃ k9, k9 = (stepT T1 R).2 := ⟨_, rfl⟩
      rw [← hT4, ← hk9] at HF
      rw [← hT4] at HOK4
      rw [← hk9, ← hn'] at hle
      have HT4 := Lib.hid hT4
      have HK9 := Lib.hid hk9
      clear hT4 hk9 hn' hsd hbx hR
      go_upto_region 6 with (first
        | ((with_reducible refine at_dst 18 ?_); refine wpList_load_mid rfl _ _ rfl w.heap.size 0 rfl (rtC T1 A1 c1 (.slice none 0 0)) _ HS.out.x.whole Tryz.underlying34 rfl rt_size ?_)
        | (go_at_call 27; refine HF.out.mono ?_; rintro e w3 ⟨V, rfl, ⟨A3, c3, rfl, hr3⟩, hb3⟩; have HR3 := Lib.hid (HS.out.rowsD hr3); have HS3 := Lib.hid (HS.out.below hb3); have HSD3 := Lib.hid (HSD.out.below hb3); have HN3 := Lib.hid (Blk.new w3 34 rtZ); clear hr3 hb3)
        | ((with_reducible refine at_store 5 ?_); refine wpList_store_blk rfl _ _ _ rfl rfl w3.heap.size 0 _ rtZ (rtC T4 A3 c3 (.slice none 0 0)) rfl rfl HN3.out (by simp [rtC, rtZ]) rt_size (rtC_one _ _ _ rfl) ?_; intro w4 hn4 hg4; have hb4 : Below w3.heap.size w3 w4 := ((Below.refl _ _).alloc (Nat.le_refl _) _).grown hg4 (by simp) (fun j hj => by injection hj with hj; omega); have HN4 := Lib.hid (show Blk w4 w3.heap.size 34 (rtC T4 A3 c3 (.slice none 0 0)) from hn4); have HR4 := Lib.hid (HR3.out.below hb4); have HS4 := Lib.hid (HS3.out.below hb4); have HSD4 := Lib.hid (HSD3.out.below hb4); clear hn4 hg4 hb4)
        | ((with_reducible refine at_dst 23 ?_); refine wpList_load_mid rfl _ _ rfl w3.heap.size 0 rfl (rtC T4 A3 c3 (.slice none 0 0)) _ HN4.out.whole Tryz.underlying34 rfl rt_size ?_)
        | ((with_reducible refine at_store 2 ?_); refine wpList_store_blk rfl _ _ _ rfl rfl w.heap.size 0 _ (rtC T1 A1 c1 (.slice none 0 0)) (rtC T4 A3 c3 (.slice none 0 0)) rfl rfl HS4.out.x (by simp [rtC]) rt_size (rtC_one _ _ _ rfl) ?_; intro w5 hn5 hg5; have HS5 := Lib.hid (HS4.out.put (T' := T4) (A' := A3) (c' := c3) (c := c1) (A := A1) HR4.out hg5 hn5); have HSD5 := Lib.hid (HSD4.out.chg (chg_of_grown hg5) (fun b _ hd e => by have e' : b = w.heap.size := e; omega)); clear hn5 hg5))
      clear HN3 HN4 HR3 HR4 HS3 HS4 HSD3 HSD4 HSD HS HF HBX
      by_cases h0 : k9 = 0
      · subst h0
        have HE : Hid (bytesT T X = (T4, R)) := Lib.hid (by rw [← HBY.out, bytesT_stop HK9.out.symm, HT4.out, stepT_zero HK9.out.symm])
        go_wp2_with (first
          | ((with_reducible refine at_store 27 ?_); refine wpList_store_cell rfl _ _ _ rfl rfl w.heap.size 15 _ (rtC T4 A3 c3 (.slice none 0 0)) (.slice (some ⟨bb, bo, none⟩) n' c') rfl rfl HS5.out.x (by simp [rtC]) (by kernel_rfl) rfl ?_; intro w6 hn hg; have HS6 := Lib.hid (HS5.out.setB (vB' := .slice (some ⟨bb, bo, none⟩) n' c') hg hn); have HSD6 := Lib.hid (HSD5.out.chg (chg_of_grown hg) (fun b _ hd e => by have e' : b = w.heap.size := e; omega)); clear hn hg)
          | ((with_reducible refine at_dst 28 ?_); refine wpList_load_mid rfl _ _ rfl w.heap.size 0 rfl (rtC T4 A3 c3 (.slice (some ⟨bb, bo, none⟩) n' c')) _ HS6.out.x.whole Tryz.underlying34 rfl rt_size ?_)
          | ((with_reducible refine at_store 4 ?_); refine wpList_store_blk rfl _ _ _ rfl rfl (w.heap.size + 1) 0 _ rtZ (rtC T4 A3 c3 (.slice (some ⟨bb, bo, none⟩) n' c')) rfl rfl HS6.out.z (by simp [rtC, rtZ]) rt_size (rtC_one _ _ _ rfl) ?_; intro w9 hn9 hg9))
        have hfin := HS6.out.fin hg9
        have hlast : RtB w9 (fun b => D b ∨ w.heap.size ≤ b) (.agg (rtC T4 A3 c3 (.slice (some ⟨bb, bo, none⟩) n' c')).toArray) (bytesT T X).1 (bytesT T X).2 := by
          rw [HE.out]
          refine ⟨some ⟨bb, bo, none⟩, c', ?_, (fun e => by cases e), by rw [← HN'.out]; exact hc', ((HSD6.out.chg (chg_of_grown hg9) (fun b _ hd e => by have e' : b = w.heap.size + 1 := e; omega)).mono (fun b _ hd => .inr (by omega)))⟩
          rw [← HN'.out]
          exact hfin.1
        exact bodyPost_ret (results_c rfl rfl hn9.whole Tryz.underlying34 rfl rt_size) rfl ⟨_, rfl, hlast, hfin.2⟩
      · have hne : ((k9 : Int) == 0) = false := by simp; omega
        have hkn : (k9 : Int) ≤ (n' : Int) := by omega
        have hkc : (k9 : Int) ≤ (c' : Int) := by omega
        have HE : Hid (bytesT T4 (R.drop k9) = bytesT T X) := Lib.hid (by
          have := bytesT_step (T := T1) (B := R) (by rw [← HK9.out]; exact h0)
          rw [← HBY.out, this, ← HK9.out, ← HT4.out])
        have hdl : n' - k9 = (R.drop k9).length := by rw [List.length_drop]; have := HN'.out; omega
        have HDL := Lib.hid hdl
        have hsd6 := HSD5.out
        clear hdl
        have hwp : ∃ A7, (if c' = k9 then some ⟨bb, bo, none⟩ else some ⟨bb, bo + k9, none⟩) = A7 ∧ SlD w5 (fun b => w.heap.size + 2 ≤ b) A7 (bv (R.drop k9)) ∧ A7 ≠ none := by
          refine ⟨_, rfl, ?_, by split <;> simp⟩
          by_cases hck : c' = k9
          · have : R.drop k9 = [] := List.drop_eq_nil_of_le (by have := HN'.out; omega)
            rw [this]; exact .inl rfl
          · rw [if_neg hck]
            have := hsd6.drop (k := k9) (cap := c') (by rw [bv_length]; have := HN'.out; omega)
            rw [if_neg hck, bv_drop] at this
            have e : (some (⟨bb, bo, none⟩ : Addr)).map (·.add k9) = some ⟨bb, bo + k9, none⟩ := by simp [Addr.add]; omega
            rw [e] at this
            exact this
        obtain ⟨A7, hA7, hsd7, hne7⟩ := hwp
        have HA7 := Lib.hid hA7
        have HSD7 := Lib.hid hsd7
        have HNE7 := Lib.hid hne7
        clear hA7 hsd7 hne7 hsd6
        by_cases hck : c' = k9
        all_goals
          go_wp2_with (fail)
          go_roundw
          case rel =>
            have ha := HA7.out
            first | rw [if_pos hck] at ha | rw [if_neg hck] at ha
            exact ⟨T4, A3, c3, R.drop k9, A7, n' - k9, c' - k9, (by first | (rw [← ha]; done) | (rw [← ha]; congr 1; omega)), HDL.out, by omega, by omega, fun e => absurd e HNE7.out, HSD7.out, HE.out, HOK4.out, HS5.out⟩
          case measure => simp [slN]; omega
end Go.Proofs.YtfmkeeaenjeneaaGreatDoor
