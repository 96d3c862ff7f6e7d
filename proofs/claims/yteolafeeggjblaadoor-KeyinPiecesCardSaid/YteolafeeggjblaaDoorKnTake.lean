/-
  Walks: take.
-/
import Derived.Test.YteolafeeggjblaaDoorKnTakeS
namespace Go.Proofs.YteolafeeggjblaaDoor
open Go.RowKit Go.Sort
set_option linter.unusedVariables false
set_option linter.unusedSimpArgs false

theorem kv_info : (Tryd.prog.info? 40).map (fun i => (i.zero, i.size, i.bytes)) = some (some Kv.no.agg, 6, 40) := by kernel_rfl
theorem pptr_nen (a : Addr) (w : World) : Sem.run Tryd.prog (binOp .neq 43 (.pointer (some a)) (.pointer none)) w = .ok (.bool true) w := by
  have h : ∀ d : Nat, (Op.equalIn (d + 1) 43 (.pointer (some a)) (.pointer none)).run Tryd.prog w = .ok false w := fun d => by
    simp [Op.equalIn, run_underlying Tryd.underlying43]
  simp only [binOp]
  simp [Op.equal, Op.maxDepth, h 9999]
theorem first_x (s : List UInt8) (hl : s.length ≤ 100000) (K : Kv) (n : Nat) (hf : firstK s = (K, n)) (w : World) :
    Calls Tryd.prog 40 #[.string ⟨s.toArray⟩] w fun e w' => e = .returned (.tuple #[.agg #[.int .i64 K.c, .string ⟨K.s.toArray⟩, .int .i64 K.n, .bool K.a, .bool K.h, .bool K.t], .int .i64 n]) ∧ Below w.heap.size w w' := by
  have := first_any s hl w
  rw [hf] at this
  exact this
def dlen (w : World) (D : Nat) : Nat := match w.cell? ⟨D, 1, none⟩ with
  | some (.string b) => b.size
  | _ => 0
theorem dlen_of {w : World} {D : Nat} {s : List UInt8} {q : Value} (h : DBlk w D s q) : dlen w D = s.length := by
  unfold dlen
  rw [show w.cell? ⟨D, 1, none⟩ = some (.string ⟨s.toArray⟩) from h.cell 1]
  simp [ByteArray.size]
theorem kcells' {w : World} {g : Nat} {K : Kv} (h : Blk w g 40 K.cells) : w.cell? ⟨g, 0, none⟩ = some (.int .i64 K.c) ∧ w.cell? ⟨g, 1, none⟩ = some (.string ⟨K.s.toArray⟩) ∧ w.cell? ⟨g, 2, none⟩ = some (.int .i64 K.n) ∧ w.cell? ⟨g, 3, none⟩ = some (.bool K.a) ∧ w.cell? ⟨g, 4, none⟩ = some (.bool K.h) ∧ w.cell? ⟨g, 5, none⟩ = some (.bool K.t) :=
  ⟨h.cell 0, h.cell 1, h.cell 2, h.cell 3, h.cell 4, h.cell 5⟩
/-- a fresh key that is written -/
abbrev kfresh (w : World) (K : Kv) : World := w.alloc (.cells #[.int .i64 K.c, .string ⟨K.s.toArray⟩, .int .i64 K.n, .bool K.a, .bool K.h, .bool K.t] 40)
theorem kfresh_blk (w : World) (K : Kv) : Blk (kfresh w K) w.heap.size 40 K.cells := Blk.new w 40 K.cells
theorem kfresh_bel (w : World) (K : Kv) : Below w.heap.size w (kfresh w K) := kbel w _
theorem runK_stop (f : Nat) (d : KD) (ks : List Kv) (h : (firstK d.B).2 = 0) : runK f d ks = (d, ks) := by
  cases f with
  | zero => rfl
  | succ f => unfold runK; rw [if_pos h]
theorem runK_go (f : Nat) (d : KD) (ks : List Kv) (h : ¬ (firstK d.B).2 = 0) : runK (f + 1) d ks = runK f ⟨d.B.drop (firstK d.B).2, if d.B.take (firstK d.B).2 = begP then some ([], 0) else d.P⟩ (if (firstK d.B).1.c = 0 then ks else ks ++ [(firstK d.B).1]) := by
  conv => lhs; unfold runK
  rw [if_neg h]

set_option maxRecDepth 100000 in
set_option maxHeartbeats 8000000 in
theorem take_any (D : Nat) (O : Nat → Prop) (d : KD) (b : UInt8) (w : World) (h : DAt w D O d) (hl : d.B.length ≤ 90000) :
    Calls Tryd.prog 31 #[.pointer (some ⟨D, 0, none⟩), .int .u8 b.toNat] w fun e w' => ∃ v, e = .returned v ∧ KRow w' v (takeK d b).2 ∧ DAt w' D (grownO O w w') (takeK d b).1 ∧ Chg O w w' := by
  obtain ⟨s, P⟩ := d
  cases P with
  | some r =>
    obtain ⟨p, m⟩ := r
    have HQ := Lib.hid (takeP_any D O s p m b w h)
    obtain ⟨_, _, P, _, _, _, hD, _⟩ := h
    have x2 : w.cell? ⟨D, 2, none⟩ = some (.pointer (some ⟨P, 0, none⟩)) := hD.cell 2
    have he := pptr_nen ⟨P, 0, none⟩
    clear hD hl
    generalize takeK ⟨s, some (p, m)⟩ b = R at HQ ⊢
    go_enter Tryd.func31, Tryd.ntmps31
    go_wp2_with (go_at_call 38; refine HQ.out.mono ?_; rintro e w1 ⟨v, rfl, h1⟩; have H1 := Lib.hid h1; clear h1)
    go_ret
    exact ⟨v, rfl, H1.out⟩
  | none =>
    obtain ⟨hOD, hlt, hD⟩ := h
    have hD : DBlk w D s (.pointer none) := hD
    have x2 : w.cell? ⟨D, 2, none⟩ = some (.pointer none) := hD.cell 2
    have he := fun w => pptr_eqn w
    have hl' : s.length ≤ 90000 := hl
    obtain ⟨R, hR⟩ : ∃ R, R = takeK ⟨s, none⟩ b := ⟨_, rfl⟩
    rw [← hR]
    have HR : Hid (runK (s.length + 1) ⟨s ++ [b], none⟩ [] = R) := Lib.hid hR.symm
    obtain ⟨⟨K, n⟩, hf⟩ : ∃ r, firstK (s ++ [b]) = r := ⟨_, rfl⟩
    have HF := Lib.hid hf
    have HQ := Lib.hid (fun w => first_x (s ++ [b]) (by simp; omega) K n hf w)
    have HD := Lib.hid hD
    have HLT := Lib.hid hlt
    have HOD := Lib.hid hOD
    clear hR hf hD hlt hOD hl
    go_enter Tryd.func31, Tryd.ntmps31
    go_upto_region 6 with (first
      | (go_at_call 39; refine (add_any D s (.pointer none) b (by omega) _ HD.out).mono ?_; rintro e w1 ⟨rfl, hd1, hc1⟩; have HD1 := Lib.hid hd1; have HC1 := Lib.hid hc1; clear hd1 hc1 x2)
      | (go_at_call 41; refine (waiting_any D (s ++ [b]) (.pointer none) _ HD1.out).mono ?_; rintro e w2 ⟨rfl, rfl⟩)
      | (go_at_call 40; refine (HQ.out _).mono ?_; rintro e w3 ⟨rfl, hb3⟩; have HB3 := Lib.hid hb3; clear hb3))
    have hst : TkSt w (kfresh w3 K) D O (s ++ [b]) none (.pointer none) none 0 [] := by
      have h0 : TkSt w w1 D O (s ++ [b]) none (.pointer none) none 0 [] := ⟨World.ownsRow_nil _ _ _ _, fun _ => rfl, HD1.out, rfl, HC1.out.mono (fun j e => .inl (by rw [show j = D from e]; exact HOD.out))⟩
      exact (h0.below HB3.out).below (kfresh_bel w3 K)
    have hkb := kfresh_blk w3 K
    have hkw : w.heap.size ≤ w3.heap.size := by have := HC1.out.size; have := HB3.out.size; omega
    have HST0 := Lib.hid hst
    have HKB0 := Lib.hid hkb
    have HKW0 := Lib.hid hkw
    obtain ⟨i0, hi0, hz0, hz1, hz2⟩ := info_parts kv_info
    have HI0 := Lib.hid hi0
    have HZ0 := Lib.hid hz0
    have HZ1 := Lib.hid hz1
    have HZ2 := Lib.hid hz2
    clear hst hkb hkw hi0 hz0 hz1 hz2 HQ he
    go_loopw [5, 6, 7] (fun v5 v6 v7 wr => ∃ (s' : List UInt8) (P' : Option (List UInt8 × Nat)) (q : Value) (A : Option Addr) (c ck f n' : Nat) (ks : List Kv) (K' : Kv), v5 = .slice A ks.length c ∧ v6 = .pointer (some ⟨ck, 0, none⟩) ∧ v7 = .int .i64 (n' : Int) ∧ TkSt w wr D O s' P' q A c ks ∧ Blk wr ck 40 K'.cells ∧ w.heap.size ≤ ck ∧ blk A ≠ some ck ∧ firstK s' = (K', n') ∧ s'.length ≤ f ∧ ks.length + s'.length ≤ s.length + 1 ∧ runK f ⟨s', P'⟩ ks = R) (fun _ _ _ wr => dlen wr D)
    case atStart => exact ⟨s ++ [b], none, .pointer none, none, 0, w3.heap.size, s.length + 1, n, [], K, rfl, rfl, rfl, HST0.out, HKB0.out, HKW0.out, by simp [blk], HF.out, by simp, by simp, HR.out⟩
    case round =>
      obtain ⟨s', P', q, A, c, ck, f, n', ks, K', rfl, rfl, rfl, hst, hkb, hkw, hne, hf, hsf, hlen, hrun⟩ := hrel
      have HST := Lib.hid hst
      have HKB := Lib.hid hkb
      have HNE := Lib.hid hne
      have HLEN := Lib.hid hlen
      have hf1 : (firstK s').1 = K' := by rw [hf]
      have hf2 : (firstK s').2 = n' := by rw [hf]
      have hle : n' ≤ s'.length := by rw [← hf2]; exact firstK_le s'
      have hs9 : s'.length ≤ 90001 := by omega
      by_cases hn : n' = 0
      · subst hn
        have hR : R = (⟨s', P'⟩, ks) := by rw [← hrun]; exact runK_stop f _ ks hf2
        have HR := Lib.hid hR
        clear hst hkb hne hf hf1 hf2 hrun hR hlen hle
        go_wp2
        go_ret
        rw [HR.out]
        exact ⟨_, rfl, ⟨A, _, c, rfl, rfl, HST.out.sl, HST.out.nil⟩, HST.out.at_ HOD.out HLT.out, HST.out.chg⟩
      · obtain ⟨f', rfl⟩ : ∃ f', f = f' + 1 := ⟨f - 1, by omega⟩
        have hrun2 := (runK_go f' ⟨s', P'⟩ ks (by rw [hf2]; exact hn)).symm.trans hrun
        simp only [hf1, hf2] at hrun2
        obtain ⟨tb, htb⟩ : ∃ tb : ByteArray, tb = ⟨(s'.take n').toArray⟩ := ⟨_, rfl⟩
        have hrm := remove_any D s' q n' hle (by omega) _ hst.dec
        rw [← htb] at hrm
        have HRM := Lib.hid hrm
        have hni : (0 : Int) < (n' : Int) := by omega
        have hTB : tb.toList = s'.take n' := by rw [htb, Lib.toList_data]
        have hD2 : (s'.drop n').length + n' = s'.length := by rw [List.length_drop]; omega
        have HD2 := Lib.hid hD2
        have hdl : dlen _ D = s'.length := dlen_of hst.dec
        have HDL := Lib.hid hdl
        have HSF := Lib.hid hsf
        have hDck : D ≠ ck := hst.dec.ne_ hkb key_dec
        have HDK := Lib.hid hDck
        have hqf := hst.dec.frozen 2
        clear hst hkb hne hf hf1 hf2 hrun hlen hrm htb hdl hsf hDck hD2
        by_cases hbeg : s'.take n' = begP
        · have e1 : (tb.toList == [27, 91, 50, 48, 48, 126]) = true := by rw [hTB, hbeg]; rfl
          rw [if_pos hbeg] at hrun2
          have HRUN := Lib.hid hrun2
          clear hTB hbeg hrun2
          go_upto_region 10 with (go_at_call 26; refine HRM.out.mono ?_; rintro e w1 ⟨rfl, hd1, hc1⟩; have HS1 := Lib.hid (HST.out.remove HOD.out hd1 hc1); have HK1 := Lib.hid (HKB.out.chg hc1 (fun e => HDK.out e.symm)); have y2 : ∀ o, (w1.alloc o).cell? ⟨D, 2, none⟩ = some q := fun o => (hd1.alloc o).cell 2; have f2 : ∀ o, (w1.alloc o).frozen? ⟨D, 2, none⟩ = false := fun o => (hd1.alloc o).frozen 2; clear hd1 hc1)
          have HS2 := Lib.hid (HS1.out.paste HOD.out)
          have HK2 : Hid (Blk ((w1.alloc (.cells #[.slice none 0 0, .int .i64 0] 65)).setCell ⟨D, 2, none⟩ (.pointer (some ⟨w1.heap.size, 0, none⟩))) ck 40 K'.cells) := Lib.hid ((HK1.out.alloc _).chg (Chg.setCell (S := one D) (Chg.refl _ _) (p := ⟨D, 2, none⟩) (.inl rfl) _) (fun e => HDK.out e.symm))
          generalize hP2 : some (([] : List UInt8), 0) = P2 at HRUN HS2
          clear y2 f2 hP2 HS1 HK1 hqf
          generalize hw2 : ((w1.alloc (.cells #[.slice none 0 0, .int .i64 0] 65)).setCell ⟨D, 2, none⟩ (.pointer (some ⟨w1.heap.size, 0, none⟩))) = w2 at HS2 HK2 ⊢
          clear hw2
          generalize (Value.pointer (some ⟨w1.heap.size, 0, none⟩)) = q2 at HS2 ⊢
          -- TAIL
          obtain ⟨⟨K2, n2⟩, hg⟩ : ∃ r, firstK (s'.drop n') = r := ⟨_, rfl⟩
          have HG := Lib.hid hg
          have hq2 := fun w => first_any (s'.drop n') (by rw [List.length_drop]; omega) w
          simp only [hg] at hq2
          have HQ2 := Lib.hid hq2
          clear hg hq2
          generalize s'.drop n' = s2 at HG HQ2 HS2 HRUN HD2
          have hwz : w.heap.size ≤ w2.heap.size := HS2.out.chg.size
          have hks : ks.length ≤ 90001 := by have := HLEN.out; omega
          by_cases hc : K'.c = 0
          · have hrn := HRUN.out
            rw [if_pos hc] at hrn
            have HRN := Lib.hid hrn
            have k0 : w2.cell? ⟨ck, 0, none⟩ = some (.int .i64 0) := by rw [← hc]; exact HK2.out.cell 0
            clear hc hrn HRUN
            go_upto_region 12 with fail
            clear k0
            have HS4 := HS2
            have HK4 := HK2
            obtain ⟨r0, r1, r2, r3, r4, r5⟩ := kcells' HK4.out
            have HS5 := Lib.hid (HS4.out.below (kfresh_bel w2 K'))
            have HK5 := Lib.hid (kfresh_blk w2 K')
            have hwz4 : w.heap.size ≤ w2.heap.size := HS4.out.chg.size
            have HNN : Hid (blk A ≠ some w2.heap.size) := Lib.hid (fun e => by have := (HS4.out.blk_lt _ e).2; omega)
            go_upto_region 7 with fail
            clear r0 r1 r2 r3 r4 r5
            go_wp2_with (first
              | (go_at_call 41; refine (waiting_any D s2 q2 _ HS5.out.dec).mono ?_; rintro e w6 ⟨rfl, rfl⟩)
              | (go_at_call 40; refine (HQ2.out _).mono ?_; rintro e w7 ⟨rfl, hb7⟩; have HS7 := Lib.hid (HS5.out.below hb7); have HK7 := Lib.hid (HK5.out.below hb7 HK5.out.lt); clear hb7)
              | ((with_reducible refine at_store 6 ?_); refine wpList_store_blk rfl _ _ _ rfl rfl w2.heap.size 0 _ K'.cells K2.cells rfl rfl HK7.out (by simp [Kv.len]) kv_size (Kv.one _) ?_; intro w9 hn9 hg9; have HK9 : Hid (Blk w9 w2.heap.size 40 K2.cells) := Lib.hid hn9; have HS9 := Lib.hid (HS7.out.key HK7.out HNN.out hwz4 (chg_of_grown hg9)); clear hn9 hg9))
            go_roundw
            case rel => exact ⟨s2, P2, q2, A, c, w2.heap.size, f', n2, ks, K2, rfl, rfl, rfl, HS9.out, HK9.out, hwz4, HNN.out, HG.out, by have := HD2.out; have := HSF.out; omega, by have := HD2.out; have := HLEN.out; (try simp only [List.length_append, List.length_singleton]); omega, HRN.out⟩
            case measure => rw [dlen_of HS9.out.dec, HDL.out]; have := HD2.out; omega
          · have hrn := HRUN.out
            rw [if_neg hc] at hrn
            have HRN := Lib.hid hrn
            obtain ⟨r0, r1, r2, r3, r4, r5⟩ := kcells' HK2.out
            clear hrn HRUN
            go_upto_region 12 with (at_builtin; (refine wpList_append_sl _ rfl (.tmp 53) (.tmp 55) _ rfl w.heap.size 40 i0 _ 6 40 Tryd.underlying26 HI0.out HZ0.out HZ1.out HZ2.out rfl (by omega) (.slice A ks.length c) ks.length (ks.flatMap Kv.cells) rfl (HS2.out.row.alloc _) (w2.heap.size + 1) (some ⟨w2.heap.size, 0, none⟩) 1 1 K'.cells rfl (Sl.new w2 _ _) rfl (fun e => by cases e) (Kv.one K') (by simp only [maxLen]; omega) (by omega) (by simp; omega) ?_); intro v' w4 ho hg hat; rw [ownBlock_slice] at hg hat; obtain ⟨A4, c4, rfl, hn4, _⟩ := own_of ho; have HS4 := Lib.hid (HS2.out.app ho hn4 hg); have HK4 : Hid (Blk w4 ck 40 K'.cells) := Lib.hid ((hg.block ck ((HK2.out.alloc _).lt) (fun e => HNE.out e.symm)).trans (HK2.out.alloc _)); clear ho hg hat hn4)
            clear r0 r1 r2 r3 r4 r5 hc
            obtain ⟨r0, r1, r2, r3, r4, r5⟩ := kcells' HK4.out
            have HS5 := Lib.hid (HS4.out.below (kfresh_bel w4 K'))
            have HK5 := Lib.hid (kfresh_blk w4 K')
            have hwz4 : w.heap.size ≤ w4.heap.size := HS4.out.chg.size
            have HNN : Hid (blk A4 ≠ some w4.heap.size) := Lib.hid (fun e => by have := (HS4.out.blk_lt _ e).2; omega)
            go_upto_region 7 with fail
            clear r0 r1 r2 r3 r4 r5
            go_wp2_with (first
              | (go_at_call 41; refine (waiting_any D s2 q2 _ HS5.out.dec).mono ?_; rintro e w6 ⟨rfl, rfl⟩)
              | (go_at_call 40; refine (HQ2.out _).mono ?_; rintro e w7 ⟨rfl, hb7⟩; have HS7 := Lib.hid (HS5.out.below hb7); have HK7 := Lib.hid (HK5.out.below hb7 HK5.out.lt); clear hb7)
              | ((with_reducible refine at_store 6 ?_); refine wpList_store_blk rfl _ _ _ rfl rfl w4.heap.size 0 _ K'.cells K2.cells rfl rfl HK7.out (by simp [Kv.len]) kv_size (Kv.one _) ?_; intro w9 hn9 hg9; have HK9 : Hid (Blk w9 w4.heap.size 40 K2.cells) := Lib.hid hn9; have HS9 := Lib.hid (HS7.out.key HK7.out HNN.out hwz4 (chg_of_grown hg9)); clear hn9 hg9))
            go_roundw
            case rel => exact ⟨s2, P2, q2, A4, c4, w4.heap.size, f', n2, (ks ++ [K']), K2, by rw [List.length_append, List.length_singleton], rfl, rfl, HS9.out, HK9.out, hwz4, HNN.out, HG.out, by have := HD2.out; have := HSF.out; omega, by have := HD2.out; have := HLEN.out; (try simp only [List.length_append, List.length_singleton]); omega, HRN.out⟩
            case measure => rw [dlen_of HS9.out.dec, HDL.out]; have := HD2.out; omega
        · have e1 : (tb.toList == [27, 91, 50, 48, 48, 126]) = false := by rw [hTB, beq_eq_false_iff_ne]; exact hbeg
          rw [if_neg hbeg] at hrun2
          have HRUN := Lib.hid hrun2
          clear hTB hbeg hrun2
          go_upto_region 10 with (go_at_call 26; refine HRM.out.mono ?_; rintro e w2 ⟨rfl, hd1, hc1⟩; have HS2 := Lib.hid (HST.out.remove HOD.out hd1 hc1); have HK2 := Lib.hid (HKB.out.chg hc1 (fun e => HDK.out e.symm)); clear hd1 hc1)
          generalize P' = P2 at HRUN HS2
          generalize q = q2 at HS2
          obtain ⟨⟨K2, n2⟩, hg⟩ : ∃ r, firstK (s'.drop n') = r := ⟨_, rfl⟩
          have HG := Lib.hid hg
          have hq2 := fun w => first_any (s'.drop n') (by rw [List.length_drop]; omega) w
          simp only [hg] at hq2
          have HQ2 := Lib.hid hq2
          clear hg hq2
          generalize s'.drop n' = s2 at HG HQ2 HS2 HRUN HD2
          have hwz : w.heap.size ≤ w2.heap.size := HS2.out.chg.size
          have hks : ks.length ≤ 90001 := by have := HLEN.out; omega
          by_cases hc : K'.c = 0
          · have hrn := HRUN.out
            rw [if_pos hc] at hrn
            have HRN := Lib.hid hrn
            have k0 : w2.cell? ⟨ck, 0, none⟩ = some (.int .i64 0) := by rw [← hc]; exact HK2.out.cell 0
            clear hc hrn HRUN
            go_upto_region 12 with fail
            clear k0
            have HS4 := HS2
            have HK4 := HK2
            obtain ⟨r0, r1, r2, r3, r4, r5⟩ := kcells' HK4.out
            have HS5 := Lib.hid (HS4.out.below (kfresh_bel w2 K'))
            have HK5 := Lib.hid (kfresh_blk w2 K')
            have hwz4 : w.heap.size ≤ w2.heap.size := HS4.out.chg.size
            have HNN : Hid (blk A ≠ some w2.heap.size) := Lib.hid (fun e => by have := (HS4.out.blk_lt _ e).2; omega)
            go_upto_region 7 with fail
            clear r0 r1 r2 r3 r4 r5
            go_wp2_with (first
              | (go_at_call 41; refine (waiting_any D s2 q2 _ HS5.out.dec).mono ?_; rintro e w6 ⟨rfl, rfl⟩)
              | (go_at_call 40; refine (HQ2.out _).mono ?_; rintro e w7 ⟨rfl, hb7⟩; have HS7 := Lib.hid (HS5.out.below hb7); have HK7 := Lib.hid (HK5.out.below hb7 HK5.out.lt); clear hb7)
              | ((with_reducible refine at_store 6 ?_); refine wpList_store_blk rfl _ _ _ rfl rfl w2.heap.size 0 _ K'.cells K2.cells rfl rfl HK7.out (by simp [Kv.len]) kv_size (Kv.one _) ?_; intro w9 hn9 hg9; have HK9 : Hid (Blk w9 w2.heap.size 40 K2.cells) := Lib.hid hn9; have HS9 := Lib.hid (HS7.out.key HK7.out HNN.out hwz4 (chg_of_grown hg9)); clear hn9 hg9))
            go_roundw
            case rel => exact ⟨s2, P2, q2, A, c, w2.heap.size, f', n2, ks, K2, rfl, rfl, rfl, HS9.out, HK9.out, hwz4, HNN.out, HG.out, by have := HD2.out; have := HSF.out; omega, by have := HD2.out; have := HLEN.out; (try simp only [List.length_append, List.length_singleton]); omega, HRN.out⟩
            case measure => rw [dlen_of HS9.out.dec, HDL.out]; have := HD2.out; omega
          · have hrn := HRUN.out
            rw [if_neg hc] at hrn
            have HRN := Lib.hid hrn
            obtain ⟨r0, r1, r2, r3, r4, r5⟩ := kcells' HK2.out
            clear hrn HRUN
            go_upto_region 12 with (at_builtin; (refine wpList_append_sl _ rfl (.tmp 53) (.tmp 55) _ rfl w.heap.size 40 i0 _ 6 40 Tryd.underlying26 HI0.out HZ0.out HZ1.out HZ2.out rfl (by omega) (.slice A ks.length c) ks.length (ks.flatMap Kv.cells) rfl (HS2.out.row.alloc _) (w2.heap.size + 1) (some ⟨w2.heap.size, 0, none⟩) 1 1 K'.cells rfl (Sl.new w2 _ _) rfl (fun e => by cases e) (Kv.one K') (by simp only [maxLen]; omega) (by omega) (by simp; omega) ?_); intro v' w4 ho hg hat; rw [ownBlock_slice] at hg hat; obtain ⟨A4, c4, rfl, hn4, _⟩ := own_of ho; have HS4 := Lib.hid (HS2.out.app ho hn4 hg); have HK4 : Hid (Blk w4 ck 40 K'.cells) := Lib.hid ((hg.block ck ((HK2.out.alloc _).lt) (fun e => HNE.out e.symm)).trans (HK2.out.alloc _)); clear ho hg hat hn4)
            clear r0 r1 r2 r3 r4 r5 hc
            obtain ⟨r0, r1, r2, r3, r4, r5⟩ := kcells' HK4.out
            have HS5 := Lib.hid (HS4.out.below (kfresh_bel w4 K'))
            have HK5 := Lib.hid (kfresh_blk w4 K')
            have hwz4 : w.heap.size ≤ w4.heap.size := HS4.out.chg.size
            have HNN : Hid (blk A4 ≠ some w4.heap.size) := Lib.hid (fun e => by have := (HS4.out.blk_lt _ e).2; omega)
            go_upto_region 7 with fail
            clear r0 r1 r2 r3 r4 r5
            go_wp2_with (first
              | (go_at_call 41; refine (waiting_any D s2 q2 _ HS5.out.dec).mono ?_; rintro e w6 ⟨rfl, rfl⟩)
              | (go_at_call 40; refine (HQ2.out _).mono ?_; rintro e w7 ⟨rfl, hb7⟩; have HS7 := Lib.hid (HS5.out.below hb7); have HK7 := Lib.hid (HK5.out.below hb7 HK5.out.lt); clear hb7)
              | ((with_reducible refine at_store 6 ?_); refine wpList_store_blk rfl _ _ _ rfl rfl w4.heap.size 0 _ K'.cells K2.cells rfl rfl HK7.out (by simp [Kv.len]) kv_size (Kv.one _) ?_; intro w9 hn9 hg9; have HK9 : Hid (Blk w9 w4.heap.size 40 K2.cells) := Lib.hid hn9; have HS9 := Lib.hid (HS7.out.key HK7.out HNN.out hwz4 (chg_of_grown hg9)); clear hn9 hg9))
            go_roundw
            case rel => exact ⟨s2, P2, q2, A4, c4, w4.heap.size, f', n2, (ks ++ [K']), K2, by rw [List.length_append, List.length_singleton], rfl, rfl, HS9.out, HK9.out, hwz4, HNN.out, HG.out, by have := HD2.out; have := HSF.out; omega, by have := HD2.out; have := HLEN.out; (try simp only [List.length_append, List.length_singleton]); omega, HRN.out⟩
            case measure => rw [dlen_of HS9.out.dec, HDL.out]; have := HD2.out; omega
end Go.Proofs.YteolafeeggjblaaDoor
