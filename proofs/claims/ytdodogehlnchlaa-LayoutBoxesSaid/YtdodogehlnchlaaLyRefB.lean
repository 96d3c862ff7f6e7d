/-
  Walk: the document's Boxes.
-/
import Derived.Test.YtdodogehlnchlaaLyTold
import Derived.Test.YtdodogehlnchlaaRegK
namespace Go.Proofs.Ytdodogehlnchlaa
open Go.RowKit Go.Shelf Go.Sort
attribute [local go_sem] Oper.semAt_some
set_option linter.unusedVariables false
set_option linter.unusedSimpArgs false

section
variable {P : Program} {ops : Array Oper} {Q : Exit → Act → World → Prop}
theorem step_appX {o : Oper} {a : Act} {w : World} {K : Act → World → Prop} {E : Prop} (hgd : o.guard = none) (T U : TypeId) (s x : Operand)
    (ho : o.op = .call { callee := .builtin .append, args := #[s, x], argTypes := #[T, U] }) (vs vx v' : Value) (w' : World) (hs : a.eval s = vs) (hx : a.eval x = vx)
    (hrun : (Builtin.append_ #[T, U] o.type #[vs, vx]).run P w = .ok v' w') (h : K (a.put o.dst v') w') : if Region.wanted o (yielded ops a.tmps) = true then Oper.wp P o a w K Q else E := by
  have hw : Region.wanted o (yielded ops a.tmps) = true := by simp [Region.wanted, hgd]
  rw [if_pos hw]
  have hr : (execOp a.eval o).run P w = .ok (.value v') w' := by
    simp [execOp, ho, resolve, invoke, builtin, hs, hx, hrun, Result.andThen]
  unfold Oper.wp
  rw [hr]
  exact h
end
/-- the boxes of the rows before i, and of row i those of the columns before k -/
def bxPre (σ τ : Sts) (m i k : Nat) : List Bx := flL σ τ (ki (kpO τ) m) (ki (kpO σ) i) ++ if kpO σ i = true then rowB σ τ i (ki (kpO τ) k) else []
theorem bxPre_zero (σ τ : Sts) (m i : Nat) : bxPre σ τ m i 0 = flL σ τ (ki (kpO τ) m) (ki (kpO σ) i) := by unfold bxPre; rw [ki_zero]; split <;> simp [rowB]
theorem bxPre_row (σ τ : Sts) (m i : Nat) : bxPre σ τ m i m = flL σ τ (ki (kpO τ) m) (ki (kpO σ) (i + 1)) := by
  unfold bxPre
  cases h : kpO σ i with
  | true => rw [if_pos rfl, ki_yes h, flL_snoc]
  | false => rw [if_neg (by decide), ki_no h, List.append_nil]
theorem bxPre_yes {σ τ : Sts} {m i k : Nat} (h1 : kpO σ i = true) (h2 : kpO τ k = true) : bxPre σ τ m i (k + 1) = bxPre σ τ m i k ++ [bxOf (σ i) (τ k)] := by
  unfold bxPre
  rw [if_pos h1, if_pos h1, ki_yes h2, rowB_snoc, List.append_assoc]
theorem bxPre_no {σ τ : Sts} {m i k : Nat} (h : ¬ (kpO σ i = true ∧ kpO τ k = true)) : bxPre σ τ m i (k + 1) = bxPre σ τ m i k := by
  unfold bxPre
  by_cases h1 : kpO σ i = true
  · have h2 : kpO τ k = false := by cases h2 : kpO τ k with | true => exact absurd ⟨h1, h2⟩ h | false => rfl
    rw [ki_no h2]
  · rw [if_neg h1, if_neg h1]
theorem bxPre_len (σ τ : Sts) (m i k : Nat) (hk : k ≤ m) : (bxPre σ τ m i k).length ≤ (i + 1) * m := by
  unfold bxPre
  rw [List.length_append, flL_length, Nat.succ_mul]
  have h1 := ki_len (kpO τ) m
  have h2 := ki_len (kpO σ) i
  have h3 : (ki (kpO σ) i).length * (ki (kpO τ) m).length ≤ i * m := Nat.mul_le_mul h2 h1
  have h4 := ki_len (kpO τ) k
  split
  · rw [rowB_length]; omega
  · simp only [List.length_nil]; omega
theorem bx_val {hh ww gap : Int} {n m i k : Nat} {Pr Pc : Nat → Pt} (q0 : 0 ≤ hh) (p0 : 0 ≤ ww) (hr : ∀ i, i < n → (Pr i).Ok) (hc : ∀ i, i < m → (Pc i).Ok) (hi : i < n) (hk : k < m) :
    bxOf (upR hh n Pr i) (sdR ww gap m Pc k) = ⟨plR 0 hh 0 Pr n i, plR gap ww 0 Pc m k, szR 0 hh Pr n i, szR gap ww Pc m k⟩ := by
  unfold bxOf upR sdR
  rw [l3_a q0 hr hi, l3_a p0 hc hk, l3_sz, l3_sz]
  rfl

set_option maxRecDepth 100000 in
set_option maxHeartbeats 8000000 in
theorem rboxes_any (ww hh gap : Int) (Ar Ac : Option Addr) (n m cr cc : Nat) (Pr Pc : Nat → Pt) (w : World) (hn : n ≤ 64) (hm : m ≤ 64) (hSr : Sl w w.heap.size Ar (ptB Pr n)) (hSc : Sl w w.heap.size Ac (ptB Pc m)) :
    Calls Try.prog 24 #[.int .i64 ww, .int .i64 hh, .int .i64 gap, .slice Ar n cr, .slice Ac m cc] w fun e w' => (∃ A c, e = .returned (.slice A (bxsR ww hh gap n m Pr Pc).length c) ∧ OX w' w.heap.size A (bxsR ww hh gap n m Pr Pc).length c (bxsR ww hh gap n m Pr Pc)) ∧ Below w.heap.size w w' := by
  have HSR := Lib.hid hSr
  have HSC := Lib.hid hSc
  have HK1 := Lib.hid (fun W h => lrcheck_any hh 0 Ar n cr Pr W (by omega) h)
  have HK2 := Lib.hid (fun W h => lrcheck_any ww gap Ac m cc Pc W (by omega) h)
  clear hSr hSc
  by_cases h1 : chkV hh 0 n Pr = 0
  · by_cases h2 : chkV ww gap m Pc = 0
    · have hok : okB ww hh gap n m Pr Pc := ⟨h1, h2⟩
      have hL : bxsR ww hh gap n m Pr Pc = boxL (upR hh n Pr) n (sdR ww gap m Pc) m := if_pos hok
      rw [hL]
      obtain ⟨⟨q0, q5, _, _⟩, ⟨n1, n64⟩, hokr⟩ := chkV_ok h1
      obtain ⟨⟨p0, p5, g0, g9⟩, ⟨m1, m64⟩, hokc⟩ := chkV_ok h2
      rw [h1] at HK1
      rw [h2] at HK2
      obtain ⟨ab, off, hA, _, _⟩ := HSR.out.open_ (by rw [ptB_len]; omega)
      obtain ⟨ab2, off2, hA2, _, _⟩ := HSC.out.open_ (by rw [ptB_len]; omega)
      subst hA hA2
      have HT1 := Lib.hid (fun W h => (rstay_any hh 0 (some ⟨ab, off, none⟩) n cr Pr W (by omega) h).mono fun e w' h => (show (∃ S d, e = .returned (.tuple #[.slice S n d, .int .i64 0]) ∧ OR w' W.heap.size 4 S n d (rw1 (fun i => .bool (kpR 0 hh Pr n i)) n)) ∧ Below W.heap.size W w' from ⟨h.1.elim (fun h => absurd h1 h.1) (fun h => h.2), h.2⟩))
      have HT2 := Lib.hid (fun W h => (rstay_any ww gap (some ⟨ab2, off2, none⟩) m cc Pc W (by omega) h).mono fun e w' h => (show (∃ S d, e = .returned (.tuple #[.slice S m d, .int .i64 0]) ∧ OR w' W.heap.size 4 S m d (rw1 (fun i => .bool (kpR gap ww Pc m i)) m)) ∧ Below W.heap.size W w' from ⟨h.1.elim (fun h => absurd h2 h.1) (fun h => h.2), h.2⟩))
      have HL1 := Lib.hid (fun S d W h hB => rlay_any hh 0 ab off n cr Pr S n d W n1 n64 rfl q0 q5 (Int.le_refl _) (by omega) hokr h hB)
      have HL2 := Lib.hid (fun S d W h hB => rlay_any ww gap ab2 off2 m cc Pc S m d W m1 m64 rfl p0 p5 g0 g9 hokc h hB)
      have HP1 := Lib.hid (fun W h => (rplaces_any hh 0 0 (some ⟨ab, off, none⟩) n cr Pr W (by omega) h).mono fun e w' h => (show (∃ S d, e = .returned (.tuple #[.slice S n d, .int .i64 0]) ∧ OR w' W.heap.size 3 S n d (rw1 (fun i => .int .i64 (plR 0 hh 0 Pr n i)) n)) ∧ Below W.heap.size W w' from ⟨h.1.elim (fun h => absurd h1 h.1) (fun h => h.elim (fun h => absurd ⟨by omega, by omega⟩ h.2.1) (fun h => h.2.2)), h.2⟩))
      have HP2 := Lib.hid (fun W h => (rplaces_any ww gap 0 (some ⟨ab2, off2, none⟩) m cc Pc W (by omega) h).mono fun e w' h => (show (∃ S d, e = .returned (.tuple #[.slice S m d, .int .i64 0]) ∧ OR w' W.heap.size 3 S m d (rw1 (fun i => .int .i64 (plR gap ww 0 Pc m i)) m)) ∧ Below W.heap.size W w' from ⟨h.1.elim (fun h => absurd h2 h.1) (fun h => h.elim (fun h => absurd ⟨by omega, by omega⟩ h.2.1) (fun h => h.2.2)), h.2⟩))
      have HBV : Hid (∀ i k, i < n → k < m → bxOf (upR hh n Pr i) (sdR ww gap m Pc k) = ⟨plR 0 hh 0 Pr n i, plR gap ww 0 Pc m k, szR 0 hh Pr n i, szR gap ww Pc m k⟩) := fun i k hi hk => bx_val q0 p0 hokr hokc hi hk
      have HU : Hid (kpO (upR hh n Pr) = kpR 0 hh Pr n ∧ kpO (sdR ww gap m Pc) = kpR gap ww Pc m) := ⟨l3_kp _ _ _ _ _, l3_kp _ _ _ _ _⟩
      generalize upR hh n Pr = σ at *
      generalize sdR ww gap m Pc = τ at *
      rw [← HU.out.1] at HT1 HL1
      rw [← HU.out.2] at HT2 HL2
      clear hok hL h1 h2 hokr hokc HU
      generalize plR 0 hh 0 Pr n = pr at *
      generalize plR gap ww 0 Pc m = pc at *
      generalize szR 0 hh Pr n = sr at *
      generalize szR gap ww Pc m = sc at *
      generalize overR 0 hh Pr n = o1 at *
      generalize overR gap ww Pc m = o2 at *
      go_enter Try.func24, Try.ntmps24
      go_upto_region 3 with (first
        | (go_at_call 19; with_reducible refine (HK1.out w HSR.out).mono ?_; rintro e w2 ⟨rfl, hb⟩; have B2 := Lib.hid hb; have SC2 := Lib.hid (sl_on HSC.out hb); have SR2 := Lib.hid (sl_on HSR.out hb); clear hb)
        | (go_at_call 19; with_reducible refine (HK2.out w2 SC2.out).mono ?_; rintro e w3 ⟨rfl, hb⟩; have B3 := Lib.hid (B2.out.trans (hb.mono B2.out.size)); have SC3 := Lib.hid (sl_on SC2.out hb); have SR3 := Lib.hid (sl_on SR2.out hb); clear hb))
      clear HK1 HK2
      go_upto_region 4 with (go_at_call 13; refine (HT1.out w3 SR3.out).mono ?_; rintro e w4 ⟨⟨U, ud, rfl, hor⟩, hb⟩; have U4 := Lib.hid hor.sl; have B4 := Lib.hid (B3.out.trans (hb.mono B3.out.size)); have SC4 := Lib.hid (sl_on SC3.out hb); have SR4 := Lib.hid (sl_on SR3.out hb); clear hb hor)
      go_upto_region 5 with (go_at_call 13; refine (HT2.out w4 SC4.out).mono ?_; rintro e w5 ⟨⟨D, dd, rfl, hor⟩, hb⟩; have D5 := Lib.hid hor.sl; have B5 := Lib.hid (B4.out.trans (hb.mono B4.out.size)); have SC5 := Lib.hid (sl_on SC4.out hb); have SR5 := Lib.hid (sl_on SR4.out hb); have U5 := Lib.hid (sl_on U4.out hb); clear hb hor)
      go_upto_region 6 with (go_at_call 32; refine (HL1.out U ud w5 SR5.out U5.out).mono ?_; rintro e w6 ⟨T, td, rfl, hor, hb⟩; have T6 := Lib.hid hor.sl; have fl0 := fun w => ld_field (.slice T n td) (.int .i64 o1) w; have B6 := Lib.hid (B5.out.trans (hb.mono B5.out.size)); have SC6 := Lib.hid (sl_on SC5.out hb); have SR6 := Lib.hid (sl_on SR5.out hb); have U6 := Lib.hid (sl_on U5.out hb); have D6 := Lib.hid (sl_on D5.out hb); clear hb hor)
      clear fl0
      go_upto_region 7 with (go_at_call 32; refine (HL2.out D dd w6 SC6.out D6.out).mono ?_; rintro e w7 ⟨I, id, rfl, hor, hb⟩; have I7 := Lib.hid hor.sl; have fl0 := fun w => ld_field (.slice I m id) (.int .i64 o2) w; have B7 := Lib.hid (B6.out.trans (hb.mono B6.out.size)); have SC7 := Lib.hid (sl_on SC6.out hb); have SR7 := Lib.hid (sl_on SR6.out hb); have U7 := Lib.hid (sl_on U6.out hb); have D7 := Lib.hid (sl_on D6.out hb); have T7 := Lib.hid (sl_on T6.out hb); clear hb hor)
      clear fl0
      go_upto_region 8 with (go_at_call 22; refine (HP1.out w7 SR7.out).mono ?_; rintro e w8 ⟨⟨X, xd, rfl, hor⟩, hb⟩; have X8 := Lib.hid hor.sl; have B8 := Lib.hid (B7.out.trans (hb.mono B7.out.size)); have SC8 := Lib.hid (sl_on SC7.out hb); have SR8 := Lib.hid (sl_on SR7.out hb); have U8 := Lib.hid (sl_on U7.out hb); have D8 := Lib.hid (sl_on D7.out hb); have T8 := Lib.hid (sl_on T7.out hb); have I8 := Lib.hid (sl_on I7.out hb); clear hb hor)
      go_upto_region 9 with (go_at_call 22; refine (HP2.out w8 SC8.out).mono ?_; rintro e w9 ⟨⟨Y, yd, rfl, hor⟩, hb⟩; have Y9 := Lib.hid hor.sl; have B9 := Lib.hid (B8.out.trans (hb.mono B8.out.size)); have SC9 := Lib.hid (sl_on SC8.out hb); have SR9 := Lib.hid (sl_on SR8.out hb); have U9 := Lib.hid (sl_on U8.out hb); have D9 := Lib.hid (sl_on D8.out hb); have T9 := Lib.hid (sl_on T8.out hb); have I9 := Lib.hid (sl_on I8.out hb); have X9 := Lib.hid (sl_on X8.out hb); clear hb hor)
      clear HT1 HT2 HL1 HL2 HP1 HP2 B2 B3 B4 B5 B6 B7 B8 SC2 SR2 SC3 SR3 SC4 SR4 SC5 SR5 SC6 SR6 SC7 SR7 SC8 SR8 SC9 SR9 U4 U5 U6 U7 U8 D5 D6 D7 D8 T6 T7 T8 I7 I8 X8 HSR HSC
      go_wp2_with (fail)
      go_loopw [21, 22, 23] (fun v21 v22 v23 wr => ∃ (i : Nat) (A : Option Addr) (c : Nat), v22 = .int .i64 i ∧ i ≤ n ∧ v21 = .slice A (flL σ τ (ki (kpO τ) m) (ki (kpO σ) i)).length c ∧ OX wr w9.heap.size A (flL σ τ (ki (kpO τ) m) (ki (kpO σ) i)).length c (flL σ τ (ki (kpO τ) m) (ki (kpO σ) i)) ∧ Below w9.heap.size w9 wr) (fun _ v _ _ => n - (intOf v).toNat)
      case atStart => exact ⟨0, none, 0, rfl, by omega, rfl, OX.none_ _ _, Below.refl _ _⟩
      case round =>
        obtain ⟨i, A, c, rfl, hi, rfl, hox, hw⟩ := hrel
        have HOX := Lib.hid hox
        have HW := Lib.hid hw
        clear hox hw
        by_cases hlt : i < n
        · have hii : (i : Int) < n := by omega
          have HX0 : Hid (OX wr w9.heap.size A (bxPre σ τ m i 0).length c (bxPre σ τ m i 0)) := by show OX _ _ _ _ _ _; rw [bxPre_zero]; exact HOX.out
          rw [← bxPre_zero σ τ m i]
          obtain ⟨l0, hl0⟩ : ∃ l, (bxPre σ τ m i 0).length = l := ⟨_, rfl⟩
          rw [hl0]
          rw [hl0] at HX0
          have HL0 := Lib.hid hl0
          clear HOX hl0
          go_wp2_with (fail)
          go_loopw [21, 23] (fun v21 v23 wr => ∃ (k : Nat) (A : Option Addr) (c l : Nat), v23 = .int .i64 k ∧ k ≤ m ∧ v21 = .slice A l c ∧ Hid (l = (bxPre σ τ m i k).length) ∧ OX wr w9.heap.size A l c (bxPre σ τ m i k) ∧ Below w9.heap.size w9 wr) (fun _ v _ => m - (intOf v).toNat)
          case atStart => exact ⟨0, A, c, l0, rfl, by omega, rfl, HL0.out.symm, HX0.out, HW.out⟩
          case round =>
            clear HX0 HW HL0
            obtain ⟨k, A, c, l, rfl, hk, rfl, HLE, hox, hw⟩ := hrel
            have HOX := Lib.hid hox
            have HW := Lib.hid hw
            by_cases hkl : k < m
            · have hkk : (k : Int) < m := by omega
              obtain ⟨bu, ou, rfl, hbu, hcu⟩ := rw1_at U9.out hlt
              obtain ⟨bd, od, rfl, hbd, hcd⟩ := rw1_at D9.out hkl
              have c1 := (hw.cell (p := ⟨bu, ou + i, none⟩) hbu).trans hcu
              have c2 := (hw.cell (p := ⟨bd, od + k, none⟩) hbd).trans hcd
              have hl6 : l ≤ 1000000 := by
                have h := bxPre_len σ τ m i k (by omega)
                have h2 := HLE.out
                have h3 : (i + 1) * m ≤ 64 * 64 := Nat.mul_le_mul (by omega) (by omega)
                omega
              clear hox hw hcu hcd
              by_cases hb : kpO σ i = true ∧ kpO τ k = true
              · obtain ⟨hb1, hb2⟩ := hb
                rw [hb1] at c1
                rw [hb2] at c2
                obtain ⟨bt, ot, rfl, hbt, hct⟩ := rw1_at T9.out hlt
                obtain ⟨bi, oi, rfl, hbi, hci⟩ := rw1_at I9.out hkl
                obtain ⟨bx, ox, rfl, hbx, hcx⟩ := rw1_at X9.out hlt
                obtain ⟨by_, oy, rfl, hby, hcy⟩ := rw1_at Y9.out hkl
                have HS : Hid (bxPre σ τ m i (k + 1) = bxPre σ τ m i k ++ [⟨pr i, pc k, sr i, sc k⟩]) := by show _ = _; rw [bxPre_yes hb1 hb2, HBV.out i k hlt hkl]
                generalize pr i = v1 at *
                generalize pc k = v2 at *
                generalize sr i = v3 at *
                generalize sc k = v4 at *
                have HCT := Lib.hid hct
                have HCI := Lib.hid hci
                have HCX := Lib.hid hcx
                have HCY := Lib.hid hcy
                have hwz := HW.out.size
                have hod : OX wr.drew w9.heap.size A l c (bxPre σ τ m i k) := HOX.out
                obtain ⟨A', c', w', hrun, hox', hch, hat⟩ := run_appX wr.drew w9.heap.size A l c _ hod (by simpa using hwz) ⟨v1, v2, v3, v4⟩ hl6
                have hb' : Below w9.heap.size w9 w' := ((HW.out.drew).trans (hch.below (by simpa using hwz) (fun g hg => (HOX.out.blk_lt g hg).1)))
                have HRUN := Lib.hid hrun
                have HOX' := Lib.hid hox'
                have HB' := Lib.hid hb'
                clear hb1 hb2 hct hci hcx hcy hod hrun hox' hch hat hb'
                go_upto_region 17 with (fail)
                have HSD : Hid ((fun W : World => Below w9.heap.size w9 W) wr.drew) := Lib.hid (HW.out.drew)
                refine wp_region_K (fun W : World => Below w9.heap.size w9 W) 17 (by kernel_rfl) ?_
                refine wpAnyK_takeP (i := 0) (v := ?v0) rfl (by kernel_rfl) (by kernel_rfl) (by kernel_rfl) (by kernel_rfl) (fun _ _ _ h => h) (Or.inl ⟨by rfl, fun w hSw => ?hy0⟩) (.inr HSD.out) ?rest0
                case hy0 =>
                  go_simp
                  try with_reducible rfl
                change wpAnyK _ _ _ _ _ _ _ _ (Act.put _ (some 94) _) _
                try simp only [Act.put, List.setIfInBounds_toArray, List.set_cons_zero, List.set_cons_succ]
                refine wpAnyK_takeP (i := 1) (v := ?v1) rfl (by kernel_rfl) (by kernel_rfl) (by kernel_rfl) (by kernel_rfl) (fun _ _ _ h => h) (Or.inl ⟨by rfl, fun w hSw => ?hy1⟩) (.inr HSD.out) ?rest1
                case hy1 =>
                  go_simp
                  try with_reducible rfl
                change wpAnyK _ _ _ _ _ _ _ _ (Act.put _ (some 95) _) _
                try simp only [Act.put, List.setIfInBounds_toArray, List.set_cons_zero, List.set_cons_succ]
                refine wpAnyK_takeP (i := 2) (v := ?v2) rfl (by kernel_rfl) (by kernel_rfl) (by kernel_rfl) (by kernel_rfl) (fun _ _ _ h => h) (Or.inl ⟨by rfl, fun w hSw => ?hy2⟩) (.inr HSD.out) ?rest2
                case hy2 =>
                  go_simp
                  try with_reducible rfl
                change wpAnyK _ _ _ _ _ _ _ _ (Act.put _ (some 96) _) _
                try simp only [Act.put, List.setIfInBounds_toArray, List.set_cons_zero, List.set_cons_succ]
                refine wpAnyK_takeP (i := 3) (v := ?v3) rfl (by kernel_rfl) (by kernel_rfl) (by kernel_rfl) (by kernel_rfl) (fun _ _ _ h => h) (Or.inl ⟨by rfl, fun w hSw => ?hy3⟩) (.inr HSD.out) ?rest3
                case hy3 =>
                  go_simp
                  try with_reducible rfl
                change wpAnyK _ _ _ _ _ _ _ _ (Act.put _ (some 97) _) _
                try simp only [Act.put, List.setIfInBounds_toArray, List.set_cons_zero, List.set_cons_succ]
                refine wpAnyK_take (i := 4) (v := .int .i64 v1) rfl (by kernel_rfl) (by kernel_rfl) (by kernel_rfl) (by kernel_rfl) (fun _ _ _ h => h) (Or.inl ⟨by rfl, fun w hSw => ?hy4⟩) HSD.out ?rest4
                case hy4 =>
                  have s1 := (Below.cell (show Below w9.heap.size w9 _ from hSw) (p := ⟨bx, ox + i, none⟩) hbx).trans HCX.out
                  clear hSw
                  try dsimp only at s1
                  go_simp
                  try with_reducible rfl
                change wpAnyK _ _ _ _ _ _ _ _ (Act.put _ (some 98) _) _
                try simp only [Act.put, List.setIfInBounds_toArray, List.set_cons_zero, List.set_cons_succ]
                refine wpAnyK_takeP (i := 5) (v := ?v5) rfl (by kernel_rfl) (by kernel_rfl) (by kernel_rfl) (by kernel_rfl) (fun _ _ _ h => h) (Or.inl ⟨by rfl, fun w hSw => ?hy5⟩) (.inr HSD.out) ?rest5
                case hy5 =>
                  go_simp
                  try with_reducible rfl
                change wpAnyK _ _ _ _ _ _ _ _ (Act.put _ (some 99) _) _
                try simp only [Act.put, List.setIfInBounds_toArray, List.set_cons_zero, List.set_cons_succ]
                refine wpAnyK_takeP (i := 6) (v := ?v6) rfl (by kernel_rfl) (by kernel_rfl) (by kernel_rfl) (by kernel_rfl) (fun _ _ _ h => h) (Or.inl ⟨by rfl, fun w hSw => ?hy6⟩) (.inr HSD.out) ?rest6
                case hy6 =>
                  go_simp
                  try with_reducible rfl
                change wpAnyK _ _ _ _ _ _ _ _ (Act.put _ (some 100) _) _
                try simp only [Act.put, List.setIfInBounds_toArray, List.set_cons_zero, List.set_cons_succ]
                refine wpAnyK_takeP (i := 7) (v := ?v7) rfl (by kernel_rfl) (by kernel_rfl) (by kernel_rfl) (by kernel_rfl) (fun _ _ _ h => h) (Or.inl ⟨by rfl, fun w hSw => ?hy7⟩) (.inr HSD.out) ?rest7
                case hy7 =>
                  go_simp
                  try with_reducible rfl
                change wpAnyK _ _ _ _ _ _ _ _ (Act.put _ (some 101) _) _
                try simp only [Act.put, List.setIfInBounds_toArray, List.set_cons_zero, List.set_cons_succ]
                refine wpAnyK_take (i := 8) (v := .int .i64 v2) rfl (by kernel_rfl) (by kernel_rfl) (by kernel_rfl) (by kernel_rfl) (fun _ _ _ h => h) (Or.inl ⟨by rfl, fun w hSw => ?hy8⟩) HSD.out ?rest8
                case hy8 =>
                  have s1 := (Below.cell (show Below w9.heap.size w9 _ from hSw) (p := ⟨by_, oy + k, none⟩) hby).trans HCY.out
                  clear hSw
                  try dsimp only at s1
                  go_simp
                  try with_reducible rfl
                change wpAnyK _ _ _ _ _ _ _ _ (Act.put _ (some 102) _) _
                try simp only [Act.put, List.setIfInBounds_toArray, List.set_cons_zero, List.set_cons_succ]
                refine wpAnyK_takeP (i := 9) (v := ?v9) rfl (by kernel_rfl) (by kernel_rfl) (by kernel_rfl) (by kernel_rfl) (fun _ _ _ h => h) (Or.inl ⟨by rfl, fun w hSw => ?hy9⟩) (.inr HSD.out) ?rest9
                case hy9 =>
                  go_simp
                  try with_reducible rfl
                change wpAnyK _ _ _ _ _ _ _ _ (Act.put _ (some 103) _) _
                try simp only [Act.put, List.setIfInBounds_toArray, List.set_cons_zero, List.set_cons_succ]
                refine wpAnyK_takeP (i := 10) (v := ?v10) rfl (by kernel_rfl) (by kernel_rfl) (by kernel_rfl) (by kernel_rfl) (fun _ _ _ h => h) (Or.inl ⟨by rfl, fun w hSw => ?hy10⟩) (.inr HSD.out) ?rest10
                case hy10 =>
                  go_simp
                  try with_reducible rfl
                change wpAnyK _ _ _ _ _ _ _ _ (Act.put _ (some 104) _) _
                try simp only [Act.put, List.setIfInBounds_toArray, List.set_cons_zero, List.set_cons_succ]
                refine wpAnyK_takeP (i := 11) (v := ?v11) rfl (by kernel_rfl) (by kernel_rfl) (by kernel_rfl) (by kernel_rfl) (fun _ _ _ h => h) (Or.inl ⟨by rfl, fun w hSw => ?hy11⟩) (.inr HSD.out) ?rest11
                case hy11 =>
                  go_simp
                  try with_reducible rfl
                change wpAnyK _ _ _ _ _ _ _ _ (Act.put _ (some 105) _) _
                try simp only [Act.put, List.setIfInBounds_toArray, List.set_cons_zero, List.set_cons_succ]
                refine wpAnyK_take (i := 12) (v := .int .i64 v3) rfl (by kernel_rfl) (by kernel_rfl) (by kernel_rfl) (by kernel_rfl) (fun _ _ _ h => h) (Or.inl ⟨by rfl, fun w hSw => ?hy12⟩) HSD.out ?rest12
                case hy12 =>
                  have s1 := (Below.cell (show Below w9.heap.size w9 _ from hSw) (p := ⟨bt, ot + i, none⟩) hbt).trans HCT.out
                  clear hSw
                  try dsimp only at s1
                  go_simp
                  try with_reducible rfl
                change wpAnyK _ _ _ _ _ _ _ _ (Act.put _ (some 106) _) _
                try simp only [Act.put, List.setIfInBounds_toArray, List.set_cons_zero, List.set_cons_succ]
                refine wpAnyK_takeP (i := 13) (v := ?v13) rfl (by kernel_rfl) (by kernel_rfl) (by kernel_rfl) (by kernel_rfl) (fun _ _ _ h => h) (Or.inl ⟨by rfl, fun w hSw => ?hy13⟩) (.inr HSD.out) ?rest13
                case hy13 =>
                  go_simp
                  try with_reducible rfl
                change wpAnyK _ _ _ _ _ _ _ _ (Act.put _ (some 107) _) _
                try simp only [Act.put, List.setIfInBounds_toArray, List.set_cons_zero, List.set_cons_succ]
                refine wpAnyK_takeP (i := 14) (v := ?v14) rfl (by kernel_rfl) (by kernel_rfl) (by kernel_rfl) (by kernel_rfl) (fun _ _ _ h => h) (Or.inl ⟨by rfl, fun w hSw => ?hy14⟩) (.inr HSD.out) ?rest14
                case hy14 =>
                  go_simp
                  try with_reducible rfl
                change wpAnyK _ _ _ _ _ _ _ _ (Act.put _ (some 108) _) _
                try simp only [Act.put, List.setIfInBounds_toArray, List.set_cons_zero, List.set_cons_succ]
                refine wpAnyK_takeP (i := 15) (v := ?v15) rfl (by kernel_rfl) (by kernel_rfl) (by kernel_rfl) (by kernel_rfl) (fun _ _ _ h => h) (Or.inl ⟨by rfl, fun w hSw => ?hy15⟩) (.inr HSD.out) ?rest15
                case hy15 =>
                  go_simp
                  try with_reducible rfl
                change wpAnyK _ _ _ _ _ _ _ _ (Act.put _ (some 109) _) _
                try simp only [Act.put, List.setIfInBounds_toArray, List.set_cons_zero, List.set_cons_succ]
                refine wpAnyK_take (i := 16) (v := .int .i64 v4) rfl (by kernel_rfl) (by kernel_rfl) (by kernel_rfl) (by kernel_rfl) (fun _ _ _ h => h) (Or.inl ⟨by rfl, fun w hSw => ?hy16⟩) HSD.out ?rest16
                case hy16 =>
                  have s1 := (Below.cell (show Below w9.heap.size w9 _ from hSw) (p := ⟨bi, oi + k, none⟩) hbi).trans HCI.out
                  clear hSw
                  try dsimp only at s1
                  go_simp
                  try with_reducible rfl
                change wpAnyK _ _ _ _ _ _ _ _ (Act.put _ (some 110) _) _
                try simp only [Act.put, List.setIfInBounds_toArray, List.set_cons_zero, List.set_cons_succ]
                refine wpAnyK_only (i := 17) (by kernel_rfl) rfl (fun K hK => ?_)
                go_simp
                refine hK.out _ _ (.inl (by kernel_rfl)) ?_
                clear hK K
                try simp only [Act.put, List.setIfInBounds_toArray, List.set_cons_zero, List.set_cons_succ]
                refine wpAnyK_only (i := 18) (by kernel_rfl) rfl (fun K hK => ?_)
                go_simp
                refine hK.out _ _ (.inl (by kernel_rfl)) ?_
                clear hK K
                try simp only [Act.put, List.setIfInBounds_toArray, List.set_cons_zero, List.set_cons_succ]
                refine wpAnyK_only (i := 19) (by kernel_rfl) rfl (fun K hK => ?_)
                refine step_appX rfl 47 47 (.tmp 94) (.tmp 112) rfl _ _ _ _ rfl rfl HRUN.out ?_
                refine hK.out _ _ (.inl (by kernel_rfl)) ?_
                clear hK K
                try simp only [Act.put, List.setIfInBounds_toArray, List.set_cons_zero, List.set_cons_succ]
                refine wpAnyK_only (i := 20) (by kernel_rfl) rfl (fun K hK => ?_)
                go_simp
                refine hK.out _ _ (.inl (by kernel_rfl)) ?_
                clear hK K
                try simp only [Act.put, List.setIfInBounds_toArray, List.set_cons_zero, List.set_cons_succ]
                refine wpAnyK_done (by kernel_rfl) ?_ _
                go_wp2_with (fail)
                go_roundw
                case rel => exact ⟨k + 1, A', c', l + 1, by go_num, by omega, rfl, by show _ = _; rw [HS.out, List.length_append, ← HLE.out]; rfl, by rw [HS.out]; exact HOX'.out, HB'.out⟩
                case measure => simp [intOf]; omega
              · have HS : Hid (bxPre σ τ m i (k + 1) = bxPre σ τ m i k) := bxPre_no hb
                have fin : Hid (∃ (k' : Nat) (A' : Option Addr) (c' l' : Nat), Value.int .i64 ((k : Int) + 1) = .int .i64 k' ∧ k' ≤ m ∧ Value.slice A l c = .slice A' l' c' ∧ Hid (l' = (bxPre σ τ m i k').length) ∧ OX wr w9.heap.size A' l' c' (bxPre σ τ m i k') ∧ Below w9.heap.size w9 wr) := ⟨k + 1, A, c, l, by go_num, by omega, rfl, by show _ = _; rw [HS.out, HLE.out], by rw [HS.out]; exact HOX.out, HW.out⟩
                cases hb1 : kpO σ i with
                | false =>
                  rw [hb1] at c1
                  clear hb hb1
                  go_wp2_with (fail)
                  go_roundw
                  case rel => exact fin.out
                  case measure => simp [intOf]; omega
                | true =>
                  cases hb2 : kpO τ k with
                  | true => exact absurd ⟨hb1, hb2⟩ hb
                  | false =>
                    rw [hb1] at c1
                    rw [hb2] at c2
                    clear hb hb1 hb2
                    go_wp2_with (fail)
                    go_roundw
                    case rel => exact fin.out
                    case measure => simp [intOf]; omega
            · have hkk : ¬ (k : Int) < m := by omega
              obtain rfl : k = m := by omega
              have HOX2 : Hid (OX wr w9.heap.size A (flL σ τ (ki (kpO τ) k) (ki (kpO σ) (i + 1))).length c (flL σ τ (ki (kpO τ) k) (ki (kpO σ) (i + 1)))) := by show OX _ _ _ _ _ _; rw [← bxPre_row, ← HLE.out]; exact HOX.out
              have HLE2 : Hid (l = (flL σ τ (ki (kpO τ) k) (ki (kpO σ) (i + 1))).length) := by show _ = _; rw [← bxPre_row, ← HLE.out]
              clear hox hw HOX
              go_wp2_with (fail)
              go_roundw
              case rel => exact ⟨i + 1, A, c, by go_num, by omega, by rw [HLE2.out], HOX2.out, HW.out⟩
              case measure => simp [intOf]; omega
        · have hii : ¬ (i : Int) < n := by omega
          obtain rfl : i = n := by omega
          obtain ⟨L, hL⟩ : ∃ L, flL σ τ (ki (kpO τ) m) (ki (kpO σ) i) = L := ⟨_, rfl⟩
          rw [hL] at HOX
          rw [hL]
          have HLL : Hid (boxL σ i τ m = L) := hL
          clear hL
          obtain ⟨l, hl⟩ : ∃ l, L.length = l := ⟨_, rfl⟩
          rw [hl]
          have HLN := Lib.hid hl
          clear hl
          go_wp2_with (fail)
          go_ret
          have hz := B9.out.size
          exact ⟨⟨A, c, by rw [HLL.out, HLN.out]; rfl, by rw [HLL.out]; exact World.ownsRow.weakenB (base := w9.heap.size) HOX.out hz⟩, B9.out.trans (HW.out.mono hz)⟩
    · have hL : bxsR ww hh gap n m Pr Pc = [] := if_neg (fun h => h2 h.2)
      rw [hL]
      rw [h1] at HK1
      have hne : (chkV ww gap m Pc != 0) = true := by simp [h2]
      generalize chkV ww gap m Pc = v2 at *
      clear hL h1
      go_enter Try.func24, Try.ntmps24
      go_wp2_with (first
        | (go_at_call 19; with_reducible refine (HK1.out w HSR.out).mono ?_; rintro e w2 ⟨rfl, hb⟩; have B2 := Lib.hid hb; have SC2 := Lib.hid (sl_on HSC.out hb); clear hb)
        | (go_at_call 19; with_reducible refine (HK2.out w2 SC2.out).mono ?_; rintro e w3 ⟨rfl, hb⟩; have B3 := Lib.hid (B2.out.trans (hb.mono B2.out.size)); clear hb))
      go_ret
      exact ⟨⟨none, 0, rfl, OX.none_ _ _⟩, B3.out⟩
  · have hL : bxsR ww hh gap n m Pr Pc = [] := if_neg (fun h => h1 h.1)
    rw [hL]
    have hne : (chkV hh 0 n Pr != 0) = true := by simp [h1]
    generalize chkV hh 0 n Pr = v1 at *
    clear hL
    go_enter Try.func24, Try.ntmps24
    go_wp2_with (go_at_call 19; with_reducible refine (HK1.out w HSR.out).mono ?_; rintro e w2 ⟨rfl, hb⟩; have B2 := Lib.hid hb; clear hb)
    go_ret
    exact ⟨⟨none, 0, rfl, OX.none_ _ _⟩, B2.out⟩
end Go.Proofs.Ytdodogehlnchlaa
