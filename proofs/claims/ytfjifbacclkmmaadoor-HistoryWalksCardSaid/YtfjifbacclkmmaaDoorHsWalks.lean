/-
  Walk: HistoryWalks.
-/
import Derived.Test.YtfjifbacclkmmaaDoorHsWalk0
namespace Go.Proofs.YtfjifbacclkmmaaDoor
open Go.RowKit
set_option linter.unusedVariables false
set_option linter.unusedSimpArgs false

theorem tW_snoc {d b : List UInt8} {L : List (List UInt8)} {k : Nat} {x : List UInt8} (h : L[k]? = some x) : tW d b (L.take (k + 1)) = tW d b (L.take k) ++ (if hasW d b x then [x] else []) := by
  unfold tW
  rw [List.take_add_one, h, List.filter_append]
  cases hh : hasW d b x <;> simp [List.filter_cons, hh]

set_option maxRecDepth 100000 in
set_option maxHeartbeats 16000000 in
theorem historyWalks_walk (X : Option Addr) (m dd : Nat) (l0 : List (List UInt8)) (s1 s2 : ByteArray) (hs1 : s1.size ≤ maxLen) (hs2 : s2.size ≤ maxLen) (w : World) (hT : Tabs w) (hm : m = l0.length) (hmx : m ≤ maxLen) (hX : Sl w w.heap.size X (sv l0)) (hlen : ∀ s ∈ l0, s.length ≤ maxLen) :
    Calls Tryd.prog 4 #[.slice X m dd, .string s1, .string s2] w fun e w' => e = .returned (.bool true) ∧ Below w.heap.size w w' := by
  have HT := Lib.hid hT
  have HFIL := Lib.hid (filled_any 20 (by omega) (by omega) l0 X m dd hm hmx w hT hX hlen)
  have HC1 := Lib.hid (hcut_any s1 hs1)
  have HC2 := Lib.hid (hcut_any s2 hs2)
  have hd60 := cut60_len s1.data.toList
  have hb60 := cut60_len s2.data.toList
  generalize cut60 s1.data.toList = d at *
  generalize cut60 s2.data.toList = b at *
  clear hT hm hmx hX hlen hs1 hs2
  go_enter Tryd.func4, Tryd.ntmps4
  go_wp2_with (fail)
  refine HFIL.out.mono ?_
  rintro e w1 ⟨h, A, c, rfl, hq1, hb1⟩
  generalize fillL 20 [] (l0.take 40) = L at hq1
  have hl4 : L.length ≤ 20 := hq1.le
  have hok : ∀ x ∈ L, x.length ≤ 3000 := fun x hx => (hq1.ok x hx).2
  have hhl : w.heap.size ≤ h := hq1.lo
  have Q1 := Lib.hid hq1
  have HB1 := Lib.hid hb1
  clear hq1 hb1 HFIL
  go_wp2_with (first
    | (go_at_call 18; first | (refine (HC1.out _).mono ?_; rintro e w' ⟨rfl, rfl⟩) | (refine (HC2.out _).mono ?_; rintro e w' ⟨rfl, rfl⟩))
    | (go_at_call 19; refine (hsave_any Q1.out).mono ?_; rintro e w2 ⟨rfl, hb2⟩; have Q2 := Lib.hid (Q1.out.below hb2); have HB2 := Lib.hid (HB1.out.trans (hb2.mono HB1.out.size)); clear hb2))
  refine (back_any Q2.out d b (by omega) (by omega) HB2.out.size).mono ?_
  rintro e w3 ⟨A1, n, c1, l, K, rfl, hS, hn⟩
  have hlF := hS.st.all hn
  subst hlF
  obtain ⟨F, hF⟩ : ∃ F, F = tW d b L := ⟨_, rfl⟩
  rw [← hF] at hS
  have hnF : n = F.length := by rw [hS.row.len, sv_length]
  have hnl : n ≤ 20 := by rw [hnF, hF]; unfold tW; have := List.length_filter_le (hasW d b) L; omega
  have HB3 := Lib.hid (below_of_chg HB2.out Q2.out.lo hS.ch)
  have HS := Lib.hid hS
  have HFE := Lib.hid hF
  have HNF := Lib.hid hnF
  clear hS hn hF hnF
  go_wp2_with (fail)
  refine (told_yes HS.out.q 1000).mono ?_
  rintro e w4 ⟨A5, c5, rfl, ho5, hb5⟩
  rw [List.take_of_length_le (by omega)] at ho5 ⊢
  have HO5 := Lib.hid ho5
  have HB5 := Lib.hid hb5
  clear ho5 hb5
  go_wp2_with (fail)
  have hsz4 : w.heap.size ≤ w4.heap.size := Nat.le_trans HB3.out.size HB5.out.size
  go_loopw [12, 13] (fun u v wr => ∃ k A6 n6 c6, v = .int .i64 (k : Nat) ∧ u = .slice A6 n6 c6 ∧ k ≤ L.length ∧ OR wr w4.heap.size 9 A6 n6 c6 (sv (tW d b (L.take k))) ∧ Below w4.heap.size w4 wr) (fun _ v _ => L.length - (intOf v).toNat)
  case atStart => exact ⟨0, none, 0, 0, rfl, rfl, by omega, OR.none_ _ _ _, Below.refl _ _⟩
  case round =>
    obtain ⟨k, A6, n6, c6, rfl, rfl, hk, hrow, hbr⟩ := hrel
    have HROW := Lib.hid hrow
    have HBr := Lib.hid hbr
    have hn6 : n6 ≤ 20 := by
      have h1 := hrow.len
      rw [sv_length] at h1
      have h2 := List.length_filter_le (hasW d b) (L.take k)
      rw [List.length_take] at h2
      unfold tW at h1; omega
    clear hrow hbr
    by_cases hlt : k < L.length
    · have hki : (k : Int) < L.length := by omega
      obtain ⟨bb, off, hA2, hbb, hcell0⟩ := hsv_at HO5.out.sl hlt
      subst hA2
      have hcell : wr.cell? ⟨bb, off + k, none⟩ = some (.string ⟨(L[k]).toArray⟩) := (HBr.out.cell (p := ⟨bb, off + k, none⟩) hbb).trans hcell0
      have hx3 : (L[k]).length ≤ 3000 := hok _ (List.getElem_mem hlt)
      have hsn := tW_snoc (d := d) (b := b) (List.getElem?_eq_getElem hlt)
      have HSN := Lib.hid hsn
      generalize L[k] = x at hcell hx3 HSN
      have HOF := Lib.hid (rof14_any x d b (by omega) (by omega))
      clear hcell0 hsn
      cases hv : hasW d b x with
      | false =>
        rw [hv] at HOF HSN
        clear hv
        go_wp2_with (go_at_call 21; refine (HOF.out _).mono ?_; rintro e w' ⟨rfl, rfl⟩)
        go_roundw
        case rel => exact ⟨k + 1, A6, n6, c6, by go_num, rfl, by omega, by rw [HSN.out]; simpa using HROW.out, HBr.out⟩
        case measure => simp [intOf]; omega
      | true =>
        rw [hv] at HOF HSN
        clear hv
        obtain ⟨A7, c7, w7, hrun, hO7, hg7, hat7⟩ := run_app Tryd.underlying27 str_info rfl (by omega) (wr.alloc (.cells #[.string ⟨x.toArray⟩] 9)) 27 w4.heap.size A6 n6 c6 _ (HROW.out.alloc _) (some ⟨wr.heap.size, 0, none⟩) 1 1 [.string ⟨x.toArray⟩] (wr.heap.size + 1) (Sl.new wr #[.string ⟨x.toArray⟩] 9) rfl (fun e => by cases e) (by intro u hu; simp at hu; subst hu; rfl) (n6 + 1) rfl (by omega) (by have := HBr.out.size; simp; omega)
        have hb7 : Below w4.heap.size w4 w7 := (HBr.out.alloc HBr.out.size _).grown hg7 (by have := HBr.out.size; simp; omega) (fun g hg => (HROW.out.blk_lt g hg).1)
        have HR := Lib.hid hrun
        have HO7 := Lib.hid hO7
        have HB7 := Lib.hid hb7
        clear hrun hO7 hg7 hat7 hb7
        go_wp2_with (first
          | (go_at_call 21; refine (HOF.out _).mono ?_; rintro e w' ⟨rfl, rfl⟩)
          | ((with_reducible refine at_dst 59 ?_); refine wpList_run 27 27 rfl (.tmp 53) (.tmp 58) rfl _ _ _ _ rfl rfl HR.out ?_))
        go_roundw
        case rel => exact ⟨k + 1, A7, n6 + 1, c7, by go_num, rfl, by omega, by rw [HSN.out]; simp only [if_true, sv_snoc]; exact HO7.out, HB7.out⟩
        case measure => simp [intOf]; omega
    · have hki : ¬ (k : Int) < L.length := by omega
      obtain rfl : k = L.length := by omega
      have hrow2 := HROW.out
      rw [List.take_length, ← HFE.out] at hrow2
      have hn6F : n6 = F.length := by rw [hrow2.len, sv_length]
      have HBr3 := Lib.hid (HB5.out.trans (HBr.out.mono HB5.out.size))
      have hsA : Sl wr wr.heap.size A1 (sv F) := (HS.out.row.sl.below HBr3.out).more HBr3.out.size
      have HSM := Lib.hid (sameall_any F n n6 A1 A6 c1 c6 wr (by have := HNF.out; omega) HNF.out hn6F hsA hrow2.sl)
      have HQR := Lib.hid (HS.out.q.below HBr3.out)
      have HRR := Lib.hid (HS.out.row.below HBr3.out (fun g hg => (HS.out.row.blk_lt g hg).2))
      have HBW := Lib.hid (HB3.out.trans (HBr3.out.mono HB3.out.size))
      clear hrow2 hn6F hsA HROW
      go_wp2_with (go_at_call 22; refine HSM.out.mono ?_; rintro e w8 ⟨rfl, hb8⟩; have HQ8 := Lib.hid (HQR.out.below hb8); have HR8 := Lib.hid (HRR.out.below hb8 (fun g hg => (HRR.out.blk_lt g hg).2)); have HB8 := Lib.hid (HBW.out.trans (hb8.mono HBW.out.size)); clear hb8)
      have hnF := HNF.out
      have HST : Hid (StW d b L (F.take n) K) := Lib.hid (by rw [HNF.out, List.take_length]; exact HS.out.st)
      have HAP : Hid (∀ g, blk A1 = some g → ¬ one h g) := Lib.hid (fun g hg e => HS.out.apart g hg (.inl e))
      have HNF2 := Lib.hid hnF
      clear hnF HBr3 HQR HRR HBW HSM HBr HS HO5 HB5 HB3 Q2 Q1 HB1
      go_loopw [14] (fun v wq => ∃ t K2, v = .int .i64 (((t : Nat) : Int) - 2) ∧ t ≤ n ∧ (t = 0 → n = 0) ∧ StW d b L (F.take t) K2 ∧ HsAt wq w.heap.size h A c 20 L K2 ∧ OR wq w2.heap.size 9 A1 n c1 (sv F) ∧ Below w.heap.size w wq) (fun v _ => (intOf v + 1).toNat)
      case atStart => exact ⟨n, K, rfl, Nat.le_refl _, id, HST.out, HQ8.out, HR8.out, HB8.out⟩
      case round =>
        obtain ⟨t, K2, rfl, htn, ht0, hst, hq, hrow, hbw⟩ := hrel
        have HST2 := Lib.hid hst
        have HQ2 := Lib.hid hq
        have HROW2 := Lib.hid hrow
        have HBW2 := Lib.hid hbw
        clear hst hq hrow hbw
        by_cases h2 : 2 ≤ t
        · obtain ⟨i, rfl⟩ : ∃ i, t = i + 2 := ⟨t - 2, by omega⟩
          rw [show ((i + 2 : Nat) : Int) - 2 = (i : Int) by omega]
          have hii : (i : Int) ≥ 0 := by omega
          have hin : (i : Int) < n := by omega
          have hiF : i < F.length := by rw [← HNF2.out]; omega
          have HNW := Lib.hid (newer_step HQ2.out HBW2.out.size HST2.out (by rw [← HNF2.out]; exact htn))
          go_wp2_with (fail)
          refine HNW.out.mono ?_
          rintro e w9 ⟨y, K3, rfl, hy, hst3, hq3, hc3⟩
          have hr9 := HROW2.out.chgH hc3 HAP.out
          obtain ⟨bb, off, hA1, _, hcell⟩ := hs_at hr9.sl hy
          subst hA1
          have HST3 := Lib.hid hst3
          have HQ3 := Lib.hid hq3
          have HR9 := Lib.hid hr9
          have HB9 := Lib.hid (below_of_chg HBW2.out HQ2.out.lo hc3)
          clear hst3 hq3 hc3 hr9 hy HNW
          go_wp2_with (fail)
          go_roundw
          case rel => exact ⟨i + 1, K3, by congr 1; omega, by omega, by omega, HST3.out, HQ3.out, HR9.out, HB9.out⟩
          case measure => simp [intOf]
        · have hii : ¬ ((t : Nat) : Int) - 2 ≥ 0 := by omega
          have hcase : t = 0 ∨ t = 1 := by omega
          rcases hcase with rfl | rfl
          · have hn0 := ht0 rfl
            subst hn0
            have hk := HST2.out
            rw [List.take_zero] at hk
            obtain rfl := hk.zero
            have HQA := Lib.hid HQ2.out
            clear hk htn ht0 hii
            go_wp2_with (fail)
            refine (hnewer_none HQA.out).mono ?_
            rintro e w9 ⟨rfl, hb9⟩
            have HQB := Lib.hid (HQA.out.below hb9)
            have HBB := Lib.hid (HBW2.out.trans (hb9.mono HBW2.out.size))
            clear hb9
            go_wp2_with (fail)
            refine (hnewer_none HQB.out).mono ?_
            rintro e w10 ⟨rfl, hb10⟩
            have HQC := Lib.hid (HQB.out.below hb10)
            have HBC := Lib.hid (HBB.out.trans (hb10.mono HBB.out.size))
            clear hb10
            go_wp2_with (first
              | (go_at_call 19; refine (hsave_any HQC.out).mono ?_; rintro e w11 ⟨rfl, hb11⟩; have HBD := Lib.hid (HBC.out.trans (hb11.mono HBC.out.size)); clear hb11)
              | (go_at_call 10; refine (hawake_any _ (HT.out.below HBD.out)).mono ?_; rintro e w12 ⟨rfl, hb12⟩))
            go_ret
            exact ⟨rfl, HBD.out.trans (hb12.mono HBD.out.size)⟩
          · have hn1 : 0 < (n : Int) := by omega
            have HNL := Lib.hid (newer_last HQ2.out HBW2.out.size HST2.out (by rw [← HNF2.out]; exact htn))
            clear htn ht0 hii
            go_wp2_with (fail)
            refine HNL.out.mono ?_
            rintro e w9 ⟨rfl, hq9, hc9⟩
            have HQB := Lib.hid hq9
            have HBB := Lib.hid (below_of_chg HBW2.out HQ2.out.lo hc9)
            clear hq9 hc9
            go_wp2_with (fail)
            refine (hnewer_none HQB.out).mono ?_
            rintro e w10 ⟨rfl, hb10⟩
            have HQC := Lib.hid (HQB.out.below hb10)
            have HBC := Lib.hid (HBB.out.trans (hb10.mono HBB.out.size))
            clear hb10
            go_wp2_with (first
              | (go_at_call 19; refine (hsave_any HQC.out).mono ?_; rintro e w11 ⟨rfl, hb11⟩; have HBD := Lib.hid (HBC.out.trans (hb11.mono HBC.out.size)); clear hb11)
              | (go_at_call 10; refine (hawake_any _ (HT.out.below HBD.out)).mono ?_; rintro e w12 ⟨rfl, hb12⟩))
            go_ret
            exact ⟨rfl, HBD.out.trans (hb12.mono HBD.out.size)⟩
end Go.Proofs.YtfjifbacclkmmaaDoor
