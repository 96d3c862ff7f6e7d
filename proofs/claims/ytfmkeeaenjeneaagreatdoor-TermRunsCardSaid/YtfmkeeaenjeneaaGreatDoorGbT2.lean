/-
  Walk: takeRune.
  Walks: cutSequence, cutEscape.
  Walks: restyled, areNumbers.
  Walks: the unprocessed bytes: add, waiting, drop.
  Walk: drop.
-/
import Derived.Test.YtfmkeeaenjeneaaGreatDoorGbT1
import Derived.Test.YtfmkeeaenjeneaaGreatDoorRows
import Derived.Test.YtfmkeeaenjeneaaGreatDoorGfA
namespace Go.Proofs.YtfmkeeaenjeneaaGreatDoor
open Go.RowKit
set_option linter.unusedVariables false
set_option linter.unusedSimpArgs false

section
variable {w : World} {lo t g rb : Nat} {bs : List Nat} {T : TS} {B : List UInt8}
theorem TmStep.of_base {w' : World} (h : TmStep w lo t g rb bs T B w') : ∃ bs', TmAt w' lo t g rb bs' T B ∧ (∀ k, GrOwn g rb bs' k → GrOwn g rb bs k ∨ w.heap.size ≤ k) ∧ Chg (TmOwn t g rb bs) w w' := h
theorem putU_grid (T : TS) (b : List UInt8) (k : Nat) (h : T.row < T.L.length) (hc : T.col < T.W) (hk : 1 ≤ k) : (putU T b k).W = T.W ∧ (putU T b k).joins = T.joins := by
  unfold putU
  split
  · exact ⟨rfl, rfl⟩
  · refine ⟨?_, rfl⟩
    show (fedT T k).W = T.W
    unfold fedT
    split
    · exact (feedT_W _).1
    · rfl

set_option maxRecDepth 100000 in
set_option maxHeartbeats 8000000 in
theorem rune_term (h : TmAt w lo t g rb bs T B) (hbase : Base w lo) (l : List UInt8) (A : Option Addr) (n cap : Nat) (hn : n = l.length) (hl : l.length ≤ 1000) (Bn : Nat) (hS : Sl w Bn A (bv l)) (hBn : Bn ≤ w.heap.size) :
    Calls Tryz.prog 52 #[.pointer (some ⟨t, 0, none⟩), .slice A n cap] w fun e w' => e = .returned (.int .i64 (if (nx l).2.2 = true then 0 else (nx l).2.1)) ∧ TmStep w lo t g rb bs (if (nx l).2.2 = true then T else runeT T (nx l).1) B w' := by
  have HNX := Lib.hid (next_any A n cap l Bn w hn (by omega) hS)
  unfold nv at HNX
  have H := Lib.hid h
  have HBS := Lib.hid hbase
  obtain ⟨r, hr⟩ : ∃ r, r = (nx l).1 := ⟨_, rfl⟩
  obtain ⟨m, hm⟩ : ∃ m, m = (nx l).2.1 := ⟨_, rfl⟩
  obtain ⟨d, hd⟩ : ∃ d, d = (nx l).2.2 := ⟨_, rfl⟩
  rw [← hr, ← hm, ← hd] at HNX ⊢
  clear hr hm hd h hbase hS hn
  cases d
  · rw [if_neg (by decide), if_neg (by decide)]
    have hof := ofI_01 r
    by_cases h0 : 0 < ofI r
    · obtain ⟨k, hk⟩ : ∃ k : Nat, ofI r = k := ⟨(ofI r).toNat, by omega⟩
      have hk1 : 1 ≤ k := by omega
      have hk2 : k ≤ 2 := by omega
      have HE : Hid (runeT T r = printT T (enc (rfix r)) k) := Lib.hid (by unfold runeT; rw [if_pos h0, hk]; rfl)
      have HOF := Lib.hid (fun w hT => hk ▸ of_any r w hT)
      have hki : (0 : Int) < (k : Int) := by omega
      have HK := Lib.hid hk
      clear hk h0 hof
      go_enter Tryz.func52, Tryz.ntmps52
      go_wp2_with (fail)
      refine HNX.out.mono ?_
      rintro e w1 ⟨rfl, hb1⟩
      have HB1 := Lib.hid hb1
      have HBS1 := Lib.hid (HBS.out.below hb1)
      have H1 := Lib.hid (H.out.below hb1)
      clear hb1
      go_wp2_with (fail)
      refine (HOF.out _ HBS1.out.tb).mono ?_
      rintro e w2 ⟨rfl, hb2⟩
      have HB2 := Lib.hid (HB1.out.trans (hb2.mono HB1.out.size))
      have HBS2 := Lib.hid (HBS1.out.below hb2)
      have H2 := Lib.hid (H1.out.below hb2)
      clear hb2
      go_wp2_with (fail)
      refine (put_term H2.out HBS2.out r k HK.out hk1 hk2).mono ?_
      rintro e w3 ⟨rfl, bs3, h3, ho3, hc3⟩
      obtain ⟨xs, hx1, hx2, hx3⟩ := h3.blk
      have H3 := Lib.hid h3
      have HO3 := Lib.hid ho3
      have HC3 := Lib.hid hc3
      have HX1 := Lib.hid hx1
      have HX2 := Lib.hid hx2
      have HX3 := Lib.hid hx3
      have HPP := Lib.hid (putU_print T (enc (rfix r)) k)
      have HROW3 := Lib.hid h3.row
      have HCOL3 := Lib.hid h3.col
      generalize putU T (enc (rfix r)) k = U at *
      generalize decide (k ≤ T.W) = q at *
      clear h3 ho3 hc3 hx1 hx2 hx3
      go_wp2_with ((with_reducible refine at_store 30 ?_); refine wpList_store_cell rfl _ _ _ rfl rfl t 16 _ (tmc t g U xs B.length) (.bool q) rfl rfl HX3.out (by simp [tmc, stc]) (by kernel_rfl) rfl ?_; intro w4 hn4 hg4; have HN4 : Hid (Blk w4 t 63 (tmc t g { U with joins := q } xs B.length)) := Lib.hid hn4; have HG4 := Lib.hid hg4; clear hn4 hg4)
      go_ret
      refine ⟨rfl, ?_⟩
      rw [HE.out, ← HPP.out]
      exact TmStep.bel_then HB2.out (TmStep.trans HO3.out HC3.out (H3.out.wrote (chg_one HG4.out) HX1.out HX2.out H3.out.b32 HN4.out rfl rfl HROW3.out HCOL3.out))
    · have hk : ofI r = 0 := by omega
      have HOF := Lib.hid (fun w hT => hk ▸ of_any r w hT)
      have HMK := Lib.hid (mark_any r)
      have hq : (mkB r = true ∧ runeT T r = markT T (enc (rfix r))) ∨ (mkB r = false ∧ runeT T r = { T with joins := false }) := by
        unfold runeT
        rw [if_neg h0]
        by_cases hm : mkB r = true
        · exact .inl ⟨hm, if_pos hm⟩
        · exact .inr ⟨by simpa using hm, if_neg hm⟩
      have HQ := Lib.hid hq
      clear hk h0 hof hq
      rcases HQ.out with ⟨hm, he⟩ | ⟨hm, he⟩
      · rw [hm] at HMK
        have HE := Lib.hid he
        clear hm he HQ
        go_enter Tryz.func52, Tryz.ntmps52
        go_wp2_with (fail)
        refine HNX.out.mono ?_
        rintro e w1 ⟨rfl, hb1⟩
        have HB1 := Lib.hid hb1
        have HBS1 := Lib.hid (HBS.out.below hb1)
        have H1 := Lib.hid (H.out.below hb1)
        clear hb1
        go_wp2_with (fail)
        refine (HOF.out _ HBS1.out.tb).mono ?_
        rintro e w2 ⟨rfl, hb2⟩
        have HB2 := Lib.hid (HB1.out.trans (hb2.mono HB1.out.size))
        have HBS2 := Lib.hid (HBS1.out.below hb2)
        have H2 := Lib.hid (H1.out.below hb2)
        clear hb2
        go_wp2_with (fail)
        refine (HMK.out _ HBS2.out.tb).mono ?_
        rintro e w3 ⟨rfl, hb3⟩
        have HB3 := Lib.hid (HB2.out.trans (hb3.mono HB2.out.size))
        have HBS3 := Lib.hid (HBS2.out.below hb3)
        have H3 := Lib.hid (H2.out.below hb3)
        clear hb3
        go_wp2_with (fail)
        refine (join_term H3.out HBS3.out r).mono ?_
        rintro e w4 ⟨rfl, hst⟩
        have HST := Lib.hid hst
        clear hst
        go_wp2_with (fail)
        go_ret
        refine ⟨rfl, ?_⟩
        rw [HE.out]
        exact TmStep.bel_then HB3.out HST.out
      · rw [hm] at HMK
        have HE := Lib.hid he
        clear hm he HQ
        go_enter Tryz.func52, Tryz.ntmps52
        go_wp2_with (fail)
        refine HNX.out.mono ?_
        rintro e w1 ⟨rfl, hb1⟩
        have HB1 := Lib.hid hb1
        have HBS1 := Lib.hid (HBS.out.below hb1)
        have H1 := Lib.hid (H.out.below hb1)
        clear hb1
        go_wp2_with (fail)
        refine (HOF.out _ HBS1.out.tb).mono ?_
        rintro e w2 ⟨rfl, hb2⟩
        have HB2 := Lib.hid (HB1.out.trans (hb2.mono HB1.out.size))
        have HBS2 := Lib.hid (HBS1.out.below hb2)
        have H2 := Lib.hid (H1.out.below hb2)
        clear hb2
        go_wp2_with (fail)
        refine (HMK.out _ HBS2.out.tb).mono ?_
        rintro e w3 ⟨rfl, hb3⟩
        have HB3 := Lib.hid (HB2.out.trans (hb3.mono HB2.out.size))
        have H3 := Lib.hid (H2.out.below hb3)
        clear hb3
        obtain ⟨xs, hx1, hx2, hx3⟩ := H3.out.blk
        have HX1 := Lib.hid hx1
        have HX2 := Lib.hid hx2
        have HX3 := Lib.hid hx3
        clear hx1 hx2 hx3
        go_wp2_with ((with_reducible refine at_store 17 ?_); refine wpList_store_cell rfl _ _ _ rfl rfl t 16 _ (tmc t g T xs B.length) (.bool false) rfl rfl HX3.out (by simp [tmc, stc]) (by kernel_rfl) rfl ?_; intro w4 hn4 hg4; have HN4 : Hid (Blk w4 t 63 (tmc t g { T with joins := false } xs B.length)) := Lib.hid hn4; have HG4 := Lib.hid hg4; clear hn4 hg4)
        go_ret
        refine ⟨rfl, ?_⟩
        rw [HE.out]
        exact TmStep.bel_then HB3.out (H3.out.wrote (chg_one HG4.out) HX1.out HX2.out H3.out.b32 HN4.out rfl rfl H3.out.row H3.out.col)
  · rw [if_pos rfl, if_pos rfl]
    go_enter Tryz.func52, Tryz.ntmps52
    go_wp2_with (fail)
    refine HNX.out.mono ?_
    rintro e w1 ⟨rfl, hb1⟩
    have HB1 := Lib.hid hb1
    clear hb1
    go_wp2_with fail
    go_ret
    exact ⟨rfl, TmStep.bel H.out HB1.out⟩
end
end Go.Proofs.YtfmkeeaenjeneaaGreatDoor

namespace Go.Proofs.YtfmkeeaenjeneaaGreatDoor
open Go.RowKit
set_option linter.unusedVariables false
set_option linter.unusedSimpArgs false

theorem span_yes {p : UInt8 → Bool} {l : List UInt8} {k : Nat} (h : k < l.length) (hp : p l[k] = true) : spanN p (l.drop k) = spanN p (l.drop (k + 1)) + 1 := by
  unfold spanN
  rw [List.drop_eq_getElem_cons h, List.takeWhile_cons, if_pos hp, List.length_cons]
theorem span_no {p : UInt8 → Bool} {l : List UInt8} {k : Nat} (h : k < l.length) (hp : p l[k] = false) : spanN p (l.drop k) = 0 := by
  unfold spanN
  rw [List.drop_eq_getElem_cons h, List.takeWhile_cons, if_neg (by rw [hp]; decide)]
  rfl
theorem span_end {p : UInt8 → Bool} {l : List UInt8} {k : Nat} (h : l.length ≤ k) : spanN p (l.drop k) = 0 := by
  rw [List.drop_eq_nil_of_le h]; rfl
theorem par_iff (c : UInt8) : isPar c = (decide (48 ≤ (c.toNat : Int)) && decide ((c.toNat : Int) ≤ 63)) := by
  unfold isPar
  rw [Bool.eq_iff_iff]
  simp [UInt8.le_iff_toNat_le]
  omega
theorem mid_iff (c : UInt8) : isMid c = (decide (32 ≤ (c.toNat : Int)) && decide ((c.toNat : Int) ≤ 47)) := by
  unfold isMid
  rw [Bool.eq_iff_iff]
  simp [UInt8.le_iff_toNat_le]
  omega
theorem fin_iff (c : UInt8) : isFin c = (decide (64 ≤ (c.toNat : Int)) && decide ((c.toNat : Int) ≤ 126)) := by
  unfold isFin
  rw [Bool.eq_iff_iff]
  simp [UInt8.le_iff_toNat_le]
  omega
theorem u8b (c : UInt8) : 0 ≤ (c.toNat : Int) ∧ (c.toNat : Int) ≤ 255 := by
  have := c.toNat_lt
  omega

set_option maxRecDepth 100000 in
set_option maxHeartbeats 8000000 in
theorem cutS_any (l : List UInt8) (h2 : 2 ≤ l.length) (h32 : l.length ≤ 32) (A : Option Addr) (n cap : Nat) (hn : n = l.length) (w : World) (Bn : Nat) (hS : Sl w Bn A (bv l)) :
    Calls Tryz.prog 96 #[.slice A n cap] w fun e w' => e = .returned (.tuple #[.int .i64 (cutS l).1, .bool (cutS l).2]) ∧ w = w' := by
  subst hn
  obtain ⟨bk, off, rfl, _, hcell⟩ := hS.open_ (by rw [bv_length]; omega)
  have HC := Lib.hid (show ∀ k (hk : k < l.length), w.cell? ⟨bk, off + k, none⟩ = some (.int .u8 l[k].toNat) from fun k hk => hcell k _ (bv_get hk))
  obtain ⟨R, hR⟩ : ∃ R, R = cutS l := ⟨_, rfl⟩
  rw [← hR]
  have HR := Lib.hid hR
  clear hR hcell hS
  go_enter Tryz.func96, Tryz.ntmps96
  go_wp2
  go_loop [2] (fun v2 => ∃ k : Nat, v2 = .int .i64 k ∧ 2 ≤ k ∧ k ≤ l.length ∧ parN l = k + spanN isPar (l.drop k)) (fun v2 => l.length - (intOf v2).toNat)
  case atStart => exact ⟨2, rfl, by omega, by omega, rfl⟩
  case round =>
    obtain ⟨k, rfl, hk2, hkl, hp⟩ := hrel
    have HP := Lib.hid hp
    clear hp
    by_cases hlt : k < l.length
    · have hki : (k : Int) < (l.length : Int) := by omega
      have hx := HC.out k hlt
      have hbd := u8b l[k]
      have hpi := par_iff l[k]
      have HY := Lib.hid (fun h => span_yes (p := isPar) hlt h)
      have HNO := Lib.hid (fun h => span_no (p := isPar) hlt h)
      have hc : (48 ≤ (l[k].toNat : Int) ∧ (l[k].toNat : Int) ≤ 63) ∨ (l[k].toNat : Int) < 48 ∨ (48 ≤ (l[k].toNat : Int) ∧ 63 < (l[k].toNat : Int)) := by omega
      generalize l[k] = c at hx hbd hpi HY HNO hc
      rcases hc with ⟨h1, h3⟩ | h1 | ⟨h1, h3⟩
      · have HP2 := Lib.hid (show parN l = (k + 1) + spanN isPar (l.drop (k + 1)) by rw [HP.out, HY.out (by rw [hpi]; simp [h1, h3])]; omega)
        clear hpi HY HNO
        go_wp2
        go_round
        case rel => exact ⟨k + 1, by go_num, by omega, by omega, HP2.out⟩
        case measure => simp [intOf]; omega
      all_goals
        have HK := Lib.hid (show parN l = k by rw [HP.out, HNO.out (by rw [hpi]; simp; omega), Nat.add_zero])
        clear hpi HY HNO
        go_wp2
        go_loop [2] (fun v2 => ∃ j : Nat, v2 = .int .i64 j ∧ 2 ≤ j ∧ j ≤ l.length ∧ midN l = j + spanN isMid (l.drop j)) (fun v2 => l.length - (intOf v2).toNat)
        case atStart => exact ⟨k, rfl, by omega, by omega, by unfold midN; rw [HK.out]⟩
        case round =>
          obtain ⟨j, rfl, hj2, hjl, hq⟩ := hrel
          have HQ := Lib.hid hq
          clear hq
          by_cases hjt : j < l.length
          · have hji : (j : Int) < (l.length : Int) := by omega
            have hjn : ¬ (j : Int) = (l.length : Int) := by omega
            have hjb : ((j : Int) == (l.length : Int)) = false := by simpa using hjn
            have hx := HC.out j hjt
            have hbd := u8b l[j]
            have hpi := mid_iff l[j]
            have hfi := fin_iff l[j]
            have HY := Lib.hid (fun h => span_yes (p := isMid) hjt h)
            have HNO := Lib.hid (fun h => span_no (p := isMid) hjt h)
            have HG := Lib.hid (show l[j]? = some l[j] from List.getElem?_eq_getElem hjt)
            have hc : (32 ≤ (l[j].toNat : Int) ∧ (l[j].toNat : Int) ≤ 47) ∨ (l[j].toNat : Int) < 32 ∨ (32 ≤ (l[j].toNat : Int) ∧ 47 < (l[j].toNat : Int) ∧ (l[j].toNat : Int) < 64) ∨ (32 ≤ (l[j].toNat : Int) ∧ 47 < (l[j].toNat : Int) ∧ 64 ≤ (l[j].toNat : Int) ∧ (l[j].toNat : Int) ≤ 126) ∨ (32 ≤ (l[j].toNat : Int) ∧ 47 < (l[j].toNat : Int) ∧ 64 ≤ (l[j].toNat : Int) ∧ 126 < (l[j].toNat : Int)) := by omega
            generalize l[j] = c at hx hbd hpi hfi HY HNO HG hc
            rcases hc with ⟨h1, h3⟩ | h1 | ⟨h1, h3, h4⟩ | ⟨h1, h3, h4, h5⟩ | ⟨h1, h3, h4, h5⟩
            · have HP2 := Lib.hid (show midN l = (j + 1) + spanN isMid (l.drop (j + 1)) by rw [HQ.out, HY.out (by rw [hpi]; simp [h1, h3])]; omega)
              clear hpi hfi HY HNO HG
              go_wp2
              go_round
              case rel => exact ⟨j + 1, by go_num, by omega, by omega, HP2.out⟩
              case measure => simp [intOf]; omega
            · have HM := Lib.hid (show midN l = j by rw [HQ.out, HNO.out (by rw [hpi]; simp; omega), Nat.add_zero])
              have HE := Lib.hid (show R = (j, false) by rw [HR.out]; unfold cutS; rw [HM.out, if_neg (by omega), HG.out]; simp only; rw [if_neg (by rw [hfi]; simp; omega)])
              clear hpi hfi HY HNO HG
              go_wp2
              go_ret2
              exact ⟨(by rw [HE.out]; try rfl), rfl⟩
            · have HM := Lib.hid (show midN l = j by rw [HQ.out, HNO.out (by rw [hpi]; simp; omega), Nat.add_zero])
              have HE := Lib.hid (show R = (j, false) by rw [HR.out]; unfold cutS; rw [HM.out, if_neg (by omega), HG.out]; simp only; rw [if_neg (by rw [hfi]; simp; omega)])
              clear hpi hfi HY HNO HG
              go_wp2
              go_ret2
              exact ⟨(by rw [HE.out]; try rfl), rfl⟩
            · have HM := Lib.hid (show midN l = j by rw [HQ.out, HNO.out (by rw [hpi]; simp; omega), Nat.add_zero])
              have HE := Lib.hid (show R = (j + 1, true) by rw [HR.out]; unfold cutS; rw [HM.out, if_neg (by omega), HG.out]; simp only; rw [if_pos (by rw [hfi]; simp; omega)])
              clear hpi hfi HY HNO HG
              go_wp2
              go_ret2
              exact ⟨(by rw [HE.out]; try rfl), rfl⟩
            · have HM := Lib.hid (show midN l = j by rw [HQ.out, HNO.out (by rw [hpi]; simp; omega), Nat.add_zero])
              have HE := Lib.hid (show R = (j, false) by rw [HR.out]; unfold cutS; rw [HM.out, if_neg (by omega), HG.out]; simp only; rw [if_neg (by rw [hfi]; simp; omega)])
              clear hpi hfi HY HNO HG
              go_wp2
              go_ret2
              exact ⟨(by rw [HE.out]; try rfl), rfl⟩
          · have hji : ¬ (j : Int) < (l.length : Int) := by omega
            have HM := Lib.hid (show midN l = j by rw [HQ.out, span_end (by omega), Nat.add_zero])
            obtain rfl : j = l.length := by omega
            by_cases hj32 : l.length < 32
            · have hj32i : (l.length : Int) < 32 := by omega
              have HE := Lib.hid (show R = (0, false) by rw [HR.out]; unfold cutS; rw [HM.out, if_neg (by omega), List.getElem?_eq_none (by omega)])
              go_wp2
              go_ret2
              exact ⟨(by rw [HE.out]; try rfl), rfl⟩
            · have hj32i : ¬ (l.length : Int) < 32 := by omega
              have HE := Lib.hid (show R = (l.length, false) by rw [HR.out]; unfold cutS; rw [HM.out, if_pos (by omega), show l.length = 32 by omega])
              go_wp2
              go_ret2
              exact ⟨(by rw [HE.out]; try rfl), rfl⟩
    · have hki : ¬ (k : Int) < (l.length : Int) := by omega
      have HK := Lib.hid (show parN l = k by rw [HP.out, span_end (by omega), Nat.add_zero])
      go_wp2
      go_loop [2] (fun v2 => ∃ j : Nat, v2 = .int .i64 j ∧ 2 ≤ j ∧ j ≤ l.length ∧ midN l = j + spanN isMid (l.drop j)) (fun v2 => l.length - (intOf v2).toNat)
      case atStart => exact ⟨k, rfl, by omega, by omega, by unfold midN; rw [HK.out]⟩
      case round =>
        obtain ⟨j, rfl, hj2, hjl, hq⟩ := hrel
        have HQ := Lib.hid hq
        clear hq
        by_cases hjt : j < l.length
        · have hji : (j : Int) < (l.length : Int) := by omega
          have hjn : ¬ (j : Int) = (l.length : Int) := by omega
          have hjb : ((j : Int) == (l.length : Int)) = false := by simpa using hjn
          have hx := HC.out j hjt
          have hbd := u8b l[j]
          have hpi := mid_iff l[j]
          have hfi := fin_iff l[j]
          have HY := Lib.hid (fun h => span_yes (p := isMid) hjt h)
          have HNO := Lib.hid (fun h => span_no (p := isMid) hjt h)
          have HG := Lib.hid (show l[j]? = some l[j] from List.getElem?_eq_getElem hjt)
          have hc : (32 ≤ (l[j].toNat : Int) ∧ (l[j].toNat : Int) ≤ 47) ∨ (l[j].toNat : Int) < 32 ∨ (32 ≤ (l[j].toNat : Int) ∧ 47 < (l[j].toNat : Int) ∧ (l[j].toNat : Int) < 64) ∨ (32 ≤ (l[j].toNat : Int) ∧ 47 < (l[j].toNat : Int) ∧ 64 ≤ (l[j].toNat : Int) ∧ (l[j].toNat : Int) ≤ 126) ∨ (32 ≤ (l[j].toNat : Int) ∧ 47 < (l[j].toNat : Int) ∧ 64 ≤ (l[j].toNat : Int) ∧ 126 < (l[j].toNat : Int)) := by omega
          generalize l[j] = c at hx hbd hpi hfi HY HNO HG hc
          rcases hc with ⟨h1, h3⟩ | h1 | ⟨h1, h3, h4⟩ | ⟨h1, h3, h4, h5⟩ | ⟨h1, h3, h4, h5⟩
          · have HP2 := Lib.hid (show midN l = (j + 1) + spanN isMid (l.drop (j + 1)) by rw [HQ.out, HY.out (by rw [hpi]; simp [h1, h3])]; omega)
            clear hpi hfi HY HNO HG
            go_wp2
            go_round
            case rel => exact ⟨j + 1, by go_num, by omega, by omega, HP2.out⟩
            case measure => simp [intOf]; omega
          · have HM := Lib.hid (show midN l = j by rw [HQ.out, HNO.out (by rw [hpi]; simp; omega), Nat.add_zero])
            have HE := Lib.hid (show R = (j, false) by rw [HR.out]; unfold cutS; rw [HM.out, if_neg (by omega), HG.out]; simp only; rw [if_neg (by rw [hfi]; simp; omega)])
            clear hpi hfi HY HNO HG
            go_wp2
            go_ret2
            exact ⟨(by rw [HE.out]; try rfl), rfl⟩
          · have HM := Lib.hid (show midN l = j by rw [HQ.out, HNO.out (by rw [hpi]; simp; omega), Nat.add_zero])
            have HE := Lib.hid (show R = (j, false) by rw [HR.out]; unfold cutS; rw [HM.out, if_neg (by omega), HG.out]; simp only; rw [if_neg (by rw [hfi]; simp; omega)])
            clear hpi hfi HY HNO HG
            go_wp2
            go_ret2
            exact ⟨(by rw [HE.out]; try rfl), rfl⟩
          · have HM := Lib.hid (show midN l = j by rw [HQ.out, HNO.out (by rw [hpi]; simp; omega), Nat.add_zero])
            have HE := Lib.hid (show R = (j + 1, true) by rw [HR.out]; unfold cutS; rw [HM.out, if_neg (by omega), HG.out]; simp only; rw [if_pos (by rw [hfi]; simp; omega)])
            clear hpi hfi HY HNO HG
            go_wp2
            go_ret2
            exact ⟨(by rw [HE.out]; try rfl), rfl⟩
          · have HM := Lib.hid (show midN l = j by rw [HQ.out, HNO.out (by rw [hpi]; simp; omega), Nat.add_zero])
            have HE := Lib.hid (show R = (j, false) by rw [HR.out]; unfold cutS; rw [HM.out, if_neg (by omega), HG.out]; simp only; rw [if_neg (by rw [hfi]; simp; omega)])
            clear hpi hfi HY HNO HG
            go_wp2
            go_ret2
            exact ⟨(by rw [HE.out]; try rfl), rfl⟩
        · have hji : ¬ (j : Int) < (l.length : Int) := by omega
          have HM := Lib.hid (show midN l = j by rw [HQ.out, span_end (by omega), Nat.add_zero])
          obtain rfl : j = l.length := by omega
          by_cases hj32 : l.length < 32
          · have hj32i : (l.length : Int) < 32 := by omega
            have HE := Lib.hid (show R = (0, false) by rw [HR.out]; unfold cutS; rw [HM.out, if_neg (by omega), List.getElem?_eq_none (by omega)])
            go_wp2
            go_ret2
            exact ⟨(by rw [HE.out]; try rfl), rfl⟩
          · have hj32i : ¬ (l.length : Int) < 32 := by omega
            have HE := Lib.hid (show R = (l.length, false) by rw [HR.out]; unfold cutS; rw [HM.out, if_pos (by omega), show l.length = 32 by omega])
            go_wp2
            go_ret2
            exact ⟨(by rw [HE.out]; try rfl), rfl⟩

set_option maxRecDepth 100000 in
set_option maxHeartbeats 4000000 in
theorem cutE_any (l : List UInt8) (h1 : 1 ≤ l.length) (h32 : l.length ≤ 32) (A : Option Addr) (n cap : Nat) (hn : n = l.length) (w : World) (Bn : Nat) (hS : Sl w Bn A (bv l)) :
    Calls Tryz.prog 69 #[.slice A n cap] w fun e w' => e = .returned (.tuple #[.int .i64 (cutE l).1, .bool (cutE l).2]) ∧ w = w' := by
  by_cases hl1 : l.length = 1
  · subst hn
    have HE := Lib.hid (show cutE l = (0, false) by unfold cutE; rw [List.getElem?_eq_none (by omega)])
    rw [hl1]
    clear hS
    go_enter Tryz.func69, Tryz.ntmps69
    go_wp2
    go_ret2
    exact ⟨(by rw [HE.out]; try rfl), rfl⟩
  · have h2 : 2 ≤ l.length := by omega
    have HCS := Lib.hid (cutS_any l h2 h32 A n cap hn w Bn hS)
    subst hn
    obtain ⟨bk, off, rfl, _, hcell⟩ := hS.open_ (by rw [bv_length]; omega)
    have hx := hcell 1 _ (bv_get (show 1 < l.length by omega))
    have hbd := u8b l[1]
    have hlb : ((l.length : Int) == 1) = false := by
      have : ¬ (l.length : Int) = 1 := by omega
      simpa using this
    have hli : (1 : Int) < (l.length : Int) := by omega
    have h12 : 1 < l.length := by omega
    obtain ⟨x, hxe⟩ : ∃ x : UInt8, x = l[1]'h12 := ⟨_, rfl⟩
    have hE : cutE l = if x = 91 then cutS l else if (32 : UInt8) ≤ x ∧ x ≤ (126 : UInt8) then (2, false) else (1, false) := by
      unfold cutE
      rw [List.getElem?_eq_getElem h12, ← hxe]
    rw [← hxe] at hx hbd
    obtain ⟨R, hR⟩ : ∃ R, R = cutE l := ⟨_, rfl⟩
    rw [← hR] at hE ⊢
    obtain ⟨S, hSS⟩ : ∃ S, S = cutS l := ⟨_, rfl⟩
    rw [← hSS] at hE HCS
    have hcs : ((x.toNat : Int) = 91 ∧ R = S) ∨ ((x.toNat : Int) ≠ 91 ∧ 32 ≤ (x.toNat : Int) ∧ (x.toNat : Int) ≤ 126 ∧ R = (2, false)) ∨ ((x.toNat : Int) ≠ 91 ∧ (x.toNat : Int) < 32 ∧ R = (1, false)) ∨ ((x.toNat : Int) ≠ 91 ∧ 32 ≤ (x.toNat : Int) ∧ 126 < (x.toNat : Int) ∧ R = (1, false)) := by
      have e91 : x = 91 ↔ (x.toNat : Int) = 91 := by
        constructor
        · intro e; rw [e]; rfl
        · intro e; exact UInt8.toNat_inj.1 (by show x.toNat = 91; omega)
      have e32 : (32 : UInt8) ≤ x ↔ 32 ≤ (x.toNat : Int) := by rw [UInt8.le_iff_toNat_le]; constructor <;> intro e <;> simp at * <;> omega
      have e126 : x ≤ (126 : UInt8) ↔ (x.toNat : Int) ≤ 126 := by rw [UInt8.le_iff_toNat_le]; constructor <;> intro e <;> simp at * <;> omega
      by_cases a : (x.toNat : Int) = 91
      · exact .inl ⟨a, by rw [hE, if_pos (e91.2 a)]⟩
      · rw [if_neg (fun e => a (e91.1 e))] at hE
        by_cases b : 32 ≤ (x.toNat : Int)
        · by_cases c : (x.toNat : Int) ≤ 126
          · exact .inr (.inl ⟨a, b, c, by rw [hE, if_pos ⟨e32.2 b, e126.2 c⟩]⟩)
          · exact .inr (.inr (.inr ⟨a, b, by omega, by rw [hE, if_neg (fun h => c (e126.1 h.2))]⟩))
        · exact .inr (.inr (.inl ⟨a, by omega, by rw [hE, if_neg (fun h => b (e32.1 h.1))]⟩))
    clear hE hR hSS hcell hS hl1 hxe
    rcases hcs with ⟨h5, hr⟩ | ⟨h5, h6, h7, hr⟩ | ⟨h5, h6, hr⟩ | ⟨h5, h6, h7, hr⟩
    · have HR := Lib.hid hr
      clear hr
      go_enter Tryz.func69, Tryz.ntmps69
      go_wp2_with (fail)
      refine HCS.out.mono ?_
      rintro e w' ⟨rfl, rfl⟩
      go_wp2_with fail
      go_ret2
      exact ⟨(by rw [HR.out]; try rfl), rfl⟩
    all_goals
      have h5b : ((x.toNat : Int) == 91) = false := by simpa using h5
      have HR := Lib.hid hr
      clear hr h5
      go_enter Tryz.func69, Tryz.ntmps69
      go_wp2_with (fail)
      go_ret2
      exact ⟨(by rw [HR.out]; try rfl), rfl⟩
end Go.Proofs.YtfmkeeaenjeneaaGreatDoor

namespace Go.Proofs.YtfmkeeaenjeneaaGreatDoor
open Go.RowKit
set_option linter.unusedVariables false
set_option linter.unusedSimpArgs false

theorem tsty_size : (Tryz.prog.info? 31).map (·.size) = some 5 := by kernel_rfl
theorem tsty_one (y : Sty) : ∀ v ∈ y.cells, v.oneCell' = true := by
  intro v hv
  simp [Sty.cells] at hv
  rcases hv with rfl | rfl | rfl | rfl | rfl <;> rfl
theorem tsty_len (y : Sty) : y.cells.length = 5 := rfl
theorem tswhole {w : World} {g : Nat} {t : TypeId} {cs : List Value} (h : Blk w g t cs) : w.rangeAt g 0 cs := h.range 0 cs (fun j v hv => by simpa using hv)

set_option maxRecDepth 100000 in
set_option maxHeartbeats 16000000 in
theorem restyled_any (y : Sty) (n : Int) (h0 : 0 ≤ n) (h1 : n ≤ 9999) (w : World) :
    Calls Tryz.prog 100 #[.agg #[.bool y.b, .bool y.u, .bool y.i, .int .i64 y.f, .int .i64 y.g], .int .i64 n] w fun e w' => e = .returned (.agg (styT y n).cells.toArray) ∧ Below w.heap.size w w' := by
  obtain ⟨W0, hW0⟩ : ∃ W, W = (w.alloc (.cells #[.bool y.b, .bool y.u, .bool y.i, .int .i64 y.f, .int .i64 y.g] 31)).alloc (.cells #[.bool false, .bool false, .bool false, .int .i64 0, .int .i64 0] 31) := ⟨_, rfl⟩
  have HX : Hid (Blk W0 w.heap.size 31 y.cells) := Lib.hid (by rw [hW0]; exact (Blk.new w 31 y.cells).alloc _)
  have HZ : Hid (Blk W0 (w.heap.size + 1) 31 Sty.zero.cells) := Lib.hid (by
    have := Blk.new (w.alloc (.cells y.cells.toArray 31)) 31 Sty.zero.cells
    rw [hW0]
    simpa [Sty.cells, Sty.zero] using this)
  have HB0 : Hid (Below w.heap.size w W0) := Lib.hid (by rw [hW0]; exact ((Below.refl w.heap.size w).alloc (Nat.le_refl _) _).alloc (by simp) _)
  have HS0 : Hid (W0.heap.size = w.heap.size + 2) := Lib.hid (by rw [hW0]; simp)
  have HW0 := Lib.hid hW0
  clear hW0
  have hc : (n = 0) ∨ (n = 1) ∨ (n = 22) ∨ (n = 4) ∨ (n = 24) ∨ (n = 7) ∨ (n = 27) ∨ (30 ≤ n ∧ n ≤ 37) ∨ (n = 39) ∨ (40 ≤ n ∧ n ≤ 47) ∨ (n = 49) ∨ ((2 ≤ n ∧ n ≤ 3) ∨ (5 ≤ n ∧ n ≤ 6) ∨ (8 ≤ n ∧ n ≤ 21) ∨ n = 23 ∨ (25 ≤ n ∧ n ≤ 26) ∨ (28 ≤ n ∧ n < 30)) ∨ (n = 38) ∨ (n = 48) ∨ (50 ≤ n) := by omega
  rcases hc with h | h | h | h | h | h | h | h | h | h | h | h | h | h | h
  · subst h
    have HE : Hid (styT y 0 = Sty.zero) := Lib.hid rfl
    go_enter Tryz.func100, Tryz.ntmps100
    go_upto_region 1 with fail
    rw [← HW0.out]
    clear HW0
    go_wp2_with (first
      | ((with_reducible refine at_store 4 ?_); refine wpList_store_blk rfl _ _ _ rfl rfl (w.heap.size + 1) 0 _ Sty.zero.cells Sty.zero.cells rfl rfl HZ.out (by simp [tsty_len]) tsty_size (tsty_one _) ?_; intro w9 hn9 hg9)
      )
    rw [HE.out]
    exact bodyPost_ret (results_c rfl rfl (tswhole hn9) Tryz.underlying31 rfl tsty_size) rfl ⟨rfl, HB0.out.grown hg9 (by have := HS0.out; omega) (fun j hj => by injection hj with hj; omega)⟩
  · subst h
    have HE : Hid (styT y 1 = { y with b := true }) := Lib.hid rfl
    go_enter Tryz.func100, Tryz.ntmps100
    go_upto_region 1 with fail
    rw [← HW0.out]
    clear HW0
    go_wp2_with (first
      | ((with_reducible refine at_store 18 ?_); refine wpList_store_cell rfl _ _ _ rfl rfl w.heap.size 0 _ y.cells (.bool true) rfl rfl HX.out (by simp [Sty.cells]) (by kernel_rfl) rfl ?_; intro w2 hn2 hg2; have hn2' : Blk w2 w.heap.size 31 (({ y with b := true : Sty }).cells) := hn2; have HX2 := Lib.hid hn2'; have HB2 := Lib.hid (HB0.out.grown hg2 (by have := HS0.out; omega) (fun j hj => by injection hj with hj; omega)); have HZ2 : Hid (Blk w2 (w.heap.size + 1) 31 Sty.zero.cells) := Lib.hid ((hg2.block (w.heap.size + 1) (by have := HS0.out; omega) (fun h => by injection h with h; omega)).trans HZ.out); have HS2 := Lib.hid (show w.heap.size + 2 ≤ w2.heap.size by have := HS0.out; have := hg2.size; omega); clear hn2 hn2' hg2)
      | ((with_reducible refine at_dst 67 ?_); refine wpList_load_mid rfl _ _ rfl w.heap.size 0 rfl (({ y with b := true : Sty }).cells) _ (tswhole HX2.out) Tryz.underlying31 rfl tsty_size ?_)
      | ((with_reducible refine at_store 4 ?_); refine wpList_store_blk rfl _ _ _ rfl rfl (w.heap.size + 1) 0 _ Sty.zero.cells (({ y with b := true : Sty }).cells) rfl rfl HZ2.out (by simp [tsty_len]) tsty_size (tsty_one _) ?_; intro w9 hn9 hg9)
      )
    rw [HE.out]
    exact bodyPost_ret (results_c rfl rfl (tswhole hn9) Tryz.underlying31 rfl tsty_size) rfl ⟨rfl, HB2.out.grown hg9 (by have := HS2.out; omega) (fun j hj => by injection hj with hj; omega)⟩
  · subst h
    have HE : Hid (styT y 22 = { y with b := false }) := Lib.hid rfl
    go_enter Tryz.func100, Tryz.ntmps100
    go_upto_region 1 with fail
    rw [← HW0.out]
    clear HW0
    go_wp2_with (first
      | ((with_reducible refine at_store 18 ?_); refine wpList_store_cell rfl _ _ _ rfl rfl w.heap.size 0 _ y.cells (.bool false) rfl rfl HX.out (by simp [Sty.cells]) (by kernel_rfl) rfl ?_; intro w2 hn2 hg2; have hn2' : Blk w2 w.heap.size 31 (({ y with b := false : Sty }).cells) := hn2; have HX2 := Lib.hid hn2'; have HB2 := Lib.hid (HB0.out.grown hg2 (by have := HS0.out; omega) (fun j hj => by injection hj with hj; omega)); have HZ2 : Hid (Blk w2 (w.heap.size + 1) 31 Sty.zero.cells) := Lib.hid ((hg2.block (w.heap.size + 1) (by have := HS0.out; omega) (fun h => by injection h with h; omega)).trans HZ.out); have HS2 := Lib.hid (show w.heap.size + 2 ≤ w2.heap.size by have := HS0.out; have := hg2.size; omega); clear hn2 hn2' hg2)
      | ((with_reducible refine at_dst 67 ?_); refine wpList_load_mid rfl _ _ rfl w.heap.size 0 rfl (({ y with b := false : Sty }).cells) _ (tswhole HX2.out) Tryz.underlying31 rfl tsty_size ?_)
      | ((with_reducible refine at_store 4 ?_); refine wpList_store_blk rfl _ _ _ rfl rfl (w.heap.size + 1) 0 _ Sty.zero.cells (({ y with b := false : Sty }).cells) rfl rfl HZ2.out (by simp [tsty_len]) tsty_size (tsty_one _) ?_; intro w9 hn9 hg9)
      )
    rw [HE.out]
    exact bodyPost_ret (results_c rfl rfl (tswhole hn9) Tryz.underlying31 rfl tsty_size) rfl ⟨rfl, HB2.out.grown hg9 (by have := HS2.out; omega) (fun j hj => by injection hj with hj; omega)⟩
  · subst h
    have HE : Hid (styT y 4 = { y with u := true }) := Lib.hid rfl
    go_enter Tryz.func100, Tryz.ntmps100
    go_upto_region 1 with fail
    rw [← HW0.out]
    clear HW0
    go_wp2_with (first
      | ((with_reducible refine at_store 28 ?_); refine wpList_store_cell rfl _ _ _ rfl rfl w.heap.size 1 _ y.cells (.bool true) rfl rfl HX.out (by simp [Sty.cells]) (by kernel_rfl) rfl ?_; intro w2 hn2 hg2; have hn2' : Blk w2 w.heap.size 31 (({ y with u := true : Sty }).cells) := hn2; have HX2 := Lib.hid hn2'; have HB2 := Lib.hid (HB0.out.grown hg2 (by have := HS0.out; omega) (fun j hj => by injection hj with hj; omega)); have HZ2 : Hid (Blk w2 (w.heap.size + 1) 31 Sty.zero.cells) := Lib.hid ((hg2.block (w.heap.size + 1) (by have := HS0.out; omega) (fun h => by injection h with h; omega)).trans HZ.out); have HS2 := Lib.hid (show w.heap.size + 2 ≤ w2.heap.size by have := HS0.out; have := hg2.size; omega); clear hn2 hn2' hg2)
      | ((with_reducible refine at_dst 67 ?_); refine wpList_load_mid rfl _ _ rfl w.heap.size 0 rfl (({ y with u := true : Sty }).cells) _ (tswhole HX2.out) Tryz.underlying31 rfl tsty_size ?_)
      | ((with_reducible refine at_store 4 ?_); refine wpList_store_blk rfl _ _ _ rfl rfl (w.heap.size + 1) 0 _ Sty.zero.cells (({ y with u := true : Sty }).cells) rfl rfl HZ2.out (by simp [tsty_len]) tsty_size (tsty_one _) ?_; intro w9 hn9 hg9)
      )
    rw [HE.out]
    exact bodyPost_ret (results_c rfl rfl (tswhole hn9) Tryz.underlying31 rfl tsty_size) rfl ⟨rfl, HB2.out.grown hg9 (by have := HS2.out; omega) (fun j hj => by injection hj with hj; omega)⟩
  · subst h
    have HE : Hid (styT y 24 = { y with u := false }) := Lib.hid rfl
    go_enter Tryz.func100, Tryz.ntmps100
    go_upto_region 1 with fail
    rw [← HW0.out]
    clear HW0
    go_wp2_with (first
      | ((with_reducible refine at_store 28 ?_); refine wpList_store_cell rfl _ _ _ rfl rfl w.heap.size 1 _ y.cells (.bool false) rfl rfl HX.out (by simp [Sty.cells]) (by kernel_rfl) rfl ?_; intro w2 hn2 hg2; have hn2' : Blk w2 w.heap.size 31 (({ y with u := false : Sty }).cells) := hn2; have HX2 := Lib.hid hn2'; have HB2 := Lib.hid (HB0.out.grown hg2 (by have := HS0.out; omega) (fun j hj => by injection hj with hj; omega)); have HZ2 : Hid (Blk w2 (w.heap.size + 1) 31 Sty.zero.cells) := Lib.hid ((hg2.block (w.heap.size + 1) (by have := HS0.out; omega) (fun h => by injection h with h; omega)).trans HZ.out); have HS2 := Lib.hid (show w.heap.size + 2 ≤ w2.heap.size by have := HS0.out; have := hg2.size; omega); clear hn2 hn2' hg2)
      | ((with_reducible refine at_dst 67 ?_); refine wpList_load_mid rfl _ _ rfl w.heap.size 0 rfl (({ y with u := false : Sty }).cells) _ (tswhole HX2.out) Tryz.underlying31 rfl tsty_size ?_)
      | ((with_reducible refine at_store 4 ?_); refine wpList_store_blk rfl _ _ _ rfl rfl (w.heap.size + 1) 0 _ Sty.zero.cells (({ y with u := false : Sty }).cells) rfl rfl HZ2.out (by simp [tsty_len]) tsty_size (tsty_one _) ?_; intro w9 hn9 hg9)
      )
    rw [HE.out]
    exact bodyPost_ret (results_c rfl rfl (tswhole hn9) Tryz.underlying31 rfl tsty_size) rfl ⟨rfl, HB2.out.grown hg9 (by have := HS2.out; omega) (fun j hj => by injection hj with hj; omega)⟩
  · subst h
    have HE : Hid (styT y 7 = { y with i := true }) := Lib.hid rfl
    go_enter Tryz.func100, Tryz.ntmps100
    go_upto_region 1 with fail
    rw [← HW0.out]
    clear HW0
    go_wp2_with (first
      | ((with_reducible refine at_store 38 ?_); refine wpList_store_cell rfl _ _ _ rfl rfl w.heap.size 2 _ y.cells (.bool true) rfl rfl HX.out (by simp [Sty.cells]) (by kernel_rfl) rfl ?_; intro w2 hn2 hg2; have hn2' : Blk w2 w.heap.size 31 (({ y with i := true : Sty }).cells) := hn2; have HX2 := Lib.hid hn2'; have HB2 := Lib.hid (HB0.out.grown hg2 (by have := HS0.out; omega) (fun j hj => by injection hj with hj; omega)); have HZ2 : Hid (Blk w2 (w.heap.size + 1) 31 Sty.zero.cells) := Lib.hid ((hg2.block (w.heap.size + 1) (by have := HS0.out; omega) (fun h => by injection h with h; omega)).trans HZ.out); have HS2 := Lib.hid (show w.heap.size + 2 ≤ w2.heap.size by have := HS0.out; have := hg2.size; omega); clear hn2 hn2' hg2)
      | ((with_reducible refine at_dst 67 ?_); refine wpList_load_mid rfl _ _ rfl w.heap.size 0 rfl (({ y with i := true : Sty }).cells) _ (tswhole HX2.out) Tryz.underlying31 rfl tsty_size ?_)
      | ((with_reducible refine at_store 4 ?_); refine wpList_store_blk rfl _ _ _ rfl rfl (w.heap.size + 1) 0 _ Sty.zero.cells (({ y with i := true : Sty }).cells) rfl rfl HZ2.out (by simp [tsty_len]) tsty_size (tsty_one _) ?_; intro w9 hn9 hg9)
      )
    rw [HE.out]
    exact bodyPost_ret (results_c rfl rfl (tswhole hn9) Tryz.underlying31 rfl tsty_size) rfl ⟨rfl, HB2.out.grown hg9 (by have := HS2.out; omega) (fun j hj => by injection hj with hj; omega)⟩
  · subst h
    have HE : Hid (styT y 27 = { y with i := false }) := Lib.hid rfl
    go_enter Tryz.func100, Tryz.ntmps100
    go_upto_region 1 with fail
    rw [← HW0.out]
    clear HW0
    go_wp2_with (first
      | ((with_reducible refine at_store 38 ?_); refine wpList_store_cell rfl _ _ _ rfl rfl w.heap.size 2 _ y.cells (.bool false) rfl rfl HX.out (by simp [Sty.cells]) (by kernel_rfl) rfl ?_; intro w2 hn2 hg2; have hn2' : Blk w2 w.heap.size 31 (({ y with i := false : Sty }).cells) := hn2; have HX2 := Lib.hid hn2'; have HB2 := Lib.hid (HB0.out.grown hg2 (by have := HS0.out; omega) (fun j hj => by injection hj with hj; omega)); have HZ2 : Hid (Blk w2 (w.heap.size + 1) 31 Sty.zero.cells) := Lib.hid ((hg2.block (w.heap.size + 1) (by have := HS0.out; omega) (fun h => by injection h with h; omega)).trans HZ.out); have HS2 := Lib.hid (show w.heap.size + 2 ≤ w2.heap.size by have := HS0.out; have := hg2.size; omega); clear hn2 hn2' hg2)
      | ((with_reducible refine at_dst 67 ?_); refine wpList_load_mid rfl _ _ rfl w.heap.size 0 rfl (({ y with i := false : Sty }).cells) _ (tswhole HX2.out) Tryz.underlying31 rfl tsty_size ?_)
      | ((with_reducible refine at_store 4 ?_); refine wpList_store_blk rfl _ _ _ rfl rfl (w.heap.size + 1) 0 _ Sty.zero.cells (({ y with i := false : Sty }).cells) rfl rfl HZ2.out (by simp [tsty_len]) tsty_size (tsty_one _) ?_; intro w9 hn9 hg9)
      )
    rw [HE.out]
    exact bodyPost_ret (results_c rfl rfl (tswhole hn9) Tryz.underlying31 rfl tsty_size) rfl ⟨rfl, HB2.out.grown hg9 (by have := HS2.out; omega) (fun j hj => by injection hj with hj; omega)⟩
  · obtain ⟨hlo, hhi⟩ := h
    have HE : Hid (styT y n = { y with f := n - 29 }) := Lib.hid (by unfold styT; rw [if_neg (by omega), if_neg (by omega), if_neg (by omega), if_neg (by omega), if_pos (by omega)])
    have q0 : (n == 0) = false := by have : n ≠ 0 := (by omega); simpa using this
    have q1 : (n == 1) = false := by have : n ≠ 1 := (by omega); simpa using this
    have q22 : (n == 22) = false := by have : n ≠ 22 := (by omega); simpa using this
    have q4 : (n == 4) = false := by have : n ≠ 4 := (by omega); simpa using this
    have q24 : (n == 24) = false := by have : n ≠ 24 := (by omega); simpa using this
    have q7 : (n == 7) = false := by have : n ≠ 7 := (by omega); simpa using this
    have q27 : (n == 27) = false := by have : n ≠ 27 := (by omega); simpa using this
    have q39 : (n == 39) = false := by have : n ≠ 39 := (by omega); simpa using this
    have q49 : (n == 49) = false := by have : n ≠ 49 := (by omega); simpa using this
    go_enter Tryz.func100, Tryz.ntmps100
    go_upto_region 1 with fail
    rw [← HW0.out]
    clear HW0
    go_wp2_with (first
      | ((with_reducible refine at_store 48 ?_); refine wpList_store_cell rfl _ _ _ rfl rfl w.heap.size 3 _ y.cells (.int .i64 (n - 29)) rfl rfl HX.out (by simp [Sty.cells]) (by kernel_rfl) rfl ?_; intro w2 hn2 hg2; have hn2' : Blk w2 w.heap.size 31 (({ y with f := n - 29 : Sty }).cells) := hn2; have HX2 := Lib.hid hn2'; have HB2 := Lib.hid (HB0.out.grown hg2 (by have := HS0.out; omega) (fun j hj => by injection hj with hj; omega)); have HZ2 : Hid (Blk w2 (w.heap.size + 1) 31 Sty.zero.cells) := Lib.hid ((hg2.block (w.heap.size + 1) (by have := HS0.out; omega) (fun h => by injection h with h; omega)).trans HZ.out); have HS2 := Lib.hid (show w.heap.size + 2 ≤ w2.heap.size by have := HS0.out; have := hg2.size; omega); clear hn2 hn2' hg2)
      | ((with_reducible refine at_dst 67 ?_); refine wpList_load_mid rfl _ _ rfl w.heap.size 0 rfl (({ y with f := n - 29 : Sty }).cells) _ (tswhole HX2.out) Tryz.underlying31 rfl tsty_size ?_)
      | ((with_reducible refine at_store 4 ?_); refine wpList_store_blk rfl _ _ _ rfl rfl (w.heap.size + 1) 0 _ Sty.zero.cells (({ y with f := n - 29 : Sty }).cells) rfl rfl HZ2.out (by simp [tsty_len]) tsty_size (tsty_one _) ?_; intro w9 hn9 hg9)
      )
    rw [HE.out]
    exact bodyPost_ret (results_c rfl rfl (tswhole hn9) Tryz.underlying31 rfl tsty_size) rfl ⟨rfl, HB2.out.grown hg9 (by have := HS2.out; omega) (fun j hj => by injection hj with hj; omega)⟩
  · subst h
    have HE : Hid (styT y 39 = { y with f := 0 }) := Lib.hid rfl
    go_enter Tryz.func100, Tryz.ntmps100
    go_upto_region 1 with fail
    rw [← HW0.out]
    clear HW0
    go_wp2_with (first
      | ((with_reducible refine at_store 52 ?_); refine wpList_store_cell rfl _ _ _ rfl rfl w.heap.size 3 _ y.cells (.int .i64 0) rfl rfl HX.out (by simp [Sty.cells]) (by kernel_rfl) rfl ?_; intro w2 hn2 hg2; have hn2' : Blk w2 w.heap.size 31 (({ y with f := 0 : Sty }).cells) := hn2; have HX2 := Lib.hid hn2'; have HB2 := Lib.hid (HB0.out.grown hg2 (by have := HS0.out; omega) (fun j hj => by injection hj with hj; omega)); have HZ2 : Hid (Blk w2 (w.heap.size + 1) 31 Sty.zero.cells) := Lib.hid ((hg2.block (w.heap.size + 1) (by have := HS0.out; omega) (fun h => by injection h with h; omega)).trans HZ.out); have HS2 := Lib.hid (show w.heap.size + 2 ≤ w2.heap.size by have := HS0.out; have := hg2.size; omega); clear hn2 hn2' hg2)
      | ((with_reducible refine at_dst 67 ?_); refine wpList_load_mid rfl _ _ rfl w.heap.size 0 rfl (({ y with f := 0 : Sty }).cells) _ (tswhole HX2.out) Tryz.underlying31 rfl tsty_size ?_)
      | ((with_reducible refine at_store 4 ?_); refine wpList_store_blk rfl _ _ _ rfl rfl (w.heap.size + 1) 0 _ Sty.zero.cells (({ y with f := 0 : Sty }).cells) rfl rfl HZ2.out (by simp [tsty_len]) tsty_size (tsty_one _) ?_; intro w9 hn9 hg9)
      )
    rw [HE.out]
    exact bodyPost_ret (results_c rfl rfl (tswhole hn9) Tryz.underlying31 rfl tsty_size) rfl ⟨rfl, HB2.out.grown hg9 (by have := HS2.out; omega) (fun j hj => by injection hj with hj; omega)⟩
  · obtain ⟨hlo, hhi⟩ := h
    have HE : Hid (styT y n = { y with g := n - 39 }) := Lib.hid (by unfold styT; rw [if_neg (by omega), if_neg (by omega), if_neg (by omega), if_neg (by omega), if_neg (by omega), if_neg (by omega), if_pos (by omega)])
    have q0 : (n == 0) = false := by have : n ≠ 0 := (by omega); simpa using this
    have q1 : (n == 1) = false := by have : n ≠ 1 := (by omega); simpa using this
    have q22 : (n == 22) = false := by have : n ≠ 22 := (by omega); simpa using this
    have q4 : (n == 4) = false := by have : n ≠ 4 := (by omega); simpa using this
    have q24 : (n == 24) = false := by have : n ≠ 24 := (by omega); simpa using this
    have q7 : (n == 7) = false := by have : n ≠ 7 := (by omega); simpa using this
    have q27 : (n == 27) = false := by have : n ≠ 27 := (by omega); simpa using this
    have q39 : (n == 39) = false := by have : n ≠ 39 := (by omega); simpa using this
    have q49 : (n == 49) = false := by have : n ≠ 49 := (by omega); simpa using this
    have r1 : 30 ≤ n := by omega
    have r2 : ¬ n ≤ 37 := by omega
    go_enter Tryz.func100, Tryz.ntmps100
    go_upto_region 1 with fail
    rw [← HW0.out]
    clear HW0
    go_wp2_with (first
      | ((with_reducible refine at_store 62 ?_); refine wpList_store_cell rfl _ _ _ rfl rfl w.heap.size 4 _ y.cells (.int .i64 (n - 39)) rfl rfl HX.out (by simp [Sty.cells]) (by kernel_rfl) rfl ?_; intro w2 hn2 hg2; have hn2' : Blk w2 w.heap.size 31 (({ y with g := n - 39 : Sty }).cells) := hn2; have HX2 := Lib.hid hn2'; have HB2 := Lib.hid (HB0.out.grown hg2 (by have := HS0.out; omega) (fun j hj => by injection hj with hj; omega)); have HZ2 : Hid (Blk w2 (w.heap.size + 1) 31 Sty.zero.cells) := Lib.hid ((hg2.block (w.heap.size + 1) (by have := HS0.out; omega) (fun h => by injection h with h; omega)).trans HZ.out); have HS2 := Lib.hid (show w.heap.size + 2 ≤ w2.heap.size by have := HS0.out; have := hg2.size; omega); clear hn2 hn2' hg2)
      | ((with_reducible refine at_dst 67 ?_); refine wpList_load_mid rfl _ _ rfl w.heap.size 0 rfl (({ y with g := n - 39 : Sty }).cells) _ (tswhole HX2.out) Tryz.underlying31 rfl tsty_size ?_)
      | ((with_reducible refine at_store 4 ?_); refine wpList_store_blk rfl _ _ _ rfl rfl (w.heap.size + 1) 0 _ Sty.zero.cells (({ y with g := n - 39 : Sty }).cells) rfl rfl HZ2.out (by simp [tsty_len]) tsty_size (tsty_one _) ?_; intro w9 hn9 hg9)
      )
    rw [HE.out]
    exact bodyPost_ret (results_c rfl rfl (tswhole hn9) Tryz.underlying31 rfl tsty_size) rfl ⟨rfl, HB2.out.grown hg9 (by have := HS2.out; omega) (fun j hj => by injection hj with hj; omega)⟩
  · subst h
    have HE : Hid (styT y 49 = { y with g := 0 }) := Lib.hid rfl
    go_enter Tryz.func100, Tryz.ntmps100
    go_upto_region 1 with fail
    rw [← HW0.out]
    clear HW0
    go_wp2_with (first
      | ((with_reducible refine at_store 66 ?_); refine wpList_store_cell rfl _ _ _ rfl rfl w.heap.size 4 _ y.cells (.int .i64 0) rfl rfl HX.out (by simp [Sty.cells]) (by kernel_rfl) rfl ?_; intro w2 hn2 hg2; have hn2' : Blk w2 w.heap.size 31 (({ y with g := 0 : Sty }).cells) := hn2; have HX2 := Lib.hid hn2'; have HB2 := Lib.hid (HB0.out.grown hg2 (by have := HS0.out; omega) (fun j hj => by injection hj with hj; omega)); have HZ2 : Hid (Blk w2 (w.heap.size + 1) 31 Sty.zero.cells) := Lib.hid ((hg2.block (w.heap.size + 1) (by have := HS0.out; omega) (fun h => by injection h with h; omega)).trans HZ.out); have HS2 := Lib.hid (show w.heap.size + 2 ≤ w2.heap.size by have := HS0.out; have := hg2.size; omega); clear hn2 hn2' hg2)
      | ((with_reducible refine at_dst 67 ?_); refine wpList_load_mid rfl _ _ rfl w.heap.size 0 rfl (({ y with g := 0 : Sty }).cells) _ (tswhole HX2.out) Tryz.underlying31 rfl tsty_size ?_)
      | ((with_reducible refine at_store 4 ?_); refine wpList_store_blk rfl _ _ _ rfl rfl (w.heap.size + 1) 0 _ Sty.zero.cells (({ y with g := 0 : Sty }).cells) rfl rfl HZ2.out (by simp [tsty_len]) tsty_size (tsty_one _) ?_; intro w9 hn9 hg9)
      )
    rw [HE.out]
    exact bodyPost_ret (results_c rfl rfl (tswhole hn9) Tryz.underlying31 rfl tsty_size) rfl ⟨rfl, HB2.out.grown hg9 (by have := HS2.out; omega) (fun j hj => by injection hj with hj; omega)⟩
  · have HE : Hid (styT y n = y) := Lib.hid (by unfold styT; rw [if_neg (by omega), if_neg (by omega), if_neg (by omega), if_neg (by omega), if_neg (by omega), if_neg (by omega), if_neg (by omega), if_neg (by omega)])
    have q0 : (n == 0) = false := by have : n ≠ 0 := (by omega); simpa using this
    have q1 : (n == 1) = false := by have : n ≠ 1 := (by omega); simpa using this
    have q22 : (n == 22) = false := by have : n ≠ 22 := (by omega); simpa using this
    have q4 : (n == 4) = false := by have : n ≠ 4 := (by omega); simpa using this
    have q24 : (n == 24) = false := by have : n ≠ 24 := (by omega); simpa using this
    have q7 : (n == 7) = false := by have : n ≠ 7 := (by omega); simpa using this
    have q27 : (n == 27) = false := by have : n ≠ 27 := (by omega); simpa using this
    have q39 : (n == 39) = false := by have : n ≠ 39 := (by omega); simpa using this
    have q49 : (n == 49) = false := by have : n ≠ 49 := (by omega); simpa using this
    have r1 : ¬ 30 ≤ n := by omega
    have r2 : ¬ 40 ≤ n := by omega
    clear h
    go_enter Tryz.func100, Tryz.ntmps100
    go_upto_region 1 with fail
    rw [← HW0.out]
    clear HW0
    go_wp2_with (first
      | ((with_reducible refine at_dst 67 ?_); refine wpList_load_mid rfl _ _ rfl w.heap.size 0 rfl y.cells _ (tswhole HX.out) Tryz.underlying31 rfl tsty_size ?_)
      | ((with_reducible refine at_store 4 ?_); refine wpList_store_blk rfl _ _ _ rfl rfl (w.heap.size + 1) 0 _ Sty.zero.cells y.cells rfl rfl HZ.out (by simp [tsty_len]) tsty_size (tsty_one _) ?_; intro w9 hn9 hg9)
      )
    rw [HE.out]
    exact bodyPost_ret (results_c rfl rfl (tswhole hn9) Tryz.underlying31 rfl tsty_size) rfl ⟨rfl, HB0.out.grown hg9 (by have := HS0.out; omega) (fun j hj => by injection hj with hj; omega)⟩
  · subst h
    have HE : Hid (styT y 38 = y) := Lib.hid rfl
    go_enter Tryz.func100, Tryz.ntmps100
    go_upto_region 1 with fail
    rw [← HW0.out]
    clear HW0
    go_wp2_with (first
      | ((with_reducible refine at_dst 67 ?_); refine wpList_load_mid rfl _ _ rfl w.heap.size 0 rfl y.cells _ (tswhole HX.out) Tryz.underlying31 rfl tsty_size ?_)
      | ((with_reducible refine at_store 4 ?_); refine wpList_store_blk rfl _ _ _ rfl rfl (w.heap.size + 1) 0 _ Sty.zero.cells y.cells rfl rfl HZ.out (by simp [tsty_len]) tsty_size (tsty_one _) ?_; intro w9 hn9 hg9)
      )
    rw [HE.out]
    exact bodyPost_ret (results_c rfl rfl (tswhole hn9) Tryz.underlying31 rfl tsty_size) rfl ⟨rfl, HB0.out.grown hg9 (by have := HS0.out; omega) (fun j hj => by injection hj with hj; omega)⟩
  · subst h
    have HE : Hid (styT y 48 = y) := Lib.hid rfl
    go_enter Tryz.func100, Tryz.ntmps100
    go_upto_region 1 with fail
    rw [← HW0.out]
    clear HW0
    go_wp2_with (first
      | ((with_reducible refine at_dst 67 ?_); refine wpList_load_mid rfl _ _ rfl w.heap.size 0 rfl y.cells _ (tswhole HX.out) Tryz.underlying31 rfl tsty_size ?_)
      | ((with_reducible refine at_store 4 ?_); refine wpList_store_blk rfl _ _ _ rfl rfl (w.heap.size + 1) 0 _ Sty.zero.cells y.cells rfl rfl HZ.out (by simp [tsty_len]) tsty_size (tsty_one _) ?_; intro w9 hn9 hg9)
      )
    rw [HE.out]
    exact bodyPost_ret (results_c rfl rfl (tswhole hn9) Tryz.underlying31 rfl tsty_size) rfl ⟨rfl, HB0.out.grown hg9 (by have := HS0.out; omega) (fun j hj => by injection hj with hj; omega)⟩
  · have HE : Hid (styT y n = y) := Lib.hid (by unfold styT; rw [if_neg (by omega), if_neg (by omega), if_neg (by omega), if_neg (by omega), if_neg (by omega), if_neg (by omega), if_neg (by omega), if_neg (by omega)])
    have q0 : (n == 0) = false := by have : n ≠ 0 := (by omega); simpa using this
    have q1 : (n == 1) = false := by have : n ≠ 1 := (by omega); simpa using this
    have q22 : (n == 22) = false := by have : n ≠ 22 := (by omega); simpa using this
    have q4 : (n == 4) = false := by have : n ≠ 4 := (by omega); simpa using this
    have q24 : (n == 24) = false := by have : n ≠ 24 := (by omega); simpa using this
    have q7 : (n == 7) = false := by have : n ≠ 7 := (by omega); simpa using this
    have q27 : (n == 27) = false := by have : n ≠ 27 := (by omega); simpa using this
    have q39 : (n == 39) = false := by have : n ≠ 39 := (by omega); simpa using this
    have q49 : (n == 49) = false := by have : n ≠ 49 := (by omega); simpa using this
    have r1 : 30 ≤ n := by omega
    have r2 : ¬ n ≤ 37 := by omega
    have r3 : 40 ≤ n := by omega
    have r4 : ¬ n ≤ 47 := by omega
    go_enter Tryz.func100, Tryz.ntmps100
    go_upto_region 1 with fail
    rw [← HW0.out]
    clear HW0
    go_wp2_with (first
      | ((with_reducible refine at_dst 67 ?_); refine wpList_load_mid rfl _ _ rfl w.heap.size 0 rfl y.cells _ (tswhole HX.out) Tryz.underlying31 rfl tsty_size ?_)
      | ((with_reducible refine at_store 4 ?_); refine wpList_store_blk rfl _ _ _ rfl rfl (w.heap.size + 1) 0 _ Sty.zero.cells y.cells rfl rfl HZ.out (by simp [tsty_len]) tsty_size (tsty_one _) ?_; intro w9 hn9 hg9)
      )
    rw [HE.out]
    exact bodyPost_ret (results_c rfl rfl (tswhole hn9) Tryz.underlying31 rfl tsty_size) rfl ⟨rfl, HB0.out.grown hg9 (by have := HS0.out; omega) (fun j hj => by injection hj with hj; omega)⟩

theorem areN_take {l : List UInt8} {k : Nat} (h : k < l.length) : areN (l.take (k + 1)) = (areN (l.take k) && (l[k] == 59 || (48 ≤ l[k] && l[k] ≤ 57))) := by
  rw [List.take_succ_eq_append_getElem h]
  simp only [areN, List.all_append, List.all_cons, List.all_nil, Bool.and_true]
theorem num_iff (c : UInt8) : (c == 59 || (48 ≤ c && c ≤ 57)) = (decide ((c.toNat : Int) = 59) || (decide (48 ≤ (c.toNat : Int)) && decide ((c.toNat : Int) ≤ 57))) := by
  rw [Bool.eq_iff_iff]
  have e : c = 59 ↔ c.toNat = 59 := ⟨fun h => by rw [h]; rfl, fun h => UInt8.toNat_inj.1 (by show c.toNat = 59; exact h)⟩
  simp [UInt8.le_iff_toNat_le, e]
  omega
set_option maxRecDepth 100000 in
set_option maxHeartbeats 4000000 in
theorem areN_any (l : List UInt8) (hl : l.length ≤ 1000) (A : Option Addr) (n cap : Nat) (hn : n = l.length) (w : World) (Bn : Nat) (hS : Sl w Bn A (bv l)) :
    Calls Tryz.prog 97 #[.slice A n cap] w fun e w' => e = .returned (.bool (areN l)) ∧ w = w' := by
  subst hn
  have HS := Lib.hid hS
  obtain ⟨R, hR⟩ : ∃ R, R = areN l := ⟨_, rfl⟩
  rw [← hR]
  have HR := Lib.hid hR
  clear hS hR
  go_enter Tryz.func97, Tryz.ntmps97
  go_wp2
  go_loop [7] (fun v7 => ∃ k : Nat, v7 = .int .i64 k ∧ k ≤ l.length ∧ areN (l.take k) = true) (fun v7 => l.length - (intOf v7).toNat)
  case atStart => exact ⟨0, rfl, by omega, rfl⟩
  case round =>
    obtain ⟨k, rfl, hk, ha⟩ := hrel
    have HA := Lib.hid ha
    clear ha
    by_cases hlt : k < l.length
    · have hki : (k : Int) < (l.length : Int) := by omega
      obtain ⟨bk, off, rfl, _, hcell⟩ := HS.out.open_ (by rw [bv_length]; omega)
      have hx := hcell k _ (bv_get hlt)
      have hbd : 0 ≤ (l[k].toNat : Int) ∧ (l[k].toNat : Int) ≤ 255 := by have := l[k].toNat_lt; omega
      have HT := Lib.hid (areN_take hlt)
      have HNI := Lib.hid (num_iff l[k])
      have HF : Hid ((l[k] == 59 || (48 ≤ l[k] && l[k] ≤ 57)) = false → areN l = false) := Lib.hid (fun h => by
        have h1 := areN_take hlt
        rw [h, Bool.and_false] at h1
        have h2 : areN l = (areN (l.take (k + 1)) && areN (l.drop (k + 1))) := by
          conv => lhs; rw [← List.take_append_drop (k + 1) l]
          unfold areN
          rw [List.all_append]
        rw [h2, h1]; rfl)
      have hc : (l[k].toNat : Int) = 59 ∨ ((l[k].toNat : Int) ≠ 59 ∧ 48 ≤ (l[k].toNat : Int) ∧ (l[k].toNat : Int) ≤ 57) ∨ ((l[k].toNat : Int) ≠ 59 ∧ (l[k].toNat : Int) < 48) ∨ ((l[k].toNat : Int) ≠ 59 ∧ 48 ≤ (l[k].toNat : Int) ∧ 57 < (l[k].toNat : Int)) := by omega
      generalize l[k] = c at hx hbd HT HNI HF hc
      clear hcell
      rcases hc with h1 | ⟨h1, h2, h3⟩ | ⟨h1, h2⟩ | ⟨h1, h2, h3⟩
      · have HT2 := Lib.hid (show areN (l.take (k + 1)) = true by rw [HT.out, HA.out, HNI.out]; simp [h1])
        rw [h1] at hx
        clear h1
        go_wp2
        go_round
        case rel => exact ⟨k + 1, by go_num, by omega, HT2.out⟩
        case measure => simp [intOf]; omega
      · have HT2 := Lib.hid (show areN (l.take (k + 1)) = true by rw [HT.out, HA.out, HNI.out]; simp [h1, h2, h3])
        have hb : ((c.toNat : Int) == 59) = false := by simpa using h1
        have h2' : ¬ (c.toNat : Int) < 48 := by omega
        have h3' : ¬ 57 < (c.toNat : Int) := by omega
        clear h1
        go_wp2
        go_round
        case rel => exact ⟨k + 1, by go_num, by omega, HT2.out⟩
        case measure => simp [intOf]; omega
      · have HE := Lib.hid (show R = false by rw [HR.out]; exact HF.out (by rw [HNI.out]; simp; omega))
        have hb : ((c.toNat : Int) == 59) = false := by simpa using h1
        clear h1
        go_wp2
        go_ret
        exact ⟨ret_bool HE.out.symm, rfl⟩
      · have HE := Lib.hid (show R = false by rw [HR.out]; exact HF.out (by rw [HNI.out]; simp; omega))
        have hb : ((c.toNat : Int) == 59) = false := by simpa using h1
        have h2' : ¬ (c.toNat : Int) < 48 := by omega
        have H1 := Lib.hid h1
        clear h1
        go_wp2
        all_goals first
          | (exfalso; exact H1.out (by assumption))
          | (go_ret; exact ⟨ret_bool HE.out.symm, rfl⟩)
    · have hki : ¬ (k : Int) < (l.length : Int) := by omega
      have HE := Lib.hid (show R = true by rw [HR.out, ← HA.out, List.take_of_length_le (by omega)])
      go_wp2
      go_ret
      exact ⟨ret_bool HE.out.symm, rfl⟩
end Go.Proofs.YtfmkeeaenjeneaaGreatDoor

namespace Go.Proofs.YtfmkeeaenjeneaaGreatDoor
open Go.RowKit
set_option linter.unusedVariables false
set_option linter.unusedSimpArgs false

theorem tmc_pre (t g : Nat) (T : TS) (xs : List Value) (n : Nat) : ∃ pre : List Value, pre.length = 17 ∧ ∀ xs n, tmc t g T xs n = pre ++ (xs ++ [.int .i64 n]) := ⟨.pointer (some ⟨t, 0, none⟩) :: .pointer (some ⟨g, 0, none⟩) :: stc T, rfl, fun _ _ => rfl⟩
theorem tmc_setb {t g : Nat} {T : TS} {xs : List Value} {n k : Nat} (hx : xs.length = 32) (hk : k < 32) (v : Value) : (tmc t g T xs n).set (17 + k) v = tmc t g T (xs.set k v) n := by
  obtain ⟨pre, hp, he⟩ := tmc_pre t g T xs n
  rw [he, he, List.set_append, if_neg (by omega), hp, show 17 + k - 17 = k by omega, List.set_append, if_pos (by omega)]
theorem tmc_setc {t g : Nat} {T : TS} {xs : List Value} {n m : Nat} (hx : xs.length = 32) : (tmc t g T xs n).set 49 (.int .i64 m) = tmc t g T xs m := by
  obtain ⟨pre, hp, he⟩ := tmc_pre t g T xs n
  rw [he, he, List.set_append, if_neg (by omega), hp, show 49 - 17 = 32 by omega, List.set_append, if_neg (by omega), hx]
  rfl
theorem tmc_49 {t g : Nat} {T : TS} {xs : List Value} {n : Nat} (hx : xs.length = 32) : (tmc t g T xs n)[49]? = some (.int .i64 n) := by
  obtain ⟨pre, hp, he⟩ := tmc_pre t g T xs n
  rw [he, List.getElem?_append_right (by omega), hp, show 49 - 17 = 32 by omega, List.getElem?_append_right (by omega), hx]
  rfl
theorem tmc_by {t g : Nat} {T : TS} {xs : List Value} {n k : Nat} (hx : xs.length = 32) (hk : k < 32) : (tmc t g T xs n)[17 + k]? = xs[k]? := by
  obtain ⟨pre, hp, he⟩ := tmc_pre t g T xs n
  rw [he, List.getElem?_append_right (by omega), hp, show 17 + k - 17 = k by omega, List.getElem?_append_left (by omega)]

section
variable {w : World} {lo t g rb : Nat} {bs : List Nat} {T : TS} {B : List UInt8}
/-- The waiting bytes, where they lie. -/
theorem TmAt.bytes (h : TmAt w lo t g rb bs T B) : Sl w w.heap.size (some ⟨t, 17, none⟩) (bv B) := by
  obtain ⟨xs, h1, h2, h3⟩ := h.blk
  refine .inr ⟨t, 17, rfl, h3.lt, fun j u hu => ?_⟩
  have hj : j < B.length := by have := (List.getElem?_eq_some_iff.1 hu).1; rw [bv_length] at this; exact this
  have hb := h.b32
  rw [h3.cell (17 + j), tmc_by h1 (by omega)]
  rw [← h2, List.getElem?_take] at hu
  rw [if_pos hj] at hu
  exact hu

set_option maxRecDepth 100000 in
set_option maxHeartbeats 2000000 in
theorem waiting_any (h : TmAt w lo t g rb bs T B) :
    Calls Tryz.prog 49 #[.pointer (some ⟨t, 17, none⟩)] w fun e w' => ∃ cap, e = .returned (.slice (some ⟨t, 17, none⟩) B.length cap) ∧ Below w.heap.size w w' := by
  obtain ⟨xs, h1, h2, h3⟩ := h.blk
  have hb := h.b32
  have hbi : (B.length : Int) ≤ 32 := by omega
  have c49 : w.cell? ⟨t, 49, none⟩ = some (.int .i64 B.length) := (h3.cell 49).trans (tmc_49 h1)
  clear h h1 h2 h3
  go_enter Tryz.func49, Tryz.ntmps49
  go_wp2_with fail
  go_quiet (fail)
  go_wp2
  go_ret
  exact ⟨_, rfl, below_drewN w _⟩

set_option maxRecDepth 100000 in
set_option maxHeartbeats 4000000 in
theorem add_any (h : TmAt w lo t g rb bs T B) (h32 : B.length < 32) (c : UInt8) :
    Calls Tryz.prog 25 #[.pointer (some ⟨t, 17, none⟩), .int .u8 c.toNat] w fun e w' => e = .returned (.tuple #[]) ∧ TmStep w lo t g rb bs T (B ++ [c]) w' := by
  obtain ⟨xs, hx1, hx2, hx3⟩ := h.blk
  have c49 : w.cell? ⟨t, 49, none⟩ = some (.int .i64 B.length) := (hx3.cell 49).trans (tmc_49 hx1)
  have hfz : w.frozen? ⟨t, 17 + B.length, none⟩ = false := hx3.frozen _
  have hbi : (B.length : Int) < 32 := by omega
  obtain ⟨v0, hv0⟩ : ∃ v0, xs[B.length]? = some v0 := ⟨_, List.getElem?_eq_getElem (by omega)⟩
  have cb : w.cell? ⟨t, 17 + B.length, none⟩ = some v0 := ((hx3.cell _).trans (tmc_by hx1 h32)).trans hv0
  have HX1 := Lib.hid hx1
  have HX2 := Lib.hid hx2
  have HX3 := Lib.hid hx3
  have H := Lib.hid h
  clear h hx1 hx2 hx3
  go_enter Tryz.func25, Tryz.ntmps25
  go_wp2_with fail
  go_region
  obtain ⟨w1, hw1⟩ : ∃ W, W = (w.setCell ⟨t, 17 + B.length, none⟩ (.int .u8 c.toNat)).drew := ⟨_, rfl⟩
  have hn1 : Blk w1 t 63 (tmc t g T (xs.set B.length (.int .u8 c.toNat)) B.length) := by
    rw [hw1, ← tmc_setb HX1.out h32]
    exact (HX3.out.set_ _ _).drew
  have hc1 : Chg (one t) w w1 := by
    rw [hw1]
    exact ((Chg.refl (one t) w).setCell (p := ⟨t, 17 + B.length, none⟩) (.inl (by show t = t; rfl)) _).drewN 1
  rw [← hw1]
  have c49' : w1.cell? ⟨t, 49, none⟩ = some (.int .i64 B.length) := (hn1.cell 49).trans (tmc_49 (by rw [List.length_set]; exact HX1.out))
  have HN1 := Lib.hid hn1
  have HC1 := Lib.hid hc1
  clear hw1 hn1 hc1 c49 hfz cb hv0
  go_wp2_with ((with_reducible refine at_store 19 ?_); refine wpList_store_cell rfl _ _ _ rfl rfl t 49 _ (tmc t g T (xs.set B.length (.int .u8 c.toNat)) B.length) (.int .i64 ((B.length + 1 : Nat) : Int)) rfl rfl HN1.out (by have := HX1.out; simp [tmc, stc]; omega) (by kernel_rfl) rfl ?_; intro w2 hn2 hg2; rw [tmc_setc (by rw [List.length_set]; exact HX1.out)] at hn2; have HN2 := Lib.hid hn2; have HG2 := Lib.hid hg2; clear hn2 hg2)
  go_end0
  refine ⟨rfl, H.out.wrote (xs := xs.set B.length (.int .u8 c.toNat)) (HC1.out.trans (chg_one HG2.out) (fun k hk => .inl hk)) (by rw [List.length_set]; exact HX1.out) ?_ (by simp; omega) (by have := HN2.out; simpa using this) rfl rfl H.out.row H.out.col⟩
  rw [List.length_append, List.length_singleton, List.take_add_one, List.take_set_of_le (Nat.le_refl _), HX2.out, List.getElem?_set_self (by rw [HX1.out]; exact h32)]
  simp [bv]
end
end Go.Proofs.YtfmkeeaenjeneaaGreatDoor

namespace Go.Proofs.YtfmkeeaenjeneaaGreatDoor
open Go.RowKit
set_option linter.unusedVariables false
set_option linter.unusedSimpArgs false

theorem u8_size : (Tryz.prog.info? 5).map (·.size) = some 1 := by kernel_rfl
theorem tmc_splice {t g : Nat} {T : TS} {xs cs : List Value} {n : Nat} (hx : xs.length = 32) (hc : cs.length ≤ 32) : splice (tmc t g T xs n) 17 cs = tmc t g T (cs ++ xs.drop cs.length) n := by
  obtain ⟨pre, hp, he⟩ := tmc_pre t g T xs n
  rw [he, he]
  unfold splice
  rw [List.take_append_of_le_length (by omega), List.take_of_length_le (by omega), List.drop_append, List.drop_eq_nil_of_le (by omega), List.nil_append, hp, show 17 + cs.length - 17 = cs.length by omega, List.drop_append_of_le_length (by omega)]
  simp

theorem add_at (b o j : Nat) : (Addr.mk b o none).add j = ⟨b, o + j, none⟩ := by
  unfold Addr.add
  by_cases hj : j = 0
  · subst hj; rfl
  · rw [if_neg hj]

section
variable {w : World} {lo t g rb : Nat} {bs : List Nat} {T : TS} {B : List UInt8}
set_option maxRecDepth 100000 in
set_option maxHeartbeats 8000000 in
theorem drop_any (h : TmAt w lo t g rb bs T B) (m : Nat) (hm : m ≤ B.length) :
    Calls Tryz.prog 53 #[.pointer (some ⟨t, 17, none⟩), .int .i64 m] w fun e w' => e = .returned (.tuple #[]) ∧ TmStep w lo t g rb bs T (B.drop m) w' := by
  obtain ⟨xs, hx1, hx2, hx3⟩ := h.blk
  have c49 : w.cell? ⟨t, 49, none⟩ = some (.int .i64 B.length) := (hx3.cell 49).trans (tmc_49 hx1)
  have hb32 := h.b32
  have hbi : (B.length : Int) ≤ 32 := by omega
  have hmi : (m : Int) ≤ (B.length : Int) := by omega
  have hcl : (bv (B.drop m)).length = B.length - m := by rw [bv_length, List.length_drop]
  have hsrc : ∀ j v, (bv (B.drop m))[j]? = some v → w.drew.cell? ⟨t, 17 + m + j, none⟩ = some v := fun j v hv => by
    have hj : j < B.length - m := by have := (List.getElem?_eq_some_iff.1 hv).1; omega
    rw [show 17 + m + j = 17 + (m + j) by omega, hx3.drew.cell, tmc_by hx1 (by omega)]
    rw [← bv_drop, List.getElem?_drop, ← hx2, List.getElem?_take, if_pos (by omega)] at hv
    exact hv
  have HX1 := Lib.hid hx1
  have HX2 := Lib.hid hx2
  have HX3 := Lib.hid hx3.drew
  have H := Lib.hid h
  have HCL := Lib.hid hcl
  have HSRC := Lib.hid hsrc
  obtain ⟨ys, hyl, hyt, hys⟩ : ∃ ys : List Value, ys.length = 32 ∧ ys.take (B.drop m).length = bv (B.drop m) ∧ splice (tmc t g T xs B.length) 17 (bv (B.drop m)) = tmc t g T ys B.length := by
    refine ⟨bv (B.drop m) ++ xs.drop (B.length - m), ?_, ?_, ?_⟩
    · rw [List.length_append, hcl, List.length_drop, hx1]; omega
    · rw [List.take_append_of_le_length (by rw [bv_length]; omega), List.take_of_length_le (by rw [bv_length]; omega)]
    · rw [tmc_splice hx1 (by omega), hcl]
  have HXL := Lib.hid hyl
  have HXT := Lib.hid hyt
  have HSP := Lib.hid hys
  clear h hx1 hx2 hx3 hcl hsrc hyl hyt hys
  have fin : ∀ w4, Hid (Blk w4 t 63 (tmc t g T ys B.length)) → Hid (w.drew.grownBy w4 (some t)) → ∀ w5, Hid (Blk w5 t 63 (tmc t g T ys (B.length - m))) → Hid (w4.grownBy w5 (some t)) → TmStep w lo t g rb bs T (B.drop m) w5 := fun w4 HN4 HG4 w5 HN5 HG5 =>
    H.out.wrote (xs := ys) (((Chg.refl (one t) w).drewN 1).trans ((chg_one HG4.out).trans (chg_one HG5.out) (fun k hk => .inl hk)) (fun k hk => .inl hk)) HXL.out HXT.out (by rw [List.length_drop]; omega) (by rw [List.length_drop]; exact HN5.out) rfl rfl H.out.row H.out.col
  have FIN := Lib.hid fin
  clear fin
  by_cases hm32 : m < 32
  · have hne : ¬ 32 = m := by omega
    have hm32i : (m : Int) < 32 := by omega
    go_enter Tryz.func53, Tryz.ntmps53
    go_wp2_with fail
    go_region_law (refine step_copy_k rfl (.tmp 7) (.tmp 16) _ _ rfl 5 1 Tryz.underlying32 u8_size (some ⟨t, 17, none⟩) (some ⟨t, 17 + m, none⟩) 32 32 (B.length - m) (32 - m) (by simp [Act.eval, Act.put]) (by simp [Act.eval, Act.put]) t 17 63 (tmc t g T xs B.length) HX3.out (bv (B.drop m)) (B.length - m) (by show B.length - m = min (B.length - m) 32; omega) (by have := HCL.out; omega) (fun _ => ⟨rfl, _, rfl, fun j v hv => (congrArg w.drew.cell? (add_at t (17 + m) j)).trans (HSRC.out j v hv)⟩) (by have := HCL.out; have := HX1.out; simp [tmc, stc]; omega) (bv_one _) ?_; intro w4 hn4 hg4)
    rw [HSP.out] at hn4
    have c49' : w4.cell? ⟨t, 49, none⟩ = some (.int .i64 B.length) := (hn4.cell 49).trans (tmc_49 HXL.out)
    have HN4 := Lib.hid hn4
    have HG4 := Lib.hid hg4
    clear hn4 hg4 c49
    go_wp2_with ((with_reducible refine at_store 25 ?_); refine wpList_store_cell rfl _ _ _ rfl rfl t 49 _ (tmc t g T ys B.length) (.int .i64 ((B.length - m : Nat) : Int)) rfl (by rw [show ((B.length - m : Nat) : Int) = (B.length : Int) - m by omega]; rfl) HN4.out (by have := HXL.out; simp [tmc, stc]; omega) (by kernel_rfl) rfl ?_; intro w5 hn5 hg5; rw [tmc_setc HXL.out] at hn5; have HN5 := Lib.hid hn5; have HG5 := Lib.hid hg5; clear hn5 hg5)
    go_end0
    exact ⟨rfl, FIN.out _ HN4 HG4 _ HN5 HG5⟩
  · have hm' : m = 32 := by omega
    have hB' : B.length = 32 := by omega
    subst hm'
    go_enter Tryz.func53, Tryz.ntmps53
    go_wp2_with fail
    go_region_law (refine step_copy_k rfl (.tmp 7) (.tmp 16) _ _ rfl 5 1 Tryz.underlying32 u8_size (some ⟨t, 17, none⟩) (some ⟨t, 17, none⟩) 32 32 0 0 (by simp [Act.eval, Act.put]) (by simp [Act.eval, Act.put]) t 17 63 (tmc t g T xs B.length) HX3.out (bv (B.drop 32)) 0 (by show 0 = min 0 32; omega) (by have := HCL.out; omega) (fun h0 => absurd h0 (by omega)) (by have := HCL.out; have := HX1.out; simp [tmc, stc]; omega) (bv_one _) ?_; intro w4 hn4 hg4)
    rw [HSP.out] at hn4
    have c49' : w4.cell? ⟨t, 49, none⟩ = some (.int .i64 B.length) := (hn4.cell 49).trans (tmc_49 HXL.out)
    have HN4 := Lib.hid hn4
    have HG4 := Lib.hid hg4
    clear hn4 hg4 c49
    go_wp2_with ((with_reducible refine at_store 25 ?_); refine wpList_store_cell rfl _ _ _ rfl rfl t 49 _ (tmc t g T ys B.length) (.int .i64 ((B.length - 32 : Nat) : Int)) rfl (by rw [show B.length - 32 = 0 by omega]; rfl) HN4.out (by have := HXL.out; simp [tmc, stc]; omega) (by kernel_rfl) rfl ?_; intro w5 hn5 hg5; rw [tmc_setc HXL.out] at hn5; have HN5 := Lib.hid hn5; have HG5 := Lib.hid hg5; clear hn5 hg5)
    go_end0
    exact ⟨rfl, FIN.out _ HN4 HG4 _ HN5 HG5⟩
end
end Go.Proofs.YtfmkeeaenjeneaaGreatDoor

