/-
  Walks: the reference's sequence, whole.
-/
import Derived.Test.YtfmkeeaenjeneaaGreatDoorRtSeq
namespace Go.Proofs.YtfmkeeaenjeneaaGreatDoor
open Go.RowKit Go.Sort
set_option linter.unusedVariables false
set_option linter.unusedSimpArgs false

set_option maxRecDepth 100000 in
set_option maxHeartbeats 8000000 in
theorem rseq_any {w : World} {D : Nat → Prop} {A : Option Addr} {c : Nat} {T : TS} {vB : Value} (h : RfAt w D A c T.L) (hk : TOk T) (hv : vB.oneCell' = true) (B : List UInt8) (h2 : 2 ≤ B.length) (hl : B.length ≤ 100000000) (b off n cb : Nat) (hn : n = B.length) (hcb : n ≤ cb) (hS : Sl w w.heap.size (some ⟨b, off, none⟩) (bv B)) :
    Calls Tryz.prog 54 #[.agg #[.int .i64 T.W, .int .i64 T.L.length, .slice A T.L.length c, .int .i64 T.row, .int .i64 T.col, .bool T.y.b, .bool T.y.u, .bool T.y.i, .int .i64 T.y.f, .int .i64 T.y.g, .bool T.pend, .bool T.seen, .bool T.mark, .int .i64 T.bells, .int .i64 T.scr, vB, .bool T.joins, .int .i64 T.lr, .int .i64 T.lc], .slice (some ⟨b, off, none⟩) n cb] w fun e w' => ∃ V, e = .returned (.tuple #[V, .int .i64 (cutS B).1]) ∧ RtV w' (fun b => D b ∨ w.heap.size ≤ b) V (seqT T B) vB ∧ Below w.heap.size w w' := by
  by_cases hno : parN B = midN B ∧ midN B < 32 ∧ midN B < B.length ∧ ∃ ci, B[midN B]? = some ci ∧ isFin ci = true
  · obtain ⟨a1, a2, a3, ci, a4, a5⟩ := hno
    exact rseq_ob h hk hv B h2 hl b off n cb hn hcb hS (midN B) a1 rfl a2 a3 ci a4 a5
  have HNO := Lib.hid hno
  clear hno
  have HK : Hid (TOk { T with joins := false }) := Lib.hid ⟨hk.q, hk.row, hk.col⟩
  obtain ⟨b', off', hA, hbb, hcx⟩ := hS.open_ (by rw [bv_length]; omega)
  injection hA with hA
  injection hA with e1 e2
  subst e1 e2
  have hpl := parN_le h2
  have hml := midN_le h2
  have hp2 : 2 ≤ parN B := by unfold parN; omega
  have hpm : parN B ≤ midN B := by unfold midN; omega
  have HPA := Lib.hid (fun j (a : 2 ≤ j) (c : j < parN B) => par_at (B := B) a c)
  have HPE := Lib.hid (par_end h2)
  have HMA := Lib.hid (fun j (a : parN B ≤ j) (c : j < midN B) => mid_at (B := B) a c)
  have HME := Lib.hid (mid_end h2)
  have HCB : Hid (∀ W, Below w.heap.size w W → ∀ j (hj : j < B.length), W.cell? ⟨b, off + j, none⟩ = some (.int .u8 (B[j]).toNat)) := Lib.hid (fun W hW j hj => (hW.cell (p := ⟨b, off + j, none⟩) hbb).trans (hcx j _ (bv_get hj)))
  have HSB := Lib.hid hS
  obtain ⟨pn, hpn⟩ : ∃ p, p = parN B := ⟨_, rfl⟩
  obtain ⟨mn, hmn⟩ : ∃ p, p = midN B := ⟨_, rfl⟩
  rw [← hpn] at hpl hp2 hpm
  rw [← hmn] at hml hpm
  have HPN := Lib.hid hpn
  have HMN := Lib.hid hmn
  have HN := Lib.hid hn
  have hpln : pn ≤ n := by omega
  have hmln : mn ≤ n := by omega
  have hn2 : n ≤ 100000000 := by omega
  clear hcx hk hS hpn hmn hn hpl hml
  obtain ⟨W0, HW0, HS0⟩ := rt_start (vB := vB) h
  have HV := Lib.hid hv
  go_enter Tryz.func54, Tryz.ntmps54
  go_upto_region 1 with fail
  rw [← HW0.out]
  clear HW0
  clear h hv
  go_wp2_with (fail)
  go_loop [6] (fun v6 => ∃ j : Nat, v6 = .int .i64 j ∧ 2 ≤ j ∧ j ≤ pn) (fun v6 => pn - (intOf v6).toNat)
  case atStart => exact ⟨2, rfl, by omega, by omega⟩
  case round =>
    obtain ⟨j, rfl, hj2, hjp⟩ := hrel
    by_cases hlt : j < pn
    · obtain ⟨hjl, hpar⟩ := HPA.out j hj2 (by rw [← HPN.out]; exact hlt)
      have e0_b := HCB.out _ HS0.out.bel j hjl
      have hjn : (j : Int) < (n : Int) := by have := HN.out; omega
      generalize B[j] = cj at hpar e0_b
      rw [isPar_iff] at hpar
      simp only [Bool.and_eq_true, decide_eq_true_eq] at hpar
      obtain ⟨q1, q2⟩ := hpar
      clear hjl
      go_wp2
      go_round
      case rel => exact ⟨j + 1, by go_num, by omega, by omega⟩
      case measure => simp [intOf]; omega
    · obtain rfl : j = pn := by omega
      clear hlt
      have hx : (j = n) ∨ (∃ cj : UInt8, W0.cell? ⟨b, off + j, none⟩ = some (.int .u8 cj.toNat) ∧ j < n ∧ ¬ (48 ≤ (cj.toNat : Int))) ∨ (∃ cj : UInt8, W0.cell? ⟨b, off + j, none⟩ = some (.int .u8 cj.toNat) ∧ j < n ∧ 48 ≤ (cj.toNat : Int) ∧ ¬ ((cj.toNat : Int) ≤ 63)) := by
        by_cases hjn : j = n
        · exact .inl hjn
        · have hjl : j < B.length := by have := HN.out; omega
          have hf := HPE.out (by rw [← HPN.out]; exact hjl)
          simp only [← HPN.out] at hf
          rw [isPar_iff] at hf
          have hc := HCB.out _ HS0.out.bel j hjl
          by_cases q : 48 ≤ ((B[j]).toNat : Int)
          · exact .inr (.inr ⟨_, hc, by omega, q, by simpa [q] using hf⟩)
          · exact .inr (.inl ⟨_, hc, by omega, q⟩)
      rcases hx with hx | ⟨cj, e0_b, hjn, q1⟩ | ⟨cj, e0_b, hjn, q1, q2⟩
      case' inl =>
        have hji : ¬ (j : Int) < (n : Int) := by omega
        have HX := Lib.hid hx
        clear hx
      case' inr.inl => have hji : (j : Int) < (n : Int) := by omega
      case' inr.inr => have hji : (j : Int) < (n : Int) := by omega
      all_goals
        go_wp2
        clear hji
        first | clear HX | clear e0_b q1 q2 hjn | clear e0_b q1 hjn
        go_loop [6] (fun v6 => ∃ i : Nat, v6 = .int .i64 i ∧ j ≤ i ∧ i ≤ mn) (fun v6 => mn - (intOf v6).toNat)
        case atStart => exact ⟨j, rfl, by omega, hpm⟩
        case round =>
          obtain ⟨i, rfl, hi2, him⟩ := hrel
          by_cases hlt2 : i < mn
          · obtain ⟨hil, hmid⟩ := HMA.out i (by rw [← HPN.out]; exact hi2) (by rw [← HMN.out]; exact hlt2)
            have e0_b := HCB.out _ HS0.out.bel i hil
            have hin : (i : Int) < (n : Int) := by have := HN.out; omega
            generalize B[i] = cj at hmid e0_b
            rw [isMid_iff] at hmid
            simp only [Bool.and_eq_true, decide_eq_true_eq] at hmid
            obtain ⟨q1, q2⟩ := hmid
            clear hil
            go_wp2
            go_round
            case rel => exact ⟨i + 1, by go_num, by omega, by omega⟩
            case measure => simp [intOf]; omega
          · obtain rfl : i = mn := by omega
            clear hlt2
            have hy : (i = n) ∨ (∃ ci : UInt8, W0.cell? ⟨b, off + i, none⟩ = some (.int .u8 ci.toNat) ∧ i < n ∧ ¬ (32 ≤ (ci.toNat : Int))) ∨ (∃ ci : UInt8, W0.cell? ⟨b, off + i, none⟩ = some (.int .u8 ci.toNat) ∧ i < n ∧ 32 ≤ (ci.toNat : Int) ∧ ¬ ((ci.toNat : Int) ≤ 47)) := by
              by_cases hjn : i = n
              · exact .inl hjn
              · have hjl : i < B.length := by have := HN.out; omega
                have hf := HME.out (by rw [← HMN.out]; exact hjl)
                simp only [← HMN.out] at hf
                rw [isMid_iff] at hf
                have hc := HCB.out _ HS0.out.bel i hjl
                by_cases q : 32 ≤ ((B[i]).toNat : Int)
                · exact .inr (.inr ⟨_, hc, by omega, q, by simpa [q] using hf⟩)
                · exact .inr (.inl ⟨_, hc, by omega, q⟩)
            have HJI := Lib.hid hi2
            have hlen : i ≤ B.length := by have := HN.out; omega
            by_cases h32 : i < 32
            · have h32i : (i : Int) < 32 := by omega
              rcases hy with hin | ⟨ci, e0_i, hin, r1⟩ | ⟨ci, e0_i, hin, r1, r2⟩
              · have hie : ((i : Int) == (n : Int)) = true := by rw [hin]; simp
                have hii : ¬ (i : Int) < (n : Int) := by omega
                have hnone : B[midN B]? = none := by rw [← HMN.out]; exact List.getElem?_eq_none (by have := HN.out; omega)
                have hcut : cutS B = (0, false) := by unfold cutS; rw [← HMN.out, if_neg (by omega), HMN.out, hnone]
                have hE : seqT T B = T := by unfold seqT; rw [hcut, if_pos rfl]
                have hc1 : (cutS B).1 = 0 := by rw [hcut]
                have HE := Lib.hid hE
                have HC1 := Lib.hid hc1
                clear hcut hE hc1 hnone hin hlen
                go_wp2_with (first
                  | ((with_reducible refine at_dst 57 ?_); refine wpList_load_mid rfl _ _ rfl w.heap.size 0 rfl (rtC T A c vB) _ HS0.out.x.whole Tryz.underlying34 rfl rt_size ?_)
                  | ((with_reducible refine at_store 4 ?_); refine wpList_store_blk rfl _ _ _ rfl rfl (w.heap.size + 1) 0 _ rtZ (rtC T A c vB) rfl rfl HS0.out.z (by simp [rtC, rtZ]) rt_size (rtC_one _ _ _ HV.out) ?_; intro w9 hn9 hg9))
                rw [HE.out, HC1.out]
                exact bodyPost_ret (results_ct rfl rfl rfl hn9.whole Tryz.underlying34 rfl rt_size) rfl ⟨_, rfl, HS0.out.fin hg9⟩
              all_goals
                have hie : ((i : Int) == (n : Int)) = false := by
                  have : ¬ (i : Int) = (n : Int) := by omega
                  simpa using this
                have hii : (i : Int) < (n : Int) := by omega
                have hil : i < B.length := by have := HN.out; omega
                have hci : ci = B[i] := by
                  have := (HCB.out _ HS0.out.bel i hil).symm.trans e0_i
                  injection this with this
                  injection this with _ this
                  apply UInt8.toNat_inj.1
                  omega
                have hbi : B[midN B]? = some ci := by rw [← HMN.out, hci]; exact List.getElem?_eq_getElem hil
                have HBI := Lib.hid hbi
                have HCI := Lib.hid hci
                clear hci hbi hlen
                have hnf : isFin ci = false → cutS B = (i, false) := fun hf => by
                  unfold cutS
                  rw [← HMN.out, if_neg (by omega), HMN.out, HBI.out]
                  simp [hf]
                have hyf : isFin ci = true → cutS B = (i + 1, true) := fun hf => by
                  unfold cutS
                  rw [← HMN.out, if_neg (by omega), HMN.out, HBI.out]
                  simp [hf]
                have HNF := Lib.hid hnf
                have HYF := Lib.hid hyf
                clear hnf hyf
                by_cases f1 : 64 ≤ (ci.toNat : Int)
                · first
                  | (exfalso; omega)
                  | (by_cases f2 : (ci.toNat : Int) ≤ 126
                     · have hcut := HYF.out (by rw [isFin_iff]; simp [f1, f2])
                       by_cases hm : j < i
                       · have hmi : (j : Int) < (i : Int) := by omega
                         obtain ⟨hjl, hmid⟩ := HMA.out j (by rw [← HPN.out]; exact Nat.le_refl _) (by rw [← HMN.out]; exact hm)
                         have hE : seqT T B = { T with joins := false } := by
                           unfold seqT
                           rw [hcut, if_neg (by simp), if_pos rfl]
                           exact seq_mid _ B j i hp2 hm hil _ hmid
                         have hc1 : ((cutS B).1 : Int) = (i : Int) + 1 := by rw [hcut]; rfl
                         have HE := Lib.hid hE
                         have HC1 := Lib.hid hc1
                         clear hcut hE hc1 hmid hjl hm HCI hil
                         go_wp2_with (first
                           | ((with_reducible refine at_store 58 ?_); refine wpList_store_cell rfl _ _ _ rfl rfl w.heap.size 16 _ (rtC T A c vB) (.bool false) rfl rfl HS0.out.x (by simp [rtC]) (by kernel_rfl) rfl ?_; intro w1 hn hg; have HS1 := Lib.hid (HS0.out.set (T' := { T with joins := false }) hg hn rfl); have e1_i : w1.cell? ⟨b, off + i, none⟩ = some (.int .u8 ci.toNat) := grown_cell hg (by omega) e0_i; clear hn hg)
                           | ((with_reducible refine at_dst 82 ?_); refine wpList_load_mid rfl _ _ rfl w.heap.size 0 rfl (rtC { T with joins := false } A c vB) _ HS1.out.x.whole Tryz.underlying34 rfl rt_size ?_)
                           | ((with_reducible refine at_store 4 ?_); refine wpList_store_blk rfl _ _ _ rfl rfl (w.heap.size + 1) 0 _ rtZ (rtC { T with joins := false } A c vB) rfl rfl HS1.out.z (by simp [rtC, rtZ]) rt_size (rtC_one _ _ _ HV.out) ?_; intro w9 hn9 hg9))
                         rw [HE.out, HC1.out]
                         exact bodyPost_ret (results_ct rfl rfl rfl hn9.whole Tryz.underlying34 rfl rt_size) rfl ⟨_, rfl, HS1.out.fin hg9⟩
                       · exact absurd ⟨by have := HPN.out; have := HMN.out; omega, by have := HMN.out; omega, by have := HMN.out; omega, ci, HBI.out, by rw [isFin_iff]; simp [f1, f2]⟩ HNO.out
                     · have hcut := HNF.out (by rw [isFin_iff]; simp [f2])
                       have hE : seqT T B = { T with joins := false } := by unfold seqT; rw [hcut]; simp; omega
                       have hc1 : (cutS B).1 = i := by rw [hcut]
                       have HE := Lib.hid hE
                       have HC1 := Lib.hid hc1
                       have f2' : 126 < (ci.toNat : Int) := by omega
                       clear hcut hE hc1 HCI hil
                       go_wp2_with (first
                         | ((with_reducible refine at_store 58 ?_); refine wpList_store_cell rfl _ _ _ rfl rfl w.heap.size 16 _ (rtC T A c vB) (.bool false) rfl rfl HS0.out.x (by simp [rtC]) (by kernel_rfl) rfl ?_; intro w1 hn hg; have HS1 := Lib.hid (HS0.out.set (T' := { T with joins := false }) hg hn rfl); have e1_i : w1.cell? ⟨b, off + i, none⟩ = some (.int .u8 ci.toNat) := grown_cell hg (by omega) e0_i; clear hn hg)
                         | ((with_reducible refine at_dst 76 ?_); refine wpList_load_mid rfl _ _ rfl w.heap.size 0 rfl (rtC { T with joins := false } A c vB) _ HS1.out.x.whole Tryz.underlying34 rfl rt_size ?_)
                         | ((with_reducible refine at_store 4 ?_); refine wpList_store_blk rfl _ _ _ rfl rfl (w.heap.size + 1) 0 _ rtZ (rtC { T with joins := false } A c vB) rfl rfl HS1.out.z (by simp [rtC, rtZ]) rt_size (rtC_one _ _ _ HV.out) ?_; intro w9 hn9 hg9))
                       rw [HE.out, HC1.out]
                       exact bodyPost_ret (results_ct rfl rfl rfl hn9.whole Tryz.underlying34 rfl rt_size) rfl ⟨_, rfl, HS1.out.fin hg9⟩)
                · have hcut := HNF.out (by rw [isFin_iff]; simp [f1])
                  have hE : seqT T B = { T with joins := false } := by unfold seqT; rw [hcut]; simp; omega
                  have hc1 : (cutS B).1 = i := by rw [hcut]
                  have HE := Lib.hid hE
                  have HC1 := Lib.hid hc1
                  clear hcut hE hc1 HCI hil
                  go_wp2_with (first
                    | ((with_reducible refine at_store 58 ?_); refine wpList_store_cell rfl _ _ _ rfl rfl w.heap.size 16 _ (rtC T A c vB) (.bool false) rfl rfl HS0.out.x (by simp [rtC]) (by kernel_rfl) rfl ?_; intro w1 hn hg; have HS1 := Lib.hid (HS0.out.set (T' := { T with joins := false }) hg hn rfl); have e1_i : w1.cell? ⟨b, off + i, none⟩ = some (.int .u8 ci.toNat) := grown_cell hg (by omega) e0_i; clear hn hg)
                    | ((with_reducible refine at_dst 76 ?_); refine wpList_load_mid rfl _ _ rfl w.heap.size 0 rfl (rtC { T with joins := false } A c vB) _ HS1.out.x.whole Tryz.underlying34 rfl rt_size ?_)
                    | ((with_reducible refine at_store 4 ?_); refine wpList_store_blk rfl _ _ _ rfl rfl (w.heap.size + 1) 0 _ rtZ (rtC { T with joins := false } A c vB) rfl rfl HS1.out.z (by simp [rtC, rtZ]) rt_size (rtC_one _ _ _ HV.out) ?_; intro w9 hn9 hg9))
                  rw [HE.out, HC1.out]
                  exact bodyPost_ret (results_ct rfl rfl rfl hn9.whole Tryz.underlying34 rfl rt_size) rfl ⟨_, rfl, HS1.out.fin hg9⟩
            · have h32i : ¬ (i : Int) < 32 := by omega
              have hcut : cutS B = (32, false) := by unfold cutS; rw [← HMN.out, if_pos (by omega)]
              have hE : seqT T B = { T with joins := false } := by unfold seqT; rw [hcut]; rfl
              have hc1 : (cutS B).1 = 32 := by rw [hcut]
              have HE := Lib.hid hE
              have HC1 := Lib.hid hc1
              clear hcut hE hc1 hlen
              rcases hy with hin | ⟨ci, e0_i, hin, r1⟩ | ⟨ci, e0_i, hin, r1, r2⟩
              case' inl =>
                have hii : ¬ (i : Int) < (n : Int) := by omega
                have HIN := Lib.hid hin
                clear hin
              case' inr.inl => have hii : (i : Int) < (n : Int) := by omega
              case' inr.inr => have hii : (i : Int) < (n : Int) := by omega
              all_goals
                go_wp2_with (first
                  | ((with_reducible refine at_store 58 ?_); refine wpList_store_cell rfl _ _ _ rfl rfl w.heap.size 16 _ (rtC T A c vB) (.bool false) rfl rfl HS0.out.x (by simp [rtC]) (by kernel_rfl) rfl ?_; intro w1 hn hg; have HS1 := Lib.hid (HS0.out.set (T' := { T with joins := false }) hg hn rfl); clear hn hg)
                  | ((with_reducible refine at_dst 62 ?_); refine wpList_load_mid rfl _ _ rfl w.heap.size 0 rfl (rtC { T with joins := false } A c vB) _ HS1.out.x.whole Tryz.underlying34 rfl rt_size ?_)
                  | ((with_reducible refine at_store 4 ?_); refine wpList_store_blk rfl _ _ _ rfl rfl (w.heap.size + 1) 0 _ rtZ (rtC { T with joins := false } A c vB) rfl rfl HS1.out.z (by simp [rtC, rtZ]) rt_size (rtC_one _ _ _ HV.out) ?_; intro w9 hn9 hg9))
                rw [HE.out, HC1.out]
                exact bodyPost_ret (results_ct rfl rfl rfl hn9.whole Tryz.underlying34 rfl rt_size) rfl ⟨_, rfl, HS1.out.fin hg9⟩
end Go.Proofs.YtfmkeeaenjeneaaGreatDoor
