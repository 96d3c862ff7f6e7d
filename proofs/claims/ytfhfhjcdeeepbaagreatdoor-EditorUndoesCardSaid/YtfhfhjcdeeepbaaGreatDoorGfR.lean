/-
  Walks: the reference's length, number, tails, begins, Next.
  Walks: the reference's begins and Next.
  Walks: the reference's Next; the two ways of decoding come to the same.
  What is encoded decodes. No program is named here.
  Walks: runes.All's iterator.
  Walks: the reference's Runes.
-/
import Derived.Test.YtfhfhjcdeeepbaaGreatDoorGfA
import Derived.RangeFuncNested
import Derived.RangeFuncBound
import Derived.RangeFuncCalls
import Derived.RangeFuncLeaves
import Derived.Shelf.Abstract
import Derived.Shelf.RegionOpen
import Derived.OwnWalkIn
import Derived.TacticsInMore
import Derived.LoopNIn
import Derived.LoopIn
import Derived.Scope
import Derived.Lib.Strings
namespace Go.Proofs.YtfhfhjcdeeepbaaGreatDoor
open Go.RowKit
set_option linter.unusedVariables false

theorem okT_take {t : List UInt8} {j : Nat} (h : j < t.length) : okT (t.take (j + 1)) = (okT (t.take j) && decide (128 ≤ t[j].toNat ∧ t[j].toNat ≤ 191)) := by
  rw [List.take_succ_eq_append_getElem h]; simp only [okT, List.all_append, List.all_cons, List.all_nil, Bool.and_true]
theorem okT_false {t : List UInt8} {j : Nat} (h : j < t.length) (hb : ¬ (128 ≤ (t[j].toNat : Int) ∧ (t[j].toNat : Int) ≤ 191)) : okT t = false := by
  rw [← List.take_append_drop (j + 1) t]
  have := okT_take h
  simp only [okT, List.all_append] at *
  rw [this]
  have e : decide (128 ≤ t[j].toNat ∧ t[j].toNat ≤ 191) = false := by simp; omega
  rw [e]; simp

theorem numT_take {t : List UInt8} {j : Nat} (h : Int) (hj : j < t.length) : numT h (t.take (j + 1)) = numT h (t.take j) * 64 + (t[j].toNat : Int) % 64 := by
  rw [List.take_succ_eq_append_getElem hj]; simp only [numT, List.foldl_append, List.foldl_cons, List.foldl_nil]
theorem numT_bd (h : Int) (h0 : -240 ≤ h) (h1 : h ≤ 255) (t : List UInt8) (ht : t.length ≤ 2) : -1000000 ≤ numT h t ∧ numT h t ≤ 2000000 := by
  match t, ht with
  | [], _ => simp [numT]; omega
  | [a], _ => have := u8c a; simp [numT]; omega
  | [a, b], _ => have := u8c a; have := u8c b; simp [numT]; omega

end Go.Proofs.YtfhfhjcdeeepbaaGreatDoor

namespace Go.Proofs.YtfhfhjcdeeepbaaGreatDoor
open Go.RowKit
set_option linter.unusedVariables false

theorem beg_of {c : UInt8} {t : List UInt8} {k : Nat} {s x y : Int} (h1 : hsz c.toNat = s) (h2 : okT t = true) (h3 : (t.length : Int) + 1 + (k : Int) = s)
    (hx : num (c :: (t ++ List.replicate k 128)) = x) (hy : num (c :: (t ++ List.replicate k 191)) = y) :
    beg (c :: t) = (decide (fromOf s ≤ y) && decide (x ≤ 1114111) && (decide (x < 55296) || decide (57343 < y))) := by
  unfold beg
  simp only
  have hk : (hsz c.toNat - ((t.length : Int) + 1)).toNat = k := by omega
  rw [hk, hx, hy, h2, h1]
  have e : decide ((t.length : Int) + 1 ≤ s) = true := by simp; omega
  rw [e]
  simp [Bool.and_assoc]

end Go.Proofs.YtfhfhjcdeeepbaaGreatDoor

namespace Go.Proofs.YtfhfhjcdeeepbaaGreatDoor
open Go.RowKit
set_option linter.unusedVariables false

theorem rnx_zero {c : UInt8} {t : List UInt8} (h : hsz c.toNat = 0) : rnx (c :: t) = (65533, 1, false) := by simp [rnx, h]
theorem take_cons' (c : UInt8) (t : List UInt8) (s : Nat) (h : 0 < s) : (c :: t).take s = c :: t.take (s - 1) := by
  obtain ⟨s, rfl⟩ : ∃ m, s = m + 1 := ⟨s - 1, by omega⟩
  rfl

end Go.Proofs.YtfhfhjcdeeepbaaGreatDoor

namespace Go.Proofs.YtfhfhjcdeeepbaaGreatDoor
set_option linter.unusedVariables false

set_option maxRecDepth 100000 in
theorem nx_enc (r : Int) (h : isR r) (l : List UInt8) : nx (enc r ++ l) = (r, ((enc r).length : Int), false) := by
  have h0 : 0 ≤ r := h.1
  have h1 : r ≤ 1114111 := h.2.1
  have h2 := h.2.2
  unfold enc
  by_cases c1 : r < 128
  · rw [if_pos c1]
    simp only [List.cons_append, List.nil_append, nx, by8_val r (by omega) (by omega)]
    rw [if_neg (by unfold hsz; (repeat' split) <;> omega), if_pos (by unfold hsz; (repeat' split) <;> omega)]
    rfl
  · rw [if_neg c1]
    by_cases c2 : r < 2048
    · rw [if_pos c2]
      have e1 := by8_val (192 + r / 64) (by omega) (by omega)
      have e2 := by8_val (128 + r % 64) (by omega) (by omega)
      have hs : hsz (192 + r / 64) = 2 := by unfold hsz; (repeat' split) <;> omega
      have hl : hlo (192 + r / 64) = 128 := by unfold hlo; (repeat' split) <;> omega
      have hh : hhi (192 + r / 64) = 191 := by unfold hhi; (repeat' split) <;> omega
      have hf : fst (192 + r / 64) = r / 64 := by unfold fst; rw [hs]; simp; omega
      simp only [List.cons_append, List.nil_append, nx, e1, hs, hl, hh, hf]
      simp [nxt, e2]
      rw [if_neg (by omega)]
      simp
      omega
    · rw [if_neg c2]
      by_cases c3 : r < 65536
      · rw [if_pos c3]
        have e1 := by8_val (224 + r / 4096) (by omega) (by omega)
        have e2 := by8_val (128 + r / 64 % 64) (by omega) (by omega)
        have e3 := by8_val (128 + r % 64) (by omega) (by omega)
        have hs : hsz (224 + r / 4096) = 3 := by unfold hsz; (repeat' split) <;> omega
        have hl : hlo (224 + r / 4096) ≤ 128 + r / 64 % 64 := by unfold hlo; (repeat' split) <;> omega
        have hh : 128 + r / 64 % 64 ≤ hhi (224 + r / 4096) := by unfold hhi; (repeat' split) <;> omega
        have hf : fst (224 + r / 4096) = r / 4096 := by unfold fst; rw [hs]; simp; omega
        simp only [List.cons_append, List.nil_append, nx, e1, hs, hf]
        simp [nxt, e2, e3]
        rw [if_neg (by omega), if_neg (by omega)]
        simp
        omega
      · rw [if_neg c3]
        have e1 := by8_val (240 + r / 262144) (by omega) (by omega)
        have e2 := by8_val (128 + r / 4096 % 64) (by omega) (by omega)
        have e3 := by8_val (128 + r / 64 % 64) (by omega) (by omega)
        have e4 := by8_val (128 + r % 64) (by omega) (by omega)
        have hs : hsz (240 + r / 262144) = 4 := by unfold hsz; (repeat' split) <;> omega
        have hl : hlo (240 + r / 262144) ≤ 128 + r / 4096 % 64 := by unfold hlo; (repeat' split) <;> omega
        have hh : 128 + r / 4096 % 64 ≤ hhi (240 + r / 262144) := by unfold hhi; (repeat' split) <;> omega
        have hf : fst (240 + r / 262144) = r / 262144 := by unfold fst; rw [hs]; simp; omega
        simp only [List.cons_append, List.nil_append, nx, e1, hs, hf]
        simp [nxt, e2, e3, e4]
        rw [if_neg (by omega), if_neg (by omega), if_neg (by omega)]
        simp
        omega
end Go.Proofs.YtfhfhjcdeeepbaaGreatDoor

namespace Go.Proofs.YtfhfhjcdeeepbaaGreatDoor
open Go.RowKit Go.Shelf
attribute [local go_sem] Oper.semAt_some
set_option linter.unusedVariables false

theorem keeps_of_below {W W' : World} (h : Below W.heap.size W W') : KeepsOthers W W' :=
  ⟨h.size, fun k o hk _ => by
    have hl : k < W.heap.size := (Array.getElem?_eq_some_iff.1 hk).1
    rw [h.block k hl]; exact hk⟩

theorem cell_lt' {w : World} {b o : Nat} {v : Value} (h : w.cell? ⟨b, o, none⟩ = some v) : b < w.heap.size := by
  rcases Nat.lt_or_ge b w.heap.size with h' | h'
  · exact h'
  · simp [World.cell?, Array.getElem?_eq_none h'] at h

theorem sl_bytesRow (w : World) (s : ByteArray) (c : Nat) (t : TypeId) (fr : Nat × Nat) : Sl (w.alloc (.cells (bytesRow s c) t fr)) (w.heap.size + 1) (some ⟨w.heap.size, 0, none⟩) (bv s.data.toList) := by
  refine .inr ⟨w.heap.size, 0, rfl, by omega, fun j u hu => ?_⟩
  rw [Nat.zero_add, World.cell?_alloc_mark]
  unfold bytesRow
  have hj : j < s.data.size := by
    have := (List.getElem?_eq_some_iff.1 hu).1
    simpa [bv] using this
  rw [Array.getElem?_append_left (by simpa using hj)]
  simpa [bv] using hu

theorem run_bytes_str (w : World) (s : ByteArray) : ∃ c fr, Sem.run Tryz.prog (Go.convert 9 71 (.string s)) w = .ok (.slice (some ⟨w.heap.size, 0, none⟩) s.size c) (w.drew.alloc (.cells (bytesRow s c) 5 fr)) ∧ s.size ≤ c ∧ (s.size ≤ maxLen → c ≤ maxLen) :=
  ⟨_, _, run_bytes_of_string w 9 71 5 s Tryz.underlying9 Tryz.underlying71 Tryz.underlying5, grownCap_ge _ _ _ _, grownCap_le_maxLen _ _ _ _⟩

set_option maxHeartbeats 400000 in
theorem all_any (s : ByteArray) (w : World) :
    Calls Tryz.prog 83 #[.string s] w fun e w' => e = .returned (.func (.func 107) #[] #[.pointer (some ⟨w.heap.size, 0, none⟩)]) ∧ w' = w.alloc (.cells #[.string s] 9) := by
  go_enter Tryz.func83, Tryz.ntmps83
  go_wp2
  go_ret
  exact ⟨rfl, rfl⟩

def encR (x : Nat × Int) : Array Value := #[.int .i64 x.1, .int .i32 x.2]

set_option maxRecDepth 100000 in
set_option maxHeartbeats 2000000 in
theorem all1_in (n : Nat) (hn : 1 ≤ n) (l Bn : Nat) (s : ByteArray) (hs : s.size ≤ 4000000) (J Jx : List (Nat × Int) → World → Prop)
    (n₀ : Nat) (hBn : Bn < n₀) (W : World) (hW : n₀ ≤ W.heap.size) (hJ : ∀ q A B, J q A → W.heap.size ≤ A.heap.size → Below A.heap.size A B → J q B) (hJw : ∀ q A, J q A → W.heap.size ≤ A.heap.size ∧ A.cell? ⟨Bn, 0, none⟩ = some (.string s))
    (hY : ∀ pre x W1, J pre W1 → pre.length < s.size → YieldAt Fence.wide (n - 1) Tryz.prog l (encR x) W1 fun e W' =>
      (e = .returned (.bool true) ∧ J (pre ++ [x]) W') ∨ (e = .returned (.bool false) ∧ Jx (pre ++ [x]) W'))
    (h0 : J [] W) :
    CallsIn Fence.wide n Tryz.prog 107 #[.func (.yield l) #[] #[], .pointer (some ⟨Bn, 0, none⟩)] W fun e W' => (∃ v, e = .returned v) ∧
      ((∃ ys, ys = rnsOf s.data.toList ∧ J ys W') ∨ (∃ pre, pre <+: rnsOf s.data.toList ∧ Jx pre W')) := by
  refine callsIn_of_wp Tryz.func107 rfl trivial ?_ rfl
  simp only [Tryz.ntmps107, List.size_toArray, List.length_cons, List.length_nil, Nat.reduceAdd, Nat.reduceSub, Array.replicate_succ, Array.replicate_zero, List.push_toArray, List.append_toArray, List.nil_append, List.cons_append]
  generalize hL : s.data.toList = L
  have hLs : L.length = s.size := by rw [← hL]; rfl
  have HL := Lib.hid hL
  have HLs := Lib.hid hLs
  clear hL hLs
  have HJ := Lib.hid hJ
  have HJw := Lib.hid hJw
  clear hJ hJw
  gi_wp2
  refine wpIn_wide.2 (wp_scope_straight ((wpIn_wide (n := n)).1 ?_))
  refine wpIn_seq ?_
  refine wpIn_label ?_
  show Code.wpIn _ _ _ _ _ _ _
  gi_wp2
  gi_loopw [3] (fun a wr => ∃ (k : Nat) (pre : List (Nat × Int)), a = .int .i64 k ∧ k ≤ s.size + 4 ∧ rnsOf L = pre ++ rnsAt L k ∧ J pre wr ∧ pre.length ≤ k) (fun a _ => s.size + 4 - (intOf a).toNat)
  case atStart => exact ⟨0, [], rfl, by omega, rfl, h0, by simp⟩
  case round =>
    obtain ⟨k, pre, rfl, hk, hpre, hJp, hpl⟩ := hrel
    have HP := Lib.hid hpre
    have HJp := Lib.hid hJp
    have hw1 := HJw.out _ _ hJp
    have hc := hw1.2
    have hw2 := hw1.1
    clear hpre hJp hw1 h0
    by_cases hlt : k < s.size
    · have hlt' : (k : Int) < (s.size : Int) := by omega
      gi_wp2
      gi_loopw [3, 4] (fun a e wr => ∃ j : Nat, a = .int .i64 k ∧ e = .int .i64 ((k : Int) + (j : Int) + 1) ∧ k + j ≤ s.size ∧ (nx ((L.drop k).take j)).2.2 = true ∧ J pre wr) (fun _ e _ => s.size + 2 - (intOf e).toNat)
      case atStart => exact ⟨0, rfl, by go_num, by omega, rfl, HJp.out⟩
      case round =>
        rename_i wr2
        obtain ⟨j, rfl, rfl, hj, hmore, hJ2⟩ := hrel
        have HM := Lib.hid hmore
        have HJ2 := Lib.hid hJ2
        have hw1 := HJw.out _ _ hJ2
        have hc2 := hw1.2
        have hw3 := hw1.1
        clear hmore hJ2 hw1 hc hw2
        by_cases hle : k + j < s.size
        · have hle' : (k : Int) + (j : Int) + 1 ≤ (s.size : Int) := by omega
          have hb1 : (k : Int) ≤ (k : Int) + (j : Int) + 1 := by omega
          obtain ⟨cp, fr, hcv, _, _⟩ := run_bytes_str wr (s.extract k (k + j + 1))
          have hsz : (s.extract k (k + j + 1)).size = j + 1 := by rw [ByteArray.size_extract]; omega
          rw [hsz] at hcv
          have hdat : (s.extract k (k + j + 1)).data.toList = (L.drop k).take (j + 1) := by
            rw [Lib.extract_data, HL.out]
            congr 1
            omega
          have hSl := sl_bytesRow wr.drew (s.extract k (k + j + 1)) cp 5 fr
          rw [hdat] at hSl
          have HSl := Lib.hid hSl
          have hlen : ((L.drop k).take (j + 1)).length = j + 1 := by have := HLs.out; simp; omega
          have HLen := Lib.hid hlen
          have HD := Lib.hid hdat
          clear hSl hlen hsz hdat
          gi_wp2
          refine ⟨trivial, ?_⟩
          have hb0 : Below wr.heap.size wr (wr.alloc (.cells (bytesRow (s.extract k (k + j + 1)) cp) 5 fr)).drew := ((Below.refl _ _).alloc (Nat.le_refl _) _).drew
          have hSl2 : Sl (wr.alloc (.cells (bytesRow (s.extract k (k + j + 1)) cp) 5 fr)).drew (wr.heap.size + 1) (some ⟨wr.heap.size, 0, none⟩) (bv ((L.drop k).take (j + 1))) := HSl.out
          refine (callsIn_wide.2 (next_any (some ⟨wr.heap.size, 0, none⟩) (j + 1) cp ((L.drop k).take (j + 1)) (wr.heap.size + 1) _ HLen.out.symm (by have := HLen.out; omega) hSl2)).mono ?_
          rintro e w9 ⟨rfl, hb9⟩
          have hbw : Below wr.heap.size wr w9 := hb0.trans (hb9.mono (by simp))
          have hJ9 := HJ.out _ _ _ HJ2.out hw3 hbw
          have hc9 := (HJw.out _ _ hJ9).2
          have hw9 := (HJw.out _ _ hJ9).1
          have HJ9 := Lib.hid hJ9
          clear hb0 hSl2 hb9 hcv HSl hbw hJ9
          simp only [nv]
          by_cases hm : (nx ((L.drop k).take (j + 1))).2.2 = true
          · have HM2 := Lib.hid hm
            rw [hm]
            clear hm
            gi_wp2
            refine ⟨⟨j + 1, rfl, by go_num, by omega, HM2.out, HJ9.out⟩, by simp only [intOf]; omega⟩
          · have hm' : (nx ((L.drop k).take (j + 1))).2.2 = false := by simpa using hm
            have hst := stp_pre ((L.drop k).take (j + 1)) ((L.drop k).drop (j + 1)) hm'
            rw [List.take_append_drop] at hst
            have hnn := nx_n _ hm'
            rw [hm']
            generalize hx : (nx ((L.drop k).take (j + 1))).1 = x at hst ⊢
            generalize hn' : (nx ((L.drop k).take (j + 1))).2.1 = m at hst hnn ⊢
            have hstep := rnsAt_step L k (by rw [HLs.out]; exact hlt)
            rw [hst] at hstep
            have HP2 : Hid (rnsOf L = (pre ++ [(k, x)]) ++ rnsAt L (k + m.toNat)) := by
              have := HP.out
              rw [hstep] at this
              rw [this]; simp [Hid]
            clear hm hm' hst hx hn' hstep HD HLen HM
            obtain ⟨m, rfl⟩ := Int.eq_ofNat_of_zero_le (by omega : 0 ≤ m)
            rw [Int.toNat_natCast] at HP2
            obtain ⟨fn, tmps, assign, body, hy, hR⟩ := hY pre (k, x) w9 HJ9.out (by omega)
            simp only [encR] at hy
            gi_wp2
            refine hR.mono ?_
            rintro e W3 (⟨rfl, hJ3⟩ | ⟨rfl, hJ3⟩)
            · gi_wp2
              exact ⟨⟨k + m, pre ++ [(k, x)], by go_num, by omega, HP2.out, hJ3, by simp; omega⟩, by simp only [intOf]; omega⟩
            · gi_wp2
              rw [Exit.noGoto_ret]
              refine bodyPost_ret (results_none rfl _ _ _) rfl ?_
              exact ⟨⟨_, rfl⟩, .inr ⟨pre ++ [(k, x)], ⟨_, HP2.out.symm⟩, hJ3⟩⟩
        · have hle' : ¬ (k : Int) + (j : Int) + 1 ≤ (s.size : Int) := by omega
          have hjk : k + j = s.size := by omega
          have htk : (L.drop k).take j = L.drop k := List.take_of_length_le (by have := HLs.out; simp; omega)
          have hst := stp_more (L.drop k) (by have := HM.out; rw [htk] at this; exact this)
          have hstep := rnsAt_step L k (by rw [HLs.out]; exact hlt)
          rw [hst] at hstep
          have HP2 : Hid (rnsOf L = (pre ++ [(k, 65533)]) ++ rnsAt L (k + 1)) := by
            have := HP.out
            rw [hstep] at this
            rw [this]; simp [Hid]
          clear hst hstep htk hjk HM
          obtain ⟨fn, tmps, assign, body, hy, hR⟩ := hY pre (k, 65533) wr HJ2.out (by omega)
          simp only [encR] at hy
          gi_wp2
          refine hR.mono ?_
          rintro e W3 (⟨rfl, hJ3⟩ | ⟨rfl, hJ3⟩)
          · gi_wp2
            exact ⟨⟨k + 1, pre ++ [(k, 65533)], by go_num, by omega, HP2.out, hJ3, by simp; omega⟩, by simp only [intOf]; omega⟩
          · gi_wp2
            rw [Exit.noGoto_ret]
            refine bodyPost_ret (results_none rfl _ _ _) rfl ?_
            exact ⟨⟨_, rfl⟩, .inr ⟨pre ++ [(k, 65533)], ⟨_, HP2.out.symm⟩, hJ3⟩⟩
    · have hge : ¬ (k : Int) < (s.size : Int) := by omega
      have he := rnsAt_end L k (by have := HLs.out; omega)
      have HP2 : Hid (rnsOf L = pre) := by
        have := HP.out
        rw [he] at this
        rw [this]; simp [Hid]
      clear he hlt
      gi_wp2
      go_end0
      exact ⟨⟨_, rfl⟩, .inl ⟨pre, HP2.out.symm, HJp.out⟩⟩

/-- What a round must keep: below a block all lies as it lay; the text's box holds the text. -/
def KpS (n₀ Bn : Nat) (s : ByteArray) (A B : World) : Prop := Below n₀ A B ∧ (A.cell? ⟨Bn, 0, none⟩ = some (.string s) → B.cell? ⟨Bn, 0, none⟩ = some (.string s))
theorem KpS.t {n₀ Bn : Nat} {s : ByteArray} {A B C : World} (h : KpS n₀ Bn s A B) (k : KpS n₀ Bn s B C) : KpS n₀ Bn s A C := ⟨h.1.trans k.1, fun e => k.2 (h.2 e)⟩
theorem KpS.b {n₀ Bn : Nat} {s : ByteArray} {w : World} (hn : n₀ ≤ w.heap.size) : ∀ (W : World) (l : Nat) (o o' : Obj), w.heap.size ≤ l → W.heap[l]? = some o → o.isCells = false → o.isWalk = false → KpS n₀ Bn s W (W.putObj l o') := by
  intro W l o o' hl ho hc hw
  refine ⟨belowK_b hn W l o o' hl ho hc hw, fun e => ?_⟩
  have hne : Bn ≠ l := by
    intro h
    subst h
    simp only [World.cell?, ho] at e
    cases o <;> simp_all [Obj.isCells]
  have hg := grownBy_putObj' W l o'
  have hlt := cell_lt' e
  rw [World.cell?_of_block (hg.block Bn hlt (by intro h; injection h with h; exact hne h))]
  exact e

theorem all_stops (n : Nat) (hn : 1 ≤ n) (Bn n₀ : Nat) (s : ByteArray) (hs : s.size ≤ 4000000) (w : World) (hc : w.cell? ⟨Bn, 0, none⟩ = some (.string s)) :
    SeqStopsK Fence.wide n Tryz.prog 107 #[.pointer (some ⟨Bn, 0, none⟩)] encR (KpS n₀ Bn s) (fun ys => ys = rnsOf s.data.toList) (fun pre => pre <+: rnsOf s.data.toList) s.size w := by
  intro l J Jx W hW hJ hJx hY h0
  have hlt := cell_lt' hc
  have hcW : W.cell? ⟨Bn, 0, none⟩ = some (.string s) := (hW.cell (p := ⟨Bn, 0, none⟩) hlt).trans hc
  have hltW := cell_lt' hcW
  refine (all1_in n hn l Bn s hs (fun q A => J q A ∧ W.heap.size ≤ A.heap.size ∧ A.cell? ⟨Bn, 0, none⟩ = some (.string s)) Jx (Bn + 1) (by omega) W (by omega) ?_ (fun q A h => h.2) ?_ ⟨h0, Nat.le_refl _, hcW⟩).mono ?_
  · rintro q A B ⟨hj, hsz, hcA⟩ _ hb
    exact ⟨hJ q A B none hj (grown_of_below hb) (fun r h => by cases h), Nat.le_trans hsz hb.size, (hb.cell (p := ⟨Bn, 0, none⟩) (cell_lt' hcA)).trans hcA⟩
  · rintro pre x W1 ⟨hj, hsz, hcA⟩ hlen
    refine (hY pre x W1 hj hlen).mono ?_
    rintro e W' (⟨he, hj', hk⟩ | ⟨he, hj'⟩)
    · exact .inl ⟨he, hj', Nat.le_trans hsz hk.1.size, hk.2 hcA⟩
    · exact .inr ⟨he, hj'⟩
  · rintro e W' ⟨hv, h | h⟩
    · obtain ⟨ys, hy, hj, _⟩ := h
      exact ⟨hv, .inl ⟨ys, hy, hj⟩⟩
    · exact ⟨hv, .inr h⟩

end Go.Proofs.YtfhfhjcdeeepbaaGreatDoor

namespace Go.Proofs.YtfhfhjcdeeepbaaGreatDoor
open Go.RowKit
set_option linter.unusedVariables false

def rv (xs : List (Nat × Int)) : List Value := xs.map fun x => .int .i32 x.2
def av (xs : List (Nat × Int)) : List Value := xs.map fun x => .int .i64 x.1
theorem rnsAt_le (l : List UInt8) : ∀ (f a : Nat) (m : List UInt8), (rns f a m).length ≤ f := by
  intro f
  induction f with
  | zero => intro a m; simp [rns]
  | succ f ih =>
    intro a m
    rw [rns]
    split
    · simp
    · have := ih (a + (stp m).2) (m.drop (stp m).2)
      simp; omega
theorem rnsOf_le (l : List UInt8) : (rnsOf l).length ≤ l.length := rnsAt_le l _ _ _

theorem add_plain (b off k : Nat) : (some (⟨b, off, none⟩ : Addr)).map (·.add k) = some ⟨b, off + k, none⟩ := by
  by_cases h : k = 0 <;> simp [Addr.add, h]

end Go.Proofs.YtfhfhjcdeeepbaaGreatDoor

