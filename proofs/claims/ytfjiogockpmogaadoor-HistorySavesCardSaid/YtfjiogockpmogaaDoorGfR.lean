/-
  Walks: the reference's length, number, tails, begins, Next.
  Walks: the reference's begins and Next.
  Walks: the reference's Next; the two ways of decoding come to the same.
  What is encoded decodes. No program is named here.
  Walks: runes.All's iterator.
  Walks: the reference's Runes.
-/
import Derived.Test.YtfjiogockpmogaaDoorGfA
import Derived.RangeFuncNested
import Derived.RangeFuncBound
import Derived.RangeFuncCalls
import Derived.RangeFuncLeaves
import Derived.Shelf.Abstract
import Derived.Shelf.RegionOpen
import Derived.OwnWalkIn
import Derived.TacticsInMore
import Derived.LoopNIn
import Derived.LoopIn
import Derived.Scope
import Derived.Lib.Strings
namespace Go.Proofs.YtfjiogockpmogaaDoor
open Go.RowKit
set_option linter.unusedVariables false

set_option maxHeartbeats 400000 in
theorem length_any (c : Int) (w : World) (h0 : 0 ≤ c) (h1 : c < 256) :
    Calls Tryd.prog 101 #[.int .u8 c] w fun e w' => e = .returned (.int .i64 (hsz c)) ∧ w = w' := by
  have hcase : c < 128 ∨ (128 ≤ c ∧ c < 194) ∨ (194 ≤ c ∧ c < 224) ∨ (224 ≤ c ∧ c < 240) ∨ (240 ≤ c ∧ c < 245) ∨ 245 ≤ c := by omega
  rcases hcase with h | h | h | h | h | h
  all_goals
    go_enter Tryd.func101, Tryd.ntmps101
    go_wp2
    go_ret
    exact ⟨ret_int (by unfold hsz; (repeat' split) <;> omega), rfl⟩

theorem okT_take {t : List UInt8} {j : Nat} (h : j < t.length) : okT (t.take (j + 1)) = (okT (t.take j) && decide (128 ≤ t[j].toNat ∧ t[j].toNat ≤ 191)) := by
  rw [List.take_succ_eq_append_getElem h]; simp only [okT, List.all_append, List.all_cons, List.all_nil, Bool.and_true]
theorem okT_false {t : List UInt8} {j : Nat} (h : j < t.length) (hb : ¬ (128 ≤ (t[j].toNat : Int) ∧ (t[j].toNat : Int) ≤ 191)) : okT t = false := by
  rw [← List.take_append_drop (j + 1) t]
  have := okT_take h
  simp only [okT, List.all_append] at *
  rw [this]
  have e : decide (128 ≤ t[j].toNat ∧ t[j].toNat ≤ 191) = false := by simp; omega
  rw [e]; simp

set_option maxHeartbeats 400000 in
theorem tails_any (A : Option Addr) (n cap : Nat) (c : UInt8) (t : List UInt8) (B : Nat) (w : World) (hn : n = t.length + 1) (hm : t.length < 9000000000000000000) (hS : Sl w B A (bv (c :: t))) :
    Calls Tryd.prog 115 #[.slice A n cap] w fun e w' => e = .returned (.bool (okT t)) ∧ w = w' := by
  subst hn
  obtain ⟨b, off, rfl, _, hcell⟩ := hS.open_ (by simp [bv_length])
  have Hcell := Lib.hid hcell
  clear hcell hS
  go_enter Tryd.func115, Tryd.ntmps115
  go_wp2
  go_loop [3] (fun i => ∃ j : Nat, i = .int .i64 ((j : Int) + 1) ∧ j ≤ t.length ∧ okT (t.take j) = true) (fun i => t.length + 1 - (intOf i).toNat)
  case atStart => exact ⟨0, rfl, by omega, rfl⟩
  case round =>
    obtain ⟨j, rfl, hj, ho⟩ := hrel
    have HO := Lib.hid ho
    clear ho
    by_cases hlen : j < t.length
    · have hx := Hcell.out (j + 1) _ (by rw [bv_get (by simp; omega)])
      simp only [List.getElem_cons_succ] at hx
      have hxu := u8c t[j]
      have hin : (j : Int) + 1 < (t.length : Int) + 1 := by omega
      have hstep := Lib.hid (okT_take hlen)
      have hfal := Lib.hid (okT_false hlen)
      generalize hxv : t[j] = x at hx hxu hstep hfal
      clear hxv
      by_cases h1 : (x.toNat : Int) < 128
      · go_wp2
        go_ret
        exact ⟨ret_bool (hfal.out (by omega)).symm, rfl⟩
      · by_cases h2 : 191 < (x.toNat : Int)
        · go_wp2
          go_ret
          exact ⟨ret_bool (hfal.out (by omega)).symm, rfl⟩
        · have hd : decide (128 ≤ x.toNat ∧ x.toNat ≤ 191) = true := by simp; omega
          have HD := Lib.hid hd
          clear hd
          go_wp2
          go_round
          case rel => exact ⟨j + 1, by go_num, by omega, by rw [hstep.out, HO.out, HD.out]; rfl⟩
          case measure => simp [intOf]; omega
    · have hge : ¬ (j : Int) + 1 < (t.length : Int) + 1 := by omega
      have e : t.take j = t := List.take_of_length_le (by omega)
      have E := Lib.hid e
      clear e
      go_wp2
      go_ret
      exact ⟨ret_bool (by rw [← HO.out, E.out]), rfl⟩

theorem numT_take {t : List UInt8} {j : Nat} (h : Int) (hj : j < t.length) : numT h (t.take (j + 1)) = numT h (t.take j) * 64 + (t[j].toNat : Int) % 64 := by
  rw [List.take_succ_eq_append_getElem hj]; simp only [numT, List.foldl_append, List.foldl_cons, List.foldl_nil]
theorem numT_bd (h : Int) (h0 : -240 ≤ h) (h1 : h ≤ 255) (t : List UInt8) (ht : t.length ≤ 2) : -1000000 ≤ numT h t ∧ numT h t ≤ 2000000 := by
  match t, ht with
  | [], _ => simp [numT]; omega
  | [a], _ => have := u8c a; simp [numT]; omega
  | [a, b], _ => have := u8c a; have := u8c b; simp [numT]; omega

set_option maxHeartbeats 1000000 in
theorem rnum_any (A : Option Addr) (n cap : Nat) (c : UInt8) (t : List UInt8) (B : Nat) (w : World) (hn : n = t.length + 1) (hm : t.length ≤ 3) (hS : Sl w B A (bv (c :: t))) (hB : B ≤ w.heap.size) :
    Calls Tryd.prog 103 #[.slice A n cap] w fun e w' => e = .returned (.int .i32 (num (c :: t))) ∧ Below w.heap.size w w' := by
  subst hn
  obtain ⟨b, off, rfl, hbB, hcell⟩ := hS.open_ (by simp [bv_length])
  have hc0 : w.cell? ⟨b, off, none⟩ = some (.int .u8 c.toNat) := hcell 0 _ rfl
  have hcu := u8c c
  have Hcell := Lib.hid hcell
  have hbw : b < w.heap.size := by omega
  have hold : ∀ o i, (w.alloc o).cell? ⟨b, i, none⟩ = w.cell? ⟨b, i, none⟩ := fun o i => World.cell?_alloc_lt w o _ hbw
  clear hcell hS
  have ht : t.length = 0 ∨ t.length = 1 ∨ t.length = 2 ∨ t.length = 3 := by omega
  rcases ht with ht | ht | ht | ht
  · have e := List.eq_nil_of_length_eq_zero ht
    subst e
    clear ht hm
    go_enter Tryd.func103, Tryd.ntmps103
    go_wp2
    go_ret
    exact ⟨rfl, (Below.refl _ _).alloc (Nat.le_refl _) _⟩
  all_goals
    go_enter Tryd.func103, Tryd.ntmps103
    go_wp2
    go_quiet (fail)
    go_wp2
    go_loop [4, 5] (fun r i => ∃ j : Nat, i = .int .i64 ((j : Int) + 1) ∧ j ≤ t.length ∧ r = .int .i32 (numT (c.toNat - headOf (t.length + 1)) (t.take j))) (fun _ i => 4 - (intOf i).toNat)
    case atStart => exact ⟨0, rfl, by omega, by simp [numT, headOf, ht]⟩
    case round =>
      obtain ⟨j, rfl, hj, rfl⟩ := hrel
      by_cases hlen : j < t.length
      · have hx := Hcell.out (j + 1) _ (by rw [bv_get (by simp; omega)])
        simp only [List.getElem_cons_succ] at hx
        have hxu := u8c t[j]
        have hin : (j : Int) + 1 < (t.length : Int) + 1 := by omega
        have hh : -240 ≤ (c.toNat : Int) - headOf (t.length + 1) ∧ (c.toNat : Int) - headOf (t.length + 1) ≤ 255 := by unfold headOf; (repeat' split) <;> omega
        have hbd := numT_bd _ hh.1 hh.2 (t.take j) (by simp; omega)
        have hstep := Lib.hid (numT_take ((c.toNat : Int) - headOf (t.length + 1)) hlen)
        generalize hxv : t[j] = x at hx hxu hstep
        generalize hR : numT ((c.toNat : Int) - headOf (t.length + 1)) (t.take j) = R at hbd hstep
        have hlt : (j : Int) + 1 < (t.length : Int) + 1 := by omega
        clear hxv hR hh
        go_wp2
        go_round
        case rel => exact ⟨j + 1, by go_num, by omega, by rw [hstep.out]⟩
        case measure => simp [intOf]; omega
      · have hge : ¬ (j : Int) + 1 < (t.length : Int) + 1 := by omega
        have e : t.take j = t := List.take_of_length_le (by omega)
        have E := Lib.hid e
        have hnum : num (c :: t) = numT (c.toNat - headOf (t.length + 1)) t := by
          match t, ht with
          | d :: t', _ => rfl
        have Hnum := Lib.hid hnum
        clear e hnum
        go_wp2
        go_ret
        exact ⟨ret_int (by rw [E.out, Hnum.out, ht]), ((Below.refl _ _).alloc (Nat.le_refl _) _).trans ⟨rfl, rfl, rfl, Nat.le_refl _, fun _ _ => rfl⟩⟩
end Go.Proofs.YtfjiogockpmogaaDoor

namespace Go.Proofs.YtfjiogockpmogaaDoor
open Go.RowKit
set_option linter.unusedVariables false

theorem beg_of {c : UInt8} {t : List UInt8} {k : Nat} {s x y : Int} (h1 : hsz c.toNat = s) (h2 : okT t = true) (h3 : (t.length : Int) + 1 + (k : Int) = s)
    (hx : num (c :: (t ++ List.replicate k 128)) = x) (hy : num (c :: (t ++ List.replicate k 191)) = y) :
    beg (c :: t) = (decide (fromOf s ≤ y) && decide (x ≤ 1114111) && (decide (x < 55296) || decide (57343 < y))) := by
  unfold beg
  simp only
  have hk : (hsz c.toNat - ((t.length : Int) + 1)).toNat = k := by omega
  rw [hk, hx, hy, h2, h1]
  have e : decide ((t.length : Int) + 1 ≤ s) = true := by simp; omega
  rw [e]
  simp [Bool.and_assoc]

set_option maxRecDepth 100000 in
set_option maxHeartbeats 1000000 in
theorem begins_any (A : Option Addr) (n cap : Nat) (c : UInt8) (t : List UInt8) (B : Nat) (w : World) (hn : n = t.length + 1) (hm : (t.length : Int) + 1 ≤ hsz c.toNat) (hS : Sl w B A (bv (c :: t))) (hB : B ≤ w.heap.size) :
    Calls Tryd.prog 102 #[.slice A n cap] w fun e w' => e = .returned (.bool (beg (c :: t))) ∧ Below w.heap.size w w' := by
  subst hn
  have hs4 := hsz_cases c.toNat
  obtain ⟨b, off, rfl, hbB, hcell⟩ := hS.open_ (by simp [bv_length])
  have hc0 : w.cell? ⟨b, off, none⟩ = some (.int .u8 c.toNat) := hcell 0 _ rfl
  have hcu := u8c c
  have HS := Lib.hid hS
  have hbw : b < w.heap.size := by omega
  have hgt : ¬ (hsz c.toNat < (t.length : Int) + 1) := by omega
  have H4 := Lib.hid hs4
  have hm3 : t.length ≤ 3 := by omega
  have Hm := Lib.hid hm
  clear hcell hS hs4
  generalize hk : hsz c.toNat = s at hm hgt
  have HK := Lib.hid hk
  clear hk hm
  by_cases hok : okT t = true
  · have HO := Lib.hid hok
    clear hok
    go_enter Tryd.func102, Tryd.ntmps102
    go_wp2_with (first
      | (go_at_call 101; refine (length_any _ _ (by omega) (by omega)).mono ?_; rintro e w' ⟨rfl, rfl⟩; rw [HK.out])
      | (go_at_call 115; refine (tails_any _ _ _ c t B _ rfl (by omega) HS.out).mono ?_; rintro e w' ⟨rfl, rfl⟩; rw [HO.out])
      | (at_builtin
         refine wpList_app_u8 _ rfl (.tmp 22) (.tmp 23) rfl w.heap.size (some ⟨w.heap.size, 0, none⟩) 0 0 [] rfl (OB.lit w [] (Nat.le_refl _) (by simp)) _ (t.length + 1) cap (c :: t) B rfl (HS.out.alloc hB _) (by simp) (fun h => by cases h) (t.length + 1) (by omega) (by omega) (by simp) ?_
         intro A1 c1 w1 hown1 hg1 hat1
         have hb1 : Below w.heap.size w w1 := ((Below.refl _ _).alloc (Nat.le_refl _) _).grown hg1 (by simp) (by simp [blk]))
      | (at_builtin
         go_loud (refine wpList_app_u8 _ rfl (.tmp 25) (.tmp 26) rfl w.heap.size (some ⟨w1.heap.size, 0, none⟩) 0 0 [] rfl (OB.lit w1 [] hb1.size (by simp)) _ (t.length + 1) cap (c :: t) B rfl ((HS.out.below (hb1.mono hB)).alloc (by have := hb1.size; omega) _) (by simp) (fun h => by cases h) (t.length + 1) (by omega) (by omega) (by have := hb1.size; simp; omega) ?_)
         intro A2 c2 w2 hown2 hg2 hat2))
    have hb2 : Below w.heap.size w w2 := (hb1.alloc hb1.size _).grown hg2 (by have := hb1.size; simp; omega) (by have := hb1.size; simp [blk]; omega)
    have hne : blk A1 ≠ blk A2 := by
      intro e
      have l1 := hown1.blk_lt
      have s1 : (w.alloc (Obj.cells #[] 5)).heap.size ≤ w1.heap.size := hg1.size
      rcases hat2 with h | h
      · have := (l1 _ (e.trans h)).2; simp at this
      · have := (l1 _ (e.trans h)).2; simp at this; omega
    have hk1 : OB w2 w.heap.size A1 (t.length + 1) c1 ([] ++ c :: t) := (hown1.alloc _).kept hg2 (.inr (by
      intro e
      have := (hown1.blk_lt _ e).2
      simp at this))
    have Hlt := Lib.hid hown2
    clear hg1 hg2 hat1 hat2 hown1 hb1
    generalize hB0 : w.heap.size = B0 at *
    have HB0 := Lib.hid hB0
    clear hB0
    go_loopw [4, 5] (fun v4 v5 w' => ∃ (k : Nat) (A4 : Option Addr) (c4 : Nat) (A5 : Option Addr) (c5 : Nat), ((t.length + 1 + k : Nat) : Int) ≤ s ∧ v4 = .slice A4 (t.length + 1 + k) c4 ∧ v5 = .slice A5 (t.length + 1 + k) c5 ∧ OB w' B0 A4 (t.length + 1 + k) c4 (c :: (t ++ List.replicate k 128)) ∧ OB w' B0 A5 (t.length + 1 + k) c5 (c :: (t ++ List.replicate k 191)) ∧ blk A4 ≠ blk A5 ∧ Below B0 w w') (fun v4 _ _ => 4 - lenOf v4)
    case atStart => exact ⟨0, A1, c1, A2, c2, by omega, rfl, rfl, by simpa using hk1, by simpa using Hlt.out, hne, hb2⟩
    case round =>
      obtain ⟨k, A4, c4, A5, c5, hks, rfl, rfl, h4, h5, hne4, hbr⟩ := hrel
      have hs4 : s ≤ 4 := by have := H4.out; have := HK.out; omega
      clear hne hb2 hk1 hown2 Hlt
      have hb0 : B0 ≤ wr.heap.size := by have := hbr.size; have := HB0.out; omega
      by_cases hlt : ((t.length + 1 + k : Nat) : Int) < s
      · have hlt' : (t.length : Int) + 1 + (k : Int) < s := by omega
        have hk3 : t.length + 1 + k ≤ 4 := by omega
        go_wp2_with (first
          | (at_builtin
             refine wpList_app_u8 _ rfl (.tmp 32) (.tmp 33) rfl B0 A4 (t.length + 1 + k) c4 (c :: (t ++ List.replicate k 128)) rfl (h4.alloc _) _ 1 1 [128] (wr.heap.size + 1) rfl (Sl.new wr #[.int .u8 128] 5) rfl (fun h => by cases h) (t.length + 1 + k + 1) (by omega) (by omega) (by simp; omega) ?_
             intro A6 c6 w6 hown6 hg6 hat6)
          | (at_builtin
             go_loud (refine wpList_app_u8 _ rfl (.tmp 35) (.tmp 36) rfl B0 A5 (t.length + 1 + k) c5 (c :: (t ++ List.replicate k 191)) rfl (((h5.alloc _).kept hg6 (.inr (Ne.symm hne4))).alloc _) _ 1 1 [191] (w6.heap.size + 1) rfl (Sl.new w6 #[.int .u8 191] 5) rfl (fun h => by cases h) (t.length + 1 + k + 1) (by omega) (by omega) (by have := hg6.size; simp at this; simp; omega) ?_)
             intro A7 c7 w7 hown7 hg7 hat7))
        obtain ⟨q6, qne, qb⟩ := OB.two h4 h5 hne4 hb0 hown6 hg6 hat6 hown7 hg7 hat7
        refine ⟨⟨k + 1, A6, c6, A7, c7, by omega, rfl, rfl, ?_, ?_, qne, hbr.trans qb⟩, by simp only [lenOf]; omega⟩
        · have e : c :: (t ++ List.replicate (k + 1) 128) = c :: (t ++ List.replicate k 128) ++ [128] := by rw [List.replicate_succ']; simp
          rw [e]; exact q6
        · have e : c :: (t ++ List.replicate (k + 1) 191) = c :: (t ++ List.replicate k 191) ++ [191] := by rw [List.replicate_succ']; simp
          rw [e]; exact hown7
      · have hge : ¬ ((t.length : Int) + 1 + (k : Int) < s) := by omega
        have hks' : (t.length : Int) + 1 + (k : Int) = s := by omega
        have hk3 : (t ++ List.replicate k (128 : UInt8)).length ≤ 3 := by simp; omega
        have hk3' : (t ++ List.replicate k (191 : UInt8)).length ≤ 3 := by simp; omega
        have Hks := Lib.hid hks'
        clear hlt hks' hks
        generalize hx : num (c :: (t ++ List.replicate k 128)) = x
        generalize hy : num (c :: (t ++ List.replicate k 191)) = y
        have HX := Lib.hid hx
        have HY := Lib.hid hy
        clear hx hy
        go_wp2_with (fail)
        refine (rnum_any _ _ _ c (t ++ List.replicate k 128) wr.heap.size wr (by simp; omega) hk3 h4.sl (Nat.le_refl _)).mono ?_
        rintro e w' ⟨rfl, hbx⟩
        rw [HX.out]
        go_wp2_with (fail)
        refine (rnum_any _ _ _ c (t ++ List.replicate k 191) wr.heap.size w' (by simp; omega) hk3' (h5.sl.below hbx) hbx.size).mono ?_
        rintro e w'' ⟨rfl, hby⟩
        rw [HY.out]
        have hb3 : Below B0 w w'' := (hbr.trans (hbx.mono hb0)).trans (hby.mono (by have := hbx.size; omega))
        have hs1 : 1 ≤ s := by have := Hks.out; omega
        have hsc : s = 1 ∨ s = 2 ∨ s = 3 ∨ s = 4 := by omega
        clear hs1 hs4 hge hk3 hk3' hbx hby h4 h5 hne4 hbr hb0
        rcases hsc with rfl | rfl | rfl | rfl
        all_goals
          have Hbeg := Lib.hid (beg_of HK.out HO.out Hks.out HX.out HY.out)
          go_wp2
          all_goals
            go_ret
            refine ⟨ret_bool ?_, by rw [HB0.out]; exact hb3.alloc (by have := hb3.size; rw [HB0.out] at this; omega) _⟩
            rw [Hbeg.out]
            simp [fromOf]
            omega
  · have hok' : okT t = false := by simpa using hok
    have HO := Lib.hid hok'
    clear hok hok'
    go_enter Tryd.func102, Tryd.ntmps102
    go_wp2_with (first | (go_at_call 101; refine (length_any _ _ (by omega) (by omega)).mono ?_; rintro e w' ⟨rfl, rfl⟩; rw [HK.out]) | (go_at_call 115; refine (tails_any _ _ _ c t B _ rfl (by omega) HS.out).mono ?_; rintro e w' ⟨rfl, rfl⟩; rw [HO.out]))
    go_ret
    exact ⟨ret_bool (by simp [beg, HO.out]), Below.refl _ _⟩
end Go.Proofs.YtfjiogockpmogaaDoor

namespace Go.Proofs.YtfjiogockpmogaaDoor
open Go.RowKit
set_option linter.unusedVariables false

theorem rnx_zero {c : UInt8} {t : List UInt8} (h : hsz c.toNat = 0) : rnx (c :: t) = (65533, 1, false) := by simp [rnx, h]
theorem take_cons' (c : UInt8) (t : List UInt8) (s : Nat) (h : 0 < s) : (c :: t).take s = c :: t.take (s - 1) := by
  obtain ⟨s, rfl⟩ : ∃ m, s = m + 1 := ⟨s - 1, by omega⟩
  rfl

set_option maxRecDepth 100000 in
set_option maxHeartbeats 1000000 in
theorem rnext_cons (b off cap : Nat) (c : UInt8) (t : List UInt8) (w : World) (hm : t.length < 9000000000000000000) (hcap : t.length + 1 ≤ cap) (hbw : b < w.heap.size)
    (hS : Sl w w.heap.size (some ⟨b, off, none⟩) (bv (c :: t))) :
    Calls Tryd.prog 84 #[.slice (some ⟨b, off, none⟩) (t.length + 1) cap] w fun e w' => e = nv (rnx (c :: t)) ∧ Below w.heap.size w w' := by
  have hc0 : w.cell? ⟨b, off, none⟩ = some (.int .u8 c.toNat) := by
    obtain ⟨b', off', h, _, hcell⟩ := hS.open_ (by simp [bv_length])
    injection h with h
    injection h with h1 h2
    subst h1; subst h2
    exact hcell 0 _ rfl
  have hcu := u8c c
  have hz : ((t.length : Int) + 1 == 0) = false := by simp; omega
  have hpos : (0 : Int) < (t.length : Int) + 1 := by omega
  have HS := Lib.hid hS
  have hs := hsz_cases c.toNat
  have hs5 : hsz c.toNat = 0 ∨ hsz c.toNat = 1 ∨ hsz c.toNat = 2 ∨ hsz c.toNat = 3 ∨ hsz c.toNat = 4 := by omega
  clear hs hS
  rcases hs5 with hs | hs | hs | hs | hs
  · have HK := Lib.hid hs
    have Fin := Lib.hid (rnx_zero (t := t) hs)
    clear hs
    go_enter Tryd.func84, Tryd.ntmps84
    go_wp2_with (go_at_call 101; refine (length_any _ _ (by omega) (by omega)).mono ?_; rintro e w' ⟨rfl, rfl⟩; rw [HK.out])
    go_ret3
    exact ⟨by rw [Fin.out]; rfl, Below.refl _ _⟩
  all_goals
    have HK := Lib.hid hs
    by_cases hlen : hsz c.toNat ≤ (t.length : Int) + 1
    · have hfin := rnx_full (t := t) (by omega) hlen
      have hlen' := hlen
      rw [hs] at hlen'
      rw [take_cons' _ _ _ (by omega)] at hfin
      have htl : (t.take ((hsz c.toNat).toNat - 1)).length + 1 = (hsz c.toNat).toNat := by simp; omega
      have hS' := (HS.out).take (hsz c.toNat).toNat
      rw [bv_take, take_cons' _ _ _ (by omega)] at hS'
      generalize ht' : t.take ((hsz c.toNat).toNat - 1) = t' at hfin htl hS'
      have HT := Lib.hid htl
      have HS' := Lib.hid hS'
      have hcapz : (hsz c.toNat).toNat ≤ cap := by omega
      rw [hs] at hcapz
      clear ht' hs hlen htl hS'
      by_cases hb : beg (c :: t') = true
      · rw [if_pos hb] at hfin
        have Fin := Lib.hid hfin
        have HB := Lib.hid hb
        clear hfin hb
        go_enter Tryd.func84, Tryd.ntmps84
        go_wp2_with (fail)
        refine (length_any _ _ (by omega) (by omega)).mono ?_
        rintro e w' ⟨rfl, rfl⟩
        rw [HK.out]
        go_wp2_with (fail)
        refine (begins_any _ _ _ c t' w.heap.size w (by have := HT.out; have := HK.out; omega) (by have := HT.out; have := HK.out; omega) HS'.out (Nat.le_refl _)).mono ?_
        rintro e w1 ⟨rfl, hb1⟩
        rw [HB.out]
        go_wp2_with (fail)
        refine (rnum_any _ _ _ c t' w.heap.size w1 (by have := HT.out; have := HK.out; omega) (by have := HT.out; have := HK.out; omega) (HS'.out.below hb1) hb1.size).mono ?_
        rintro e w2 ⟨rfl, hb2⟩
        go_wp2
        go_ret3
        exact ⟨by rw [Fin.out, HK.out]; rfl, hb1.trans (hb2.mono hb1.size)⟩
      · rw [if_neg hb] at hfin
        have hb' : beg (c :: t') = false := by simpa using hb
        have Fin := Lib.hid hfin
        have HB := Lib.hid hb'
        clear hfin hb hb'
        go_enter Tryd.func84, Tryd.ntmps84
        go_wp2_with (fail)
        refine (length_any _ _ (by omega) (by omega)).mono ?_
        rintro e w' ⟨rfl, rfl⟩
        rw [HK.out]
        go_wp2_with (fail)
        refine (begins_any _ _ _ c t' w.heap.size w (by have := HT.out; have := HK.out; omega) (by have := HT.out; have := HK.out; omega) HS'.out (Nat.le_refl _)).mono ?_
        rintro e w1 ⟨rfl, hb1⟩
        rw [HB.out]
        go_wp2
        go_ret3
        exact ⟨by rw [Fin.out]; rfl, hb1⟩
    · have hx : hsz c.toNat ≠ 1 := by omega
      rw [hs] at hx
      try exact absurd rfl hx
      all_goals
        clear hx
        have hfin := rnx_part (c := c) (t := t) (by omega) (by omega)
        have hlen' := hlen
        have hlt : (t.length : Int) + 1 < hsz c.toNat := by omega
        have HL := Lib.hid hlt
        rw [hs] at hlen' hlt
        clear hlen hs
        by_cases hb : beg (c :: t) = true
        · rw [if_pos hb] at hfin
          have Fin := Lib.hid hfin
          have HB := Lib.hid hb
          clear hfin hb
          go_enter Tryd.func84, Tryd.ntmps84
          go_wp2_with (fail)
          refine (length_any _ _ (by omega) (by omega)).mono ?_
          rintro e w' ⟨rfl, rfl⟩
          rw [HK.out]
          go_wp2_with (fail)
          refine (begins_any _ _ _ c t w.heap.size w rfl (by have := HL.out; omega) HS.out (Nat.le_refl _)).mono ?_
          rintro e w1 ⟨rfl, hb1⟩
          rw [HB.out]
          go_wp2
          go_ret3
          exact ⟨by rw [Fin.out]; rfl, hb1⟩
        · rw [if_neg hb] at hfin
          have hb' : beg (c :: t) = false := by simpa using hb
          have Fin := Lib.hid hfin
          have HB := Lib.hid hb'
          clear hfin hb hb'
          go_enter Tryd.func84, Tryd.ntmps84
          go_wp2_with (fail)
          refine (length_any _ _ (by omega) (by omega)).mono ?_
          rintro e w' ⟨rfl, rfl⟩
          rw [HK.out]
          go_wp2_with (fail)
          refine (begins_any _ _ _ c t w.heap.size w rfl (by have := HL.out; omega) HS.out (Nat.le_refl _)).mono ?_
          rintro e w1 ⟨rfl, hb1⟩
          rw [HB.out]
          go_wp2
          go_ret3
          exact ⟨by rw [Fin.out]; rfl, hb1⟩

set_option maxHeartbeats 400000 in
theorem rnext_nil (A : Option Addr) (cap : Nat) (w : World) :
    Calls Tryd.prog 84 #[.slice A 0 cap] w fun e w' => e = nv (rnx []) ∧ Below w.heap.size w w' := by
  go_enter Tryd.func84, Tryd.ntmps84
  go_wp2
  go_ret3
  exact ⟨rfl, Below.refl _ _⟩

/-- The reference's Next of any bytes: what runes.Next comes to. -/
theorem rnext_any (A : Option Addr) (n cap : Nat) (l : List UInt8) (w : World) (hn : n = l.length) (hm : l.length < 9000000000000000000) (hcap : l.length ≤ cap) (hS : Sl w w.heap.size A (bv l)) :
    Calls Tryd.prog 84 #[.slice A n cap] w fun e w' => e = nv (nx l) ∧ Below w.heap.size w w' := by
  subst hn
  rw [same_nx]
  cases l with
  | nil => exact rnext_nil A cap w
  | cons c t =>
    obtain ⟨b, off, rfl, hb, _⟩ := hS.open_ (by simp [bv_length])
    simp only [List.length_cons] at hm hcap ⊢
    exact rnext_cons b off cap c t w (by omega) hcap hb hS
end Go.Proofs.YtfjiogockpmogaaDoor

namespace Go.Proofs.YtfjiogockpmogaaDoor
set_option linter.unusedVariables false

set_option maxRecDepth 100000 in
theorem nx_enc (r : Int) (h : isR r) (l : List UInt8) : nx (enc r ++ l) = (r, ((enc r).length : Int), false) := by
  have h0 : 0 ≤ r := h.1
  have h1 : r ≤ 1114111 := h.2.1
  have h2 := h.2.2
  unfold enc
  by_cases c1 : r < 128
  · rw [if_pos c1]
    simp only [List.cons_append, List.nil_append, nx, by8_val r (by omega) (by omega)]
    rw [if_neg (by unfold hsz; (repeat' split) <;> omega), if_pos (by unfold hsz; (repeat' split) <;> omega)]
    rfl
  · rw [if_neg c1]
    by_cases c2 : r < 2048
    · rw [if_pos c2]
      have e1 := by8_val (192 + r / 64) (by omega) (by omega)
      have e2 := by8_val (128 + r % 64) (by omega) (by omega)
      have hs : hsz (192 + r / 64) = 2 := by unfold hsz; (repeat' split) <;> omega
      have hl : hlo (192 + r / 64) = 128 := by unfold hlo; (repeat' split) <;> omega
      have hh : hhi (192 + r / 64) = 191 := by unfold hhi; (repeat' split) <;> omega
      have hf : fst (192 + r / 64) = r / 64 := by unfold fst; rw [hs]; simp; omega
      simp only [List.cons_append, List.nil_append, nx, e1, hs, hl, hh, hf]
      simp [nxt, e2]
      rw [if_neg (by omega)]
      simp
      omega
    · rw [if_neg c2]
      by_cases c3 : r < 65536
      · rw [if_pos c3]
        have e1 := by8_val (224 + r / 4096) (by omega) (by omega)
        have e2 := by8_val (128 + r / 64 % 64) (by omega) (by omega)
        have e3 := by8_val (128 + r % 64) (by omega) (by omega)
        have hs : hsz (224 + r / 4096) = 3 := by unfold hsz; (repeat' split) <;> omega
        have hl : hlo (224 + r / 4096) ≤ 128 + r / 64 % 64 := by unfold hlo; (repeat' split) <;> omega
        have hh : 128 + r / 64 % 64 ≤ hhi (224 + r / 4096) := by unfold hhi; (repeat' split) <;> omega
        have hf : fst (224 + r / 4096) = r / 4096 := by unfold fst; rw [hs]; simp; omega
        simp only [List.cons_append, List.nil_append, nx, e1, hs, hf]
        simp [nxt, e2, e3]
        rw [if_neg (by omega), if_neg (by omega)]
        simp
        omega
      · rw [if_neg c3]
        have e1 := by8_val (240 + r / 262144) (by omega) (by omega)
        have e2 := by8_val (128 + r / 4096 % 64) (by omega) (by omega)
        have e3 := by8_val (128 + r / 64 % 64) (by omega) (by omega)
        have e4 := by8_val (128 + r % 64) (by omega) (by omega)
        have hs : hsz (240 + r / 262144) = 4 := by unfold hsz; (repeat' split) <;> omega
        have hl : hlo (240 + r / 262144) ≤ 128 + r / 4096 % 64 := by unfold hlo; (repeat' split) <;> omega
        have hh : 128 + r / 4096 % 64 ≤ hhi (240 + r / 262144) := by unfold hhi; (repeat' split) <;> omega
        have hf : fst (240 + r / 262144) = r / 262144 := by unfold fst; rw [hs]; simp; omega
        simp only [List.cons_append, List.nil_append, nx, e1, hs, hf]
        simp [nxt, e2, e3, e4]
        rw [if_neg (by omega), if_neg (by omega), if_neg (by omega)]
        simp
        omega
end Go.Proofs.YtfjiogockpmogaaDoor

namespace Go.Proofs.YtfjiogockpmogaaDoor
open Go.RowKit Go.Shelf
attribute [local go_sem] Oper.semAt_some
set_option linter.unusedVariables false

theorem keeps_of_below {W W' : World} (h : Below W.heap.size W W') : KeepsOthers W W' :=
  ⟨h.size, fun k o hk _ => by
    have hl : k < W.heap.size := (Array.getElem?_eq_some_iff.1 hk).1
    rw [h.block k hl]; exact hk⟩

theorem cell_lt' {w : World} {b o : Nat} {v : Value} (h : w.cell? ⟨b, o, none⟩ = some v) : b < w.heap.size := by
  rcases Nat.lt_or_ge b w.heap.size with h' | h'
  · exact h'
  · simp [World.cell?, Array.getElem?_eq_none h'] at h

theorem sl_bytesRow (w : World) (s : ByteArray) (c : Nat) (t : TypeId) (fr : Nat × Nat) : Sl (w.alloc (.cells (bytesRow s c) t fr)) (w.heap.size + 1) (some ⟨w.heap.size, 0, none⟩) (bv s.data.toList) := by
  refine .inr ⟨w.heap.size, 0, rfl, by omega, fun j u hu => ?_⟩
  rw [Nat.zero_add, World.cell?_alloc_mark]
  unfold bytesRow
  have hj : j < s.data.size := by
    have := (List.getElem?_eq_some_iff.1 hu).1
    simpa [bv] using this
  rw [Array.getElem?_append_left (by simpa using hj)]
  simpa [bv] using hu

theorem run_bytes_str (w : World) (s : ByteArray) : ∃ c fr, Sem.run Tryd.prog (Go.convert 9 83 (.string s)) w = .ok (.slice (some ⟨w.heap.size, 0, none⟩) s.size c) (w.drew.alloc (.cells (bytesRow s c) 5 fr)) ∧ s.size ≤ c ∧ (s.size ≤ maxLen → c ≤ maxLen) :=
  ⟨_, _, run_bytes_of_string w 9 83 5 s Tryd.underlying9 Tryd.underlying83 Tryd.underlying5, grownCap_ge _ _ _ _, grownCap_le_maxLen _ _ _ _⟩

set_option maxHeartbeats 400000 in
theorem all_any (s : ByteArray) (w : World) :
    Calls Tryd.prog 93 #[.string s] w fun e w' => e = .returned (.func (.func 107) #[] #[.pointer (some ⟨w.heap.size, 0, none⟩)]) ∧ w' = w.alloc (.cells #[.string s] 9) := by
  go_enter Tryd.func93, Tryd.ntmps93
  go_wp2
  go_ret
  exact ⟨rfl, rfl⟩

def encR (x : Nat × Int) : Array Value := #[.int .i64 x.1, .int .i32 x.2]

set_option maxRecDepth 100000 in
set_option maxHeartbeats 2000000 in
theorem all1_in (n : Nat) (hn : 1 ≤ n) (l Bn : Nat) (s : ByteArray) (hs : s.size ≤ 4000000) (J Jx : List (Nat × Int) → World → Prop)
    (n₀ : Nat) (hBn : Bn < n₀) (W : World) (hW : n₀ ≤ W.heap.size) (hJ : ∀ q A B, J q A → W.heap.size ≤ A.heap.size → Below A.heap.size A B → J q B) (hJw : ∀ q A, J q A → W.heap.size ≤ A.heap.size ∧ A.cell? ⟨Bn, 0, none⟩ = some (.string s))
    (hY : ∀ pre x W1, J pre W1 → pre.length < s.size → YieldAt Fence.wide (n - 1) Tryd.prog l (encR x) W1 fun e W' =>
      (e = .returned (.bool true) ∧ J (pre ++ [x]) W') ∨ (e = .returned (.bool false) ∧ Jx (pre ++ [x]) W'))
    (h0 : J [] W) :
    CallsIn Fence.wide n Tryd.prog 107 #[.func (.yield l) #[] #[], .pointer (some ⟨Bn, 0, none⟩)] W fun e W' => (∃ v, e = .returned v) ∧
      ((∃ ys, ys = rnsOf s.data.toList ∧ J ys W') ∨ (∃ pre, pre <+: rnsOf s.data.toList ∧ Jx pre W')) := by
  refine callsIn_of_wp Tryd.func107 rfl trivial ?_ rfl
  simp only [Tryd.ntmps107, List.size_toArray, List.length_cons, List.length_nil, Nat.reduceAdd, Nat.reduceSub, Array.replicate_succ, Array.replicate_zero, List.push_toArray, List.append_toArray, List.nil_append, List.cons_append]
  generalize hL : s.data.toList = L
  have hLs : L.length = s.size := by rw [← hL]; rfl
  have HL := Lib.hid hL
  have HLs := Lib.hid hLs
  clear hL hLs
  have HJ := Lib.hid hJ
  have HJw := Lib.hid hJw
  clear hJ hJw
  gi_wp2
  refine wpIn_wide.2 (wp_scope_straight ((wpIn_wide (n := n)).1 ?_))
  refine wpIn_seq ?_
  refine wpIn_label ?_
  show Code.wpIn _ _ _ _ _ _ _
  gi_wp2
  gi_loopw [3] (fun a wr => ∃ (k : Nat) (pre : List (Nat × Int)), a = .int .i64 k ∧ k ≤ s.size + 4 ∧ rnsOf L = pre ++ rnsAt L k ∧ J pre wr ∧ pre.length ≤ k) (fun a _ => s.size + 4 - (intOf a).toNat)
  case atStart => exact ⟨0, [], rfl, by omega, rfl, h0, by simp⟩
  case round =>
    obtain ⟨k, pre, rfl, hk, hpre, hJp, hpl⟩ := hrel
    have HP := Lib.hid hpre
    have HJp := Lib.hid hJp
    have hw1 := HJw.out _ _ hJp
    have hc := hw1.2
    have hw2 := hw1.1
    clear hpre hJp hw1 h0
    by_cases hlt : k < s.size
    · have hlt' : (k : Int) < (s.size : Int) := by omega
      gi_wp2
      gi_loopw [3, 4] (fun a e wr => ∃ j : Nat, a = .int .i64 k ∧ e = .int .i64 ((k : Int) + (j : Int) + 1) ∧ k + j ≤ s.size ∧ (nx ((L.drop k).take j)).2.2 = true ∧ J pre wr) (fun _ e _ => s.size + 2 - (intOf e).toNat)
      case atStart => exact ⟨0, rfl, by go_num, by omega, rfl, HJp.out⟩
      case round =>
        rename_i wr2
        obtain ⟨j, rfl, rfl, hj, hmore, hJ2⟩ := hrel
        have HM := Lib.hid hmore
        have HJ2 := Lib.hid hJ2
        have hw1 := HJw.out _ _ hJ2
        have hc2 := hw1.2
        have hw3 := hw1.1
        clear hmore hJ2 hw1 hc hw2
        by_cases hle : k + j < s.size
        · have hle' : (k : Int) + (j : Int) + 1 ≤ (s.size : Int) := by omega
          have hb1 : (k : Int) ≤ (k : Int) + (j : Int) + 1 := by omega
          obtain ⟨cp, fr, hcv, _, _⟩ := run_bytes_str wr (s.extract k (k + j + 1))
          have hsz : (s.extract k (k + j + 1)).size = j + 1 := by rw [ByteArray.size_extract]; omega
          rw [hsz] at hcv
          have hdat : (s.extract k (k + j + 1)).data.toList = (L.drop k).take (j + 1) := by
            rw [Lib.extract_data, HL.out]
            congr 1
            omega
          have hSl := sl_bytesRow wr.drew (s.extract k (k + j + 1)) cp 5 fr
          rw [hdat] at hSl
          have HSl := Lib.hid hSl
          have hlen : ((L.drop k).take (j + 1)).length = j + 1 := by have := HLs.out; simp; omega
          have HLen := Lib.hid hlen
          have HD := Lib.hid hdat
          clear hSl hlen hsz hdat
          gi_wp2
          refine ⟨trivial, ?_⟩
          have hb0 : Below wr.heap.size wr (wr.alloc (.cells (bytesRow (s.extract k (k + j + 1)) cp) 5 fr)).drew := ((Below.refl _ _).alloc (Nat.le_refl _) _).drew
          have hSl2 : Sl (wr.alloc (.cells (bytesRow (s.extract k (k + j + 1)) cp) 5 fr)).drew (wr.heap.size + 1) (some ⟨wr.heap.size, 0, none⟩) (bv ((L.drop k).take (j + 1))) := HSl.out
          refine (callsIn_wide.2 (next_any (some ⟨wr.heap.size, 0, none⟩) (j + 1) cp ((L.drop k).take (j + 1)) (wr.heap.size + 1) _ HLen.out.symm (by have := HLen.out; omega) hSl2)).mono ?_
          rintro e w9 ⟨rfl, hb9⟩
          have hbw : Below wr.heap.size wr w9 := hb0.trans (hb9.mono (by simp))
          have hJ9 := HJ.out _ _ _ HJ2.out hw3 hbw
          have hc9 := (HJw.out _ _ hJ9).2
          have hw9 := (HJw.out _ _ hJ9).1
          have HJ9 := Lib.hid hJ9
          clear hb0 hSl2 hb9 hcv HSl hbw hJ9
          simp only [nv]
          by_cases hm : (nx ((L.drop k).take (j + 1))).2.2 = true
          · have HM2 := Lib.hid hm
            rw [hm]
            clear hm
            gi_wp2
            refine ⟨⟨j + 1, rfl, by go_num, by omega, HM2.out, HJ9.out⟩, by simp only [intOf]; omega⟩
          · have hm' : (nx ((L.drop k).take (j + 1))).2.2 = false := by simpa using hm
            have hst := stp_pre ((L.drop k).take (j + 1)) ((L.drop k).drop (j + 1)) hm'
            rw [List.take_append_drop] at hst
            have hnn := nx_n _ hm'
            rw [hm']
            generalize hx : (nx ((L.drop k).take (j + 1))).1 = x at hst ⊢
            generalize hn' : (nx ((L.drop k).take (j + 1))).2.1 = m at hst hnn ⊢
            have hstep := rnsAt_step L k (by rw [HLs.out]; exact hlt)
            rw [hst] at hstep
            have HP2 : Hid (rnsOf L = (pre ++ [(k, x)]) ++ rnsAt L (k + m.toNat)) := by
              have := HP.out
              rw [hstep] at this
              rw [this]; simp [Hid]
            clear hm hm' hst hx hn' hstep HD HLen HM
            obtain ⟨m, rfl⟩ := Int.eq_ofNat_of_zero_le (by omega : 0 ≤ m)
            rw [Int.toNat_natCast] at HP2
            obtain ⟨fn, tmps, assign, body, hy, hR⟩ := hY pre (k, x) w9 HJ9.out (by omega)
            simp only [encR] at hy
            gi_wp2
            refine hR.mono ?_
            rintro e W3 (⟨rfl, hJ3⟩ | ⟨rfl, hJ3⟩)
            · gi_wp2
              exact ⟨⟨k + m, pre ++ [(k, x)], by go_num, by omega, HP2.out, hJ3, by simp; omega⟩, by simp only [intOf]; omega⟩
            · gi_wp2
              rw [Exit.noGoto_ret]
              refine bodyPost_ret (results_none rfl _ _ _) rfl ?_
              exact ⟨⟨_, rfl⟩, .inr ⟨pre ++ [(k, x)], ⟨_, HP2.out.symm⟩, hJ3⟩⟩
        · have hle' : ¬ (k : Int) + (j : Int) + 1 ≤ (s.size : Int) := by omega
          have hjk : k + j = s.size := by omega
          have htk : (L.drop k).take j = L.drop k := List.take_of_length_le (by have := HLs.out; simp; omega)
          have hst := stp_more (L.drop k) (by have := HM.out; rw [htk] at this; exact this)
          have hstep := rnsAt_step L k (by rw [HLs.out]; exact hlt)
          rw [hst] at hstep
          have HP2 : Hid (rnsOf L = (pre ++ [(k, 65533)]) ++ rnsAt L (k + 1)) := by
            have := HP.out
            rw [hstep] at this
            rw [this]; simp [Hid]
          clear hst hstep htk hjk HM
          obtain ⟨fn, tmps, assign, body, hy, hR⟩ := hY pre (k, 65533) wr HJ2.out (by omega)
          simp only [encR] at hy
          gi_wp2
          refine hR.mono ?_
          rintro e W3 (⟨rfl, hJ3⟩ | ⟨rfl, hJ3⟩)
          · gi_wp2
            exact ⟨⟨k + 1, pre ++ [(k, 65533)], by go_num, by omega, HP2.out, hJ3, by simp; omega⟩, by simp only [intOf]; omega⟩
          · gi_wp2
            rw [Exit.noGoto_ret]
            refine bodyPost_ret (results_none rfl _ _ _) rfl ?_
            exact ⟨⟨_, rfl⟩, .inr ⟨pre ++ [(k, 65533)], ⟨_, HP2.out.symm⟩, hJ3⟩⟩
    · have hge : ¬ (k : Int) < (s.size : Int) := by omega
      have he := rnsAt_end L k (by have := HLs.out; omega)
      have HP2 : Hid (rnsOf L = pre) := by
        have := HP.out
        rw [he] at this
        rw [this]; simp [Hid]
      clear he hlt
      gi_wp2
      go_end0
      exact ⟨⟨_, rfl⟩, .inl ⟨pre, HP2.out.symm, HJp.out⟩⟩

/-- What a round must keep: below a block all lies as it lay; the text's box holds the text. -/
def KpS (n₀ Bn : Nat) (s : ByteArray) (A B : World) : Prop := Below n₀ A B ∧ (A.cell? ⟨Bn, 0, none⟩ = some (.string s) → B.cell? ⟨Bn, 0, none⟩ = some (.string s))
theorem KpS.t {n₀ Bn : Nat} {s : ByteArray} {A B C : World} (h : KpS n₀ Bn s A B) (k : KpS n₀ Bn s B C) : KpS n₀ Bn s A C := ⟨h.1.trans k.1, fun e => k.2 (h.2 e)⟩
theorem KpS.b {n₀ Bn : Nat} {s : ByteArray} {w : World} (hn : n₀ ≤ w.heap.size) : ∀ (W : World) (l : Nat) (o o' : Obj), w.heap.size ≤ l → W.heap[l]? = some o → o.isCells = false → o.isWalk = false → KpS n₀ Bn s W (W.putObj l o') := by
  intro W l o o' hl ho hc hw
  refine ⟨belowK_b hn W l o o' hl ho hc hw, fun e => ?_⟩
  have hne : Bn ≠ l := by
    intro h
    subst h
    simp only [World.cell?, ho] at e
    cases o <;> simp_all [Obj.isCells]
  have hg := grownBy_putObj' W l o'
  have hlt := cell_lt' e
  rw [World.cell?_of_block (hg.block Bn hlt (by intro h; injection h with h; exact hne h))]
  exact e

theorem all_stops (n : Nat) (hn : 1 ≤ n) (Bn n₀ : Nat) (s : ByteArray) (hs : s.size ≤ 4000000) (w : World) (hc : w.cell? ⟨Bn, 0, none⟩ = some (.string s)) :
    SeqStopsK Fence.wide n Tryd.prog 107 #[.pointer (some ⟨Bn, 0, none⟩)] encR (KpS n₀ Bn s) (fun ys => ys = rnsOf s.data.toList) (fun pre => pre <+: rnsOf s.data.toList) s.size w := by
  intro l J Jx W hW hJ hJx hY h0
  have hlt := cell_lt' hc
  have hcW : W.cell? ⟨Bn, 0, none⟩ = some (.string s) := (hW.cell (p := ⟨Bn, 0, none⟩) hlt).trans hc
  have hltW := cell_lt' hcW
  refine (all1_in n hn l Bn s hs (fun q A => J q A ∧ W.heap.size ≤ A.heap.size ∧ A.cell? ⟨Bn, 0, none⟩ = some (.string s)) Jx (Bn + 1) (by omega) W (by omega) ?_ (fun q A h => h.2) ?_ ⟨h0, Nat.le_refl _, hcW⟩).mono ?_
  · rintro q A B ⟨hj, hsz, hcA⟩ _ hb
    exact ⟨hJ q A B none hj (grown_of_below hb) (fun r h => by cases h), Nat.le_trans hsz hb.size, (hb.cell (p := ⟨Bn, 0, none⟩) (cell_lt' hcA)).trans hcA⟩
  · rintro pre x W1 ⟨hj, hsz, hcA⟩ hlen
    refine (hY pre x W1 hj hlen).mono ?_
    rintro e W' (⟨he, hj', hk⟩ | ⟨he, hj'⟩)
    · exact .inl ⟨he, hj', Nat.le_trans hsz hk.1.size, hk.2 hcA⟩
    · exact .inr ⟨he, hj'⟩
  · rintro e W' ⟨hv, h | h⟩
    · obtain ⟨ys, hy, hj, _⟩ := h
      exact ⟨hv, .inl ⟨ys, hy, hj⟩⟩
    · exact ⟨hv, .inr h⟩

end Go.Proofs.YtfjiogockpmogaaDoor

namespace Go.Proofs.YtfjiogockpmogaaDoor
open Go.RowKit
set_option linter.unusedVariables false

def rv (xs : List (Nat × Int)) : List Value := xs.map fun x => .int .i32 x.2
def av (xs : List (Nat × Int)) : List Value := xs.map fun x => .int .i64 x.1
theorem rnsAt_le (l : List UInt8) : ∀ (f a : Nat) (m : List UInt8), (rns f a m).length ≤ f := by
  intro f
  induction f with
  | zero => intro a m; simp [rns]
  | succ f ih =>
    intro a m
    rw [rns]
    split
    · simp
    · have := ih (a + (stp m).2) (m.drop (stp m).2)
      simp; omega
theorem rnsOf_le (l : List UInt8) : (rnsOf l).length ≤ l.length := rnsAt_le l _ _ _

theorem add_plain (b off k : Nat) : (some (⟨b, off, none⟩ : Addr)).map (·.add k) = some ⟨b, off + k, none⟩ := by
  by_cases h : k = 0 <;> simp [Addr.add, h]

set_option maxRecDepth 100000 in
set_option maxHeartbeats 2000000 in
theorem runes_any (A : Option Addr) (n cap : Nat) (l : List UInt8) (w : World) (hn : n = l.length) (hm : l.length ≤ 4000000) (hcap : n ≤ cap) (hcm : cap ≤ maxLen) (hS : Sl w w.heap.size A (bv l)) :
    Calls Tryd.prog 71 #[.slice A n cap] w fun e w' => ∃ A1 c1 A2 c2, e = .returned (.tuple #[.slice A1 (rnsOf l).length c1, .slice A2 (rnsOf l).length c2]) ∧
      OR w' w.heap.size 21 A1 (rnsOf l).length c1 (rv (rnsOf l)) ∧ OR w' w.heap.size 3 A2 (rnsOf l).length c2 (av (rnsOf l)) ∧ Below w.heap.size w w' := by
  subst hn
  have HS := Lib.hid hS
  have hle := rnsOf_le l
  generalize hR : rnsOf l = R at hle
  have HR := Lib.hid hR
  unfold maxLen at hcm
  clear hS hR
  go_enter Tryd.func71, Tryd.ntmps71
  go_wp2
  go_loopw [4, 5, 6] (fun v4 v5 v6 wr => ∃ (k : Nat) (pre : List (Nat × Int)) (A1 : Option Addr) (c1 : Nat) (A2 : Option Addr) (c2 : Nat), v6 = .int .i64 k ∧ k ≤ l.length + 4 ∧ R = pre ++ rnsAt l k ∧ v4 = .slice A1 pre.length c1 ∧ v5 = .slice A2 pre.length c2 ∧
    OR wr w.heap.size 21 A1 pre.length c1 (rv pre) ∧ OR wr w.heap.size 3 A2 pre.length c2 (av pre) ∧ Below w.heap.size w wr) (fun _ _ v6 _ => l.length + 4 - (intOf v6).toNat)
  case atStart => exact ⟨0, [], none, 0, none, 0, rfl, by omega, HR.out.symm, rfl, rfl, OR.none_ _ _ _, OR.none_ _ _ _, Below.refl _ _⟩
  case round =>
    obtain ⟨k, pre, A1, c1, A2, c2, rfl, hk, hpre, rfl, rfl, h1, h2, hbw⟩ := hrel
    by_cases hlt : k < l.length
    · have hlt' : (k : Int) < (l.length : Int) := by omega
      obtain ⟨b, off, rfl, _, _⟩ := HS.out.open_ (by simp [bv_length]; omega)
      have hpl : pre.length + 1 ≤ 4000000 := by
        have := congrArg List.length hpre
        rw [rnsAt_step l k hlt] at this
        simp at this
        omega
      have hci : ¬ cap = k := by omega
      have hSd := ((HS.out.below hbw).more hbw.size).drop (k := k) (cap := cap) (by simp [bv_length]; omega)
      rw [if_neg hci, bv_drop, add_plain] at hSd
      have hstep := rnsAt_step l k hlt
      have hst : stp (l.drop k) = if (nx (l.drop k)).2.2 = true then (65533, 1) else ((nx (l.drop k)).1, (nx (l.drop k)).2.1.toNat) := rfl
      have hld : l.length - k = (l.drop k).length := by simp
      have HSd := Lib.hid hSd
      have HP := Lib.hid hpre
      have Hst := Lib.hid hstep
      have Hstp := Lib.hid hst
      have Hld := Lib.hid hld
      clear hSd hpre hstep hst hld
      go_wp2_with (fail)
      refine (rnext_any _ _ _ (l.drop k) wr Hld.out (by simp; omega) (by simp; omega) HSd.out).mono ?_
      rintro e w2 ⟨rfl, hb⟩
      simp only [nv]
      have hb2 : Below w.heap.size w w2 := hbw.trans (hb.mono hbw.size)
      have hs2 : w.heap.size ≤ w2.heap.size := hb2.size
      have h3 := h1.below hb (fun g hg => (h1.blk_lt g hg).2)
      have h4 := h2.below hb (fun g hg => (h2.blk_lt g hg).2)
      clear h1 h2 hb hbw
      by_cases hmo : (nx (l.drop k)).2.2 = true
      · have hP2 : Hid (R = (pre ++ [(k, 65533)]) ++ rnsAt l (k + 1)) := by
          have e1 := Hstp.out
          rw [if_pos hmo] at e1
          have e2 := Hst.out
          rw [e1] at e2
          have e3 := HP.out
          rw [e2] at e3
          rw [e3]; simp [Hid]
        rw [hmo]
        clear hmo
        go_wp2_with (first
          | (at_builtin
             refine wpList_app Tryd.underlying107 i32_info rfl (by omega) _ rfl (.tmp 23) (.tmp 25) rfl w.heap.size A1 pre.length c1 (rv pre) rfl (h3.alloc _) _ 1 1 [.int .i32 65533] (w2.heap.size + 1) rfl (Sl.new w2 #[.int .i32 65533] 21) rfl (fun h => by cases h) (by intro u hu; simp at hu; subst hu; rfl) (pre.length + 1) rfl (by omega) (by simp; omega) ?_
             intro A3 c3 w3 h5 hg3 hat3
             have hb3 : Below w.heap.size w w3 := (hb2.alloc hb2.size _).grown hg3 (by have := hb2.size; simp; omega) (fun g hg => (h3.blk_lt g hg).1)
             have h6 := (h4.alloc (.cells #[.int .i32 65533] 21)).kept hg3 (h4.apart h3 (by decide)))
          | (at_builtin
             refine wpList_app Tryd.underlying108 i64_info rfl (by omega) _ rfl (.tmp 27) (.tmp 29) rfl w.heap.size A2 pre.length c2 (av pre) rfl (h6.alloc _) _ 1 1 [.int .i64 k] (w3.heap.size + 1) rfl (Sl.new w3 #[.int .i64 k] 3) rfl (fun h => by cases h) (by intro u hu; simp at hu; subst hu; rfl) (pre.length + 1) rfl (by omega) (by have := hb3.size; simp; omega) ?_
             intro A4 c4 w4 h7 hg4 hat4
             have hb4 : Below w.heap.size w w4 := (hb3.alloc hb3.size _).grown hg4 (by have := hb3.size; simp; omega) (fun g hg => (h6.blk_lt g hg).1)
             have h8 := (h5.alloc (.cells #[.int .i64 k] 3)).kept hg4 (h5.apart h6 (by decide))))
        refine ⟨⟨k + 1, pre ++ [(k, 65533)], A3, c3, A4, c4, by go_num, by omega, hP2.out, by simp, by simp, by simpa [rv] using h8, by simpa [av] using h7, hb4⟩, by simp only [intOf]; omega⟩
      · have hmo' : (nx (l.drop k)).2.2 = false := by simpa using hmo
        have hnn := nx_n _ hmo'
        have e1 := Hstp.out
        rw [if_neg hmo] at e1
        rw [hmo']
        generalize hx : (nx (l.drop k)).1 = x at e1 ⊢
        generalize hm' : (nx (l.drop k)).2.1 = m at e1 hnn ⊢
        obtain ⟨m, rfl⟩ := Int.eq_ofNat_of_zero_le (by omega : 0 ≤ m)
        rw [Int.toNat_natCast] at e1
        have hP2 : Hid (R = (pre ++ [(k, x)]) ++ rnsAt l (k + m)) := by
          have e2 := Hst.out
          rw [e1] at e2
          have e3 := HP.out
          rw [e2] at e3
          rw [e3]; simp [Hid]
        clear hmo hmo' e1 hx hm'
        go_wp2_with (first
          | (at_builtin
             refine wpList_app Tryd.underlying107 i32_info rfl (by omega) _ rfl (.tmp 23) (.tmp 25) rfl w.heap.size A1 pre.length c1 (rv pre) rfl (h3.alloc _) _ 1 1 [.int .i32 x] (w2.heap.size + 1) rfl (Sl.new w2 #[.int .i32 x] 21) rfl (fun h => by cases h) (by intro u hu; simp at hu; subst hu; rfl) (pre.length + 1) rfl (by omega) (by simp; omega) ?_
             intro A3 c3 w3 h5 hg3 hat3
             have hb3 : Below w.heap.size w w3 := (hb2.alloc hb2.size _).grown hg3 (by have := hb2.size; simp; omega) (fun g hg => (h3.blk_lt g hg).1)
             have h6 := (h4.alloc (.cells #[.int .i32 x] 21)).kept hg3 (h4.apart h3 (by decide)))
          | (at_builtin
             refine wpList_app Tryd.underlying108 i64_info rfl (by omega) _ rfl (.tmp 27) (.tmp 29) rfl w.heap.size A2 pre.length c2 (av pre) rfl (h6.alloc _) _ 1 1 [.int .i64 k] (w3.heap.size + 1) rfl (Sl.new w3 #[.int .i64 k] 3) rfl (fun h => by cases h) (by intro u hu; simp at hu; subst hu; rfl) (pre.length + 1) rfl (by omega) (by have := hb3.size; simp; omega) ?_
             intro A4 c4 w4 h7 hg4 hat4
             have hb4 : Below w.heap.size w w4 := (hb3.alloc hb3.size _).grown hg4 (by have := hb3.size; simp; omega) (fun g hg => (h6.blk_lt g hg).1)
             have h8 := (h5.alloc (.cells #[.int .i64 k] 3)).kept hg4 (h5.apart h6 (by decide))))
        refine ⟨⟨k + m, pre ++ [(k, x)], A3, c3, A4, c4, by go_num, by omega, hP2.out, by simp, by simp, by simpa [rv] using h8, by simpa [av] using h7, hb4⟩, by simp only [intOf]; omega⟩
    · have hge : ¬ (k : Int) < (l.length : Int) := by omega
      have he : R = pre := by rw [hpre, rnsAt_end l k (by omega)]; simp
      have HE := Lib.hid he
      clear hpre he
      go_wp2
      go_ret2
      rw [HE.out]
      exact ⟨A1, c1, A2, c2, rfl, h1, h2, hbw⟩
end Go.Proofs.YtfjiogockpmogaaDoor

