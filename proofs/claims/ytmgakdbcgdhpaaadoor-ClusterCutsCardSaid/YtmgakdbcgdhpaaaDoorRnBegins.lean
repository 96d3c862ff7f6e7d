/-
  Walks: the reference's begins and Next.
-/
import Derived.Test.YtmgakdbcgdhpaaaDoorRnRef
import Derived.Test.YtmgakdbcgdhpaaaDoorU8
namespace Go.Proofs.YtmgakdbcgdhpaaaDoor
open Go.RowKit
set_option linter.unusedVariables false

theorem beg_of {c : UInt8} {t : List UInt8} {k : Nat} {s x y : Int} (h1 : hsz c.toNat = s) (h2 : okT t = true) (h3 : (t.length : Int) + 1 + (k : Int) = s)
    (hx : num (c :: (t ++ List.replicate k 128)) = x) (hy : num (c :: (t ++ List.replicate k 191)) = y) :
    beg (c :: t) = (decide (fromOf s ≤ y) && decide (x ≤ 1114111) && (decide (x < 55296) || decide (57343 < y))) := by
  unfold beg
  simp only
  have hk : (hsz c.toNat - ((t.length : Int) + 1)).toNat = k := by omega
  rw [hk, hx, hy, h2, h1]
  have e : decide ((t.length : Int) + 1 ≤ s) = true := by simp; omega
  rw [e]
  simp [Bool.and_assoc]

set_option maxRecDepth 100000 in
set_option maxHeartbeats 1000000 in
theorem begins_any (A : Option Addr) (n cap : Nat) (c : UInt8) (t : List UInt8) (B : Nat) (w : World) (hn : n = t.length + 1) (hm : (t.length : Int) + 1 ≤ hsz c.toNat) (hS : Sl w B A (bv (c :: t))) (hB : B ≤ w.heap.size) :
    Calls Tryd.prog 75 #[.slice A n cap] w fun e w' => e = .returned (.bool (beg (c :: t))) ∧ Below w.heap.size w w' := by
  subst hn
  have hs4 := hsz_cases c.toNat
  obtain ⟨b, off, rfl, hbB, hcell⟩ := hS.open_ (by simp [bv_length])
  have hc0 : w.cell? ⟨b, off, none⟩ = some (.int .u8 c.toNat) := hcell 0 _ rfl
  have hcu := u8c c
  have HS := Lib.hid hS
  have hbw : b < w.heap.size := by omega
  have hgt : ¬ (hsz c.toNat < (t.length : Int) + 1) := by omega
  have H4 := Lib.hid hs4
  have hm3 : t.length ≤ 3 := by omega
  have Hm := Lib.hid hm
  clear hcell hS hs4
  generalize hk : hsz c.toNat = s at hm hgt
  have HK := Lib.hid hk
  clear hk hm
  by_cases hok : okT t = true
  · have HO := Lib.hid hok
    clear hok
    go_enter Tryd.func75, Tryd.ntmps75
    go_wp2_with (first
      | (go_at_call 74; refine (length_any _ _ (by omega) (by omega)).mono ?_; rintro e w' ⟨rfl, rfl⟩; rw [HK.out])
      | (go_at_call 78; refine (tails_any _ _ _ c t B _ rfl (by omega) HS.out).mono ?_; rintro e w' ⟨rfl, rfl⟩; rw [HO.out])
      | (at_builtin
         refine wpList_app_u8 _ rfl (.tmp 22) (.tmp 23) rfl w.heap.size (some ⟨w.heap.size, 0, none⟩) 0 0 [] rfl (OB.lit w [] (Nat.le_refl _) (by simp)) _ (t.length + 1) cap (c :: t) B rfl (HS.out.alloc hB _) (by simp) (fun h => by cases h) (t.length + 1) (by omega) (by omega) (by simp) ?_
         intro A1 c1 w1 hown1 hg1 hat1
         have hb1 : Below w.heap.size w w1 := ((Below.refl _ _).alloc (Nat.le_refl _) _).grown hg1 (by simp) (by simp [blk]))
      | (at_builtin
         go_loud (refine wpList_app_u8 _ rfl (.tmp 25) (.tmp 26) rfl w.heap.size (some ⟨w1.heap.size, 0, none⟩) 0 0 [] rfl (OB.lit w1 [] hb1.size (by simp)) _ (t.length + 1) cap (c :: t) B rfl ((HS.out.below (hb1.mono hB)).alloc (by have := hb1.size; omega) _) (by simp) (fun h => by cases h) (t.length + 1) (by omega) (by omega) (by have := hb1.size; simp; omega) ?_)
         intro A2 c2 w2 hown2 hg2 hat2))
    have hb2 : Below w.heap.size w w2 := (hb1.alloc hb1.size _).grown hg2 (by have := hb1.size; simp; omega) (by have := hb1.size; simp [blk]; omega)
    have hne : blk A1 ≠ blk A2 := by
      intro e
      have l1 := hown1.blk_lt
      have s1 : (w.alloc (Obj.cells #[] 5)).heap.size ≤ w1.heap.size := hg1.size
      rcases hat2 with h | h
      · have := (l1 _ (e.trans h)).2; simp at this
      · have := (l1 _ (e.trans h)).2; simp at this; omega
    have hk1 : OB w2 w.heap.size A1 (t.length + 1) c1 ([] ++ c :: t) := (hown1.alloc _).kept hg2 (.inr (by
      intro e
      have := (hown1.blk_lt _ e).2
      simp at this))
    have Hlt := Lib.hid hown2
    clear hg1 hg2 hat1 hat2 hown1 hb1
    generalize hB0 : w.heap.size = B0 at *
    have HB0 := Lib.hid hB0
    clear hB0
    go_loopw [4, 5] (fun v4 v5 w' => ∃ (k : Nat) (A4 : Option Addr) (c4 : Nat) (A5 : Option Addr) (c5 : Nat), ((t.length + 1 + k : Nat) : Int) ≤ s ∧ v4 = .slice A4 (t.length + 1 + k) c4 ∧ v5 = .slice A5 (t.length + 1 + k) c5 ∧ OB w' B0 A4 (t.length + 1 + k) c4 (c :: (t ++ List.replicate k 128)) ∧ OB w' B0 A5 (t.length + 1 + k) c5 (c :: (t ++ List.replicate k 191)) ∧ blk A4 ≠ blk A5 ∧ Below B0 w w') (fun v4 _ _ => 4 - lenOf v4)
    case atStart => exact ⟨0, A1, c1, A2, c2, by omega, rfl, rfl, by simpa using hk1, by simpa using Hlt.out, hne, hb2⟩
    case round =>
      obtain ⟨k, A4, c4, A5, c5, hks, rfl, rfl, h4, h5, hne4, hbr⟩ := hrel
      have hs4 : s ≤ 4 := by have := H4.out; have := HK.out; omega
      clear hne hb2 hk1 hown2 Hlt
      have hb0 : B0 ≤ wr.heap.size := by have := hbr.size; have := HB0.out; omega
      by_cases hlt : ((t.length + 1 + k : Nat) : Int) < s
      · have hlt' : (t.length : Int) + 1 + (k : Int) < s := by omega
        have hk3 : t.length + 1 + k ≤ 4 := by omega
        go_wp2_with (first
          | (at_builtin
             refine wpList_app_u8 _ rfl (.tmp 32) (.tmp 33) rfl B0 A4 (t.length + 1 + k) c4 (c :: (t ++ List.replicate k 128)) rfl (h4.alloc _) _ 1 1 [128] (wr.heap.size + 1) rfl (Sl.new wr #[.int .u8 128] 5) rfl (fun h => by cases h) (t.length + 1 + k + 1) (by omega) (by omega) (by simp; omega) ?_
             intro A6 c6 w6 hown6 hg6 hat6)
          | (at_builtin
             go_loud (refine wpList_app_u8 _ rfl (.tmp 35) (.tmp 36) rfl B0 A5 (t.length + 1 + k) c5 (c :: (t ++ List.replicate k 191)) rfl (((h5.alloc _).kept hg6 (.inr (Ne.symm hne4))).alloc _) _ 1 1 [191] (w6.heap.size + 1) rfl (Sl.new w6 #[.int .u8 191] 5) rfl (fun h => by cases h) (t.length + 1 + k + 1) (by omega) (by omega) (by have := hg6.size; simp at this; simp; omega) ?_)
             intro A7 c7 w7 hown7 hg7 hat7))
        obtain ⟨q6, qne, qb⟩ := OB.two h4 h5 hne4 hb0 hown6 hg6 hat6 hown7 hg7 hat7
        refine ⟨⟨k + 1, A6, c6, A7, c7, by omega, rfl, rfl, ?_, ?_, qne, hbr.trans qb⟩, by simp only [lenOf]; omega⟩
        · have e : c :: (t ++ List.replicate (k + 1) 128) = c :: (t ++ List.replicate k 128) ++ [128] := by rw [List.replicate_succ']; simp
          rw [e]; exact q6
        · have e : c :: (t ++ List.replicate (k + 1) 191) = c :: (t ++ List.replicate k 191) ++ [191] := by rw [List.replicate_succ']; simp
          rw [e]; exact hown7
      · have hge : ¬ ((t.length : Int) + 1 + (k : Int) < s) := by omega
        have hks' : (t.length : Int) + 1 + (k : Int) = s := by omega
        have hk3 : (t ++ List.replicate k (128 : UInt8)).length ≤ 3 := by simp; omega
        have hk3' : (t ++ List.replicate k (191 : UInt8)).length ≤ 3 := by simp; omega
        have Hks := Lib.hid hks'
        clear hlt hks' hks
        generalize hx : num (c :: (t ++ List.replicate k 128)) = x
        generalize hy : num (c :: (t ++ List.replicate k 191)) = y
        have HX := Lib.hid hx
        have HY := Lib.hid hy
        clear hx hy
        go_wp2_with (fail)
        refine (number_any _ _ _ c (t ++ List.replicate k 128) wr.heap.size wr (by simp; omega) hk3 h4.sl (Nat.le_refl _)).mono ?_
        rintro e w' ⟨rfl, hbx⟩
        rw [HX.out]
        go_wp2_with (fail)
        refine (number_any _ _ _ c (t ++ List.replicate k 191) wr.heap.size w' (by simp; omega) hk3' (h5.sl.below hbx) hbx.size).mono ?_
        rintro e w'' ⟨rfl, hby⟩
        rw [HY.out]
        have hb3 : Below B0 w w'' := (hbr.trans (hbx.mono hb0)).trans (hby.mono (by have := hbx.size; omega))
        have hs1 : 1 ≤ s := by have := Hks.out; omega
        have hsc : s = 1 ∨ s = 2 ∨ s = 3 ∨ s = 4 := by omega
        clear hs1 hs4 hge hk3 hk3' hbx hby h4 h5 hne4 hbr hb0
        rcases hsc with rfl | rfl | rfl | rfl
        all_goals
          have Hbeg := Lib.hid (beg_of HK.out HO.out Hks.out HX.out HY.out)
          go_wp2
          all_goals
            go_ret
            refine ⟨ret_bool ?_, by rw [HB0.out]; exact hb3.alloc (by have := hb3.size; rw [HB0.out] at this; omega) _⟩
            rw [Hbeg.out]
            simp [fromOf]
            omega
  · have hok' : okT t = false := by simpa using hok
    have HO := Lib.hid hok'
    clear hok hok'
    go_enter Tryd.func75, Tryd.ntmps75
    go_wp2_with (first | (go_at_call 74; refine (length_any _ _ (by omega) (by omega)).mono ?_; rintro e w' ⟨rfl, rfl⟩; rw [HK.out]) | (go_at_call 78; refine (tails_any _ _ _ c t B _ rfl (by omega) HS.out).mono ?_; rintro e w' ⟨rfl, rfl⟩; rw [HO.out]))
    go_ret
    exact ⟨ret_bool (by simp [beg, HO.out]), Below.refl _ _⟩
end Go.Proofs.YtmgakdbcgdhpaaaDoor
