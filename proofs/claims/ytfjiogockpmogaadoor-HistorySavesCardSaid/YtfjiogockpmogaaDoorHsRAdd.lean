/-
  Walks: Line, Add of the document's history.
-/
import Derived.Test.YtfjiogockpmogaaDoorHsRef
import Derived.Test.YtfjiogockpmogaaDoorHsAdd
import Derived.Test.YtfjiogockpmogaaDoorHsBack
namespace Go.Proofs.YtfjiogockpmogaaDoor
open Go.RowKit
set_option linter.unusedVariables false
set_option linter.unusedSimpArgs false

theorem rvC_cells (most : Nat) (A : Option Addr) (n c : Nat) (K : Option HW) : ∃ (u2 u3 u4 u5 : Value), rvC most A n c K = [.int .i64 most, .slice A n c, u2, u3, u4, u5] := by
  cases K <;> exact ⟨_, _, _, _, rfl⟩
set_option maxRecDepth 100000 in
set_option maxHeartbeats 2000000 in
theorem rhline_any (most : Nat) (L : List (List UInt8)) (A : Option Addr) (n c : Nat) (K : Option HW) (i : Int) (w : World) (hn : n = L.length) (hl4 : n ≤ 1000000) (hS : Sl w w.heap.size A (sv L)) :
    Calls Tryd.prog 33 #[.agg (rvC most A n c K).toArray, .int .i64 i] w fun e w' => e = .returned (.tuple #[.string ⟨(lineAt L i).1.toArray⟩, .bool (lineAt L i).2]) ∧ Below w.heap.size w w' := by
  obtain ⟨u2, u3, u4, u5, hu⟩ := rvC_cells most A n c K
  rw [hu]
  have HS := Lib.hid hS
  have HN := Lib.hid hn
  have HB := Lib.hid ((Below.refl _ w).alloc (Nat.le_refl _) (.cells #[.int .i64 most, .slice A n c, u2, u3, u4, u5] 29))
  clear hu hS
  by_cases h0 : i < 0
  · have e : lineAt L i = ([], false) := by unfold lineAt; rw [if_neg (by omega)]
    rw [e]
    clear e hn
    go_enter Tryd.func33, Tryd.ntmps33
    go_wp2
    go_ret2
    exact ⟨rfl, HB.out⟩
  · obtain ⟨k, rfl⟩ : ∃ k : Nat, i = k := ⟨i.toNat, by omega⟩
    by_cases hk : k < L.length
    · have hk1 : (k : Int) < (n : Int) := by omega
      have hk2 : ¬ (n : Int) ≤ (k : Int) := by omega
      have e : lineAt L k = (L[k], true) := by unfold lineAt; rw [if_pos (by omega)]; simp [hk]
      rw [e]
      obtain ⟨b, off, hA, hb, hcell0⟩ := hs_at HS.out (List.getElem?_eq_getElem hk)
      subst hA
      generalize L[k] = l at hcell0 e ⊢
      have hcell : w.cell? ⟨b, off + k, none⟩ = some (.string ⟨l.toArray⟩) := hcell0
      clear e h0 hcell0 hn
      go_enter Tryd.func33, Tryd.ntmps33
      go_wp2
      go_ret2
      exact ⟨rfl, HB.out⟩
    · have hk1 : (n : Int) ≤ (k : Int) := by omega
      have e : lineAt L k = ([], false) := by unfold lineAt; rw [if_pos (by omega)]; simp [List.getElem?_eq_none (Nat.le_of_not_lt hk)]
      rw [e]
      have h0' : ¬ (k : Int) < 0 := by omega
      clear e hk h0 hn
      go_enter Tryd.func33, Tryd.ntmps33
      go_wp2
      go_ret2
      exact ⟨rfl, HB.out⟩

/-- what the document's Add hands back -/
def RAddP (w : World) (most : Nat) (A : Option Addr) (L : List (List UInt8)) (x : List UInt8) (e : Ending) (w' : World) : Prop :=
  ∃ A' n' c', e = .returned (.tuple #[.agg (rvC most A' n' c' none).toArray, .bool (addB x L)]) ∧ n' = (if addB x L then addL most x L else L).length ∧ Sl w' w'.heap.size A' (sv (if addB x L then addL most x L else L)) ∧ Below w.heap.size w w' ∧ n' ≤ c' ∧ (∀ k, blk A' = some k → blk A = some k ∨ (w.heap.size ≤ k ∧ k < w'.heap.size))
set_option maxRecDepth 100000 in
set_option maxHeartbeats 8000000 in
theorem radd_any (most : Nat) (hm1 : 1 ≤ most) (hm4 : most ≤ 256) (L : List (List UInt8)) (hnd : L.Nodup) (hok : ∀ l ∈ L, l.length ≤ 3000) (A : Option Addr) (n c : Nat) (K : Option HW) (s : ByteArray) (hs : s.size ≤ 1000) (w : World) (hn : n = L.length) (hl4 : n ≤ 256) (hnc : n ≤ c) (hS : Sl w w.heap.size A (sv L)) :
    Calls Tryd.prog 31 #[.agg (rvC most A n c K).toArray, .string s] w (RAddP w most A L (flatB s.data.toList)) := by
  have HNC := Lib.hid hnc
  clear hnc
  have hfl3 : (flatB s.data.toList).length ≤ 3000 := by have := flatB_le3 s.data.toList; have : s.data.toList.length = s.size := rfl; omega
  have HLV := Lib.hid (rhleave_any most A n c K)
  have HFL := Lib.hid (rflat_any s (by omega))
  have HMAY := Lib.hid (rmay_any s.data.toList hfl3)
  have HPL := Lib.hid (fun w1 (hb : Below w.heap.size w w1) => rplace_any L (flatB s.data.toList) A n c hn (by omega) w1 ((hS.below hb).more hb.size))
  have HS := Lib.hid hS
  have HN := Lib.hid hn
  have HOK := Lib.hid hok
  have HND := Lib.hid hnd
  generalize flatB s.data.toList = x at *
  obtain ⟨u2, u3, u4, u5, hu⟩ := rvC_cells most A n c K
  have z1 := (Blk.new w 29 (rvC most A n c K)).alloc (.cells #[.int .i64 0, .slice none 0 0, .bool false, .string ⟨#[]⟩, .string ⟨#[]⟩, .int .i64 0] 29)
  have z2 := Blk.new (w.alloc (.cells (rvC most A n c K).toArray 29)) 29 [.int .i64 0, .slice none 0 0, .bool false, .string ⟨#[]⟩, .string ⟨#[]⟩, .int .i64 0]
  rw [World.size_alloc] at z2
  have hb0 : Below w.heap.size w ((w.alloc (.cells (rvC most A n c K).toArray 29)).alloc (.cells #[.int .i64 0, .slice none 0 0, .bool false, .string ⟨#[]⟩, .string ⟨#[]⟩, .int .i64 0] 29)) := ((Below.refl _ w).alloc (Nat.le_refl _) _).alloc (by simp) _
  have hsz : ((w.alloc (.cells (rvC most A n c K).toArray 29)).alloc (.cells #[.int .i64 0, .slice none 0 0, .bool false, .string ⟨#[]⟩, .string ⟨#[]⟩, .int .i64 0] 29)).heap.size = w.heap.size + 2 := by simp
  rw [hu] at z1 z2 hb0 hsz HLV
  rw [hu]
  have HU := Lib.hid hu
  clear hu hS hn hok hnd hs
  go_enter Tryd.func31, Tryd.ntmps31
  go_upto_region 1 with (fail)
  generalize (w.alloc (.cells [Value.int .i64 most, .slice A n c, u2, u3, u4, u5].toArray 29)).alloc (.cells #[.int .i64 0, .slice none 0 0, .bool false, .string ⟨#[]⟩, .string ⟨#[]⟩, .int .i64 0] 29) = w1 at *
  have Z1 := Lib.hid z1
  have Z2 := Lib.hid z2
  have HB0 := Lib.hid hb0
  have HSZ := Lib.hid hsz
  have e0 : w1.cell? ⟨w.heap.size, 0, none⟩ = some (.int .i64 most) := z1.cell 0
  have e1 : w1.cell? ⟨w.heap.size, 1, none⟩ = some (.slice A n c) := z1.cell 1
  have e2 : w1.cell? ⟨w.heap.size, 2, none⟩ = some u2 := z1.cell 2
  have e3 : w1.cell? ⟨w.heap.size, 3, none⟩ = some u3 := z1.cell 3
  have e4 : w1.cell? ⟨w.heap.size, 4, none⟩ = some u4 := z1.cell 4
  have e5 : w1.cell? ⟨w.heap.size, 5, none⟩ = some u5 := z1.cell 5
  clear z1 z2 hb0 hsz
  go_wp2_with (fail)
  refine (HLV.out w1).mono ?_
  rintro e w2 ⟨rfl, hb2⟩
  have Z12 := Lib.hid (Blk.below Z1.out hb2 (Blk.lt Z1.out))
  have Z22 := Lib.hid (Blk.below Z2.out hb2 (Blk.lt Z2.out))
  have HB2 := Lib.hid (HB0.out.trans (hb2.mono HB0.out.size))
  have HZ2 := Lib.hid hb2.size
  have hne : w.heap.size + 1 ≠ w.heap.size := by omega
  clear hb2 e0 e1 e2 e3 e4 e5
  go_upto_region 2 with ((with_reducible refine at_store 2 ?_); refine wpList_store_blk rfl _ _ _ rfl rfl w.heap.size 0 _ _ (rvC most A n c none) rfl rfl Z12.out (by simp [rvC, rwC]) rh_size (rvC_one _ _ _ _ none) ?_; intro w3 hn3 hg3)
  have hc3 := chg_of_grown hg3
  have Z13 : Hid (Blk w3 w.heap.size 29 [.int .i64 most, .slice A n c, .bool false, .string ⟨#[]⟩, .string ⟨#[]⟩, .int .i64 0]) := Lib.hid hn3
  have Z23 : Hid (Blk w3 (w.heap.size + 1) 29 [.int .i64 0, .slice none 0 0, .bool false, .string ⟨#[]⟩, .string ⟨#[]⟩, .int .i64 0]) := Lib.hid (Blk.chg Z22.out hc3 hne)
  have HB3 : Hid (Below w.heap.size w w3) := Lib.hid (HB2.out.trans (hc3.below HB2.out.size (fun j hj => by unfold one at hj; omega)))
  have HZ3 := Lib.hid hc3.size
  clear hn3 hg3 hc3
  have hlt1 : w.heap.size + 1 < w3.heap.size := Blk.lt Z23.out
  have e1 : w3.cell? ⟨w.heap.size, 1, none⟩ = some (.slice A n c) := Blk.cell Z13.out 1
  go_upto_region 4 with (first
    | (go_at_call 53; refine (HFL.out w3).mono ?_; rintro e w4 ⟨rfl, hb4⟩; have HB34 := Lib.hid hb4; have e41 := (HB34.out.cell (p := ⟨w.heap.size, 1, none⟩) (World.block_lt_of_cell? _ _ e1)).trans e1; clear hb4)
    | (go_at_call 44; refine (HPL.out w4 (HB3.out.trans (HB34.out.mono HB3.out.size))).mono ?_; rintro e w' ⟨rfl, rfl⟩))
  have HB4 : Hid (Below w.heap.size w w4) := Lib.hid (HB3.out.trans (HB34.out.mono HB3.out.size))
  have Z14 := Lib.hid (Blk.below Z13.out HB34.out (Blk.lt Z13.out))
  have Z24 := Lib.hid (Blk.below Z23.out HB34.out (Blk.lt Z23.out))
  have HSL4 := Lib.hid ((HS.out.below HB4.out).more HB4.out.size)
  clear e1 e41 HB34 Z13 Z23 HB3 HZ3 HB2 HZ2 Z12 Z22 Z1 Z2 HB0 HSZ hlt1
  have hz0 : x ≠ [] → (placeV L x == 0) = (L.head? == some x) := fun h => placeV_zero h
  have hiff : ∀ (j : Nat) (y : List UInt8), L[j]? = some y → ((j : Int) == placeV L x) = (y == x) := fun j y hj => placeV_iff HND.out hj
  have hbb : addB x L = (!(x == []) && !(L.head? == some x)) := rfl
  generalize placeV L x = pv at *
  have HIFF := Lib.hid hiff
  have HBB := Lib.hid hbb
  clear hiff hbb
  by_cases hx0 : x = []
  · have hb : addB x L = false := by rw [HBB.out, hx0]; rfl
    have hm : (!(x == [])) = false := by rw [hx0]; rfl
    rw [hm] at HMAY
    have hP : ∀ w9 A9, Below w.heap.size w w9 → A9 = A → RAddP w most A L x (.returned (.tuple #[.agg (rvC most A9 n c none).toArray, .bool false])) w9 := fun w9 A9 h9 e9 => by
      subst e9
      exact ⟨A9, n, c, by rw [hb], by rw [hb, HN.out]; simp, by rw [hb]; simpa using (HS.out.below h9).more h9.size, h9, HNC.out, fun _ hk => .inl hk⟩
    have HP := Lib.hid hP
    clear hx0 hm hb hP hz0
    go_upto_region 5 with (go_at_call 43; refine (HMAY.out w4).mono ?_; rintro e w5 ⟨rfl, hb5⟩)
    have Z15 := Blk.below Z14.out hb5 (Blk.lt Z14.out)
    have Z25 := Lib.hid (Blk.below Z24.out hb5 (Blk.lt Z24.out))
    have d0 : w5.cell? ⟨w.heap.size, 0, none⟩ = some (.int .i64 most) := Z15.cell 0
    have d1 : w5.cell? ⟨w.heap.size, 1, none⟩ = some (.slice A n c) := Z15.cell 1
    have d2 : w5.cell? ⟨w.heap.size, 2, none⟩ = some (.bool false) := Z15.cell 2
    have d3 : w5.cell? ⟨w.heap.size, 3, none⟩ = some (.string ⟨#[]⟩) := Z15.cell 3
    have d4 : w5.cell? ⟨w.heap.size, 4, none⟩ = some (.string ⟨#[]⟩) := Z15.cell 4
    have d5 : w5.cell? ⟨w.heap.size, 5, none⟩ = some (.int .i64 0) := Z15.cell 5
    have HB5 := Lib.hid (HB4.out.trans (hb5.mono HB4.out.size))
    clear Z15 hb5
    go_wp2_with ((with_reducible refine at_store 4 ?_); refine wpList_store_blk rfl _ _ _ rfl rfl (w.heap.size + 1) 0 _ [.int .i64 0, .slice none 0 0, .bool false, .string ⟨#[]⟩, .string ⟨#[]⟩, .int .i64 0] (rvC most A n c none) rfl rfl Z25.out (by simp [rvC, rwC]) rh_size (rvC_one _ _ _ _ none) ?_; intro w6 hn6 hg6)
    have hc6 := chg_of_grown hg6
    have hn7 : Blk w6 (w.heap.size + 1) 29 (rvC most A n c none) := hn6
    refine bodyPost_ret (v := .tuple #[.agg (rvC most A n c none).toArray, .bool false]) (hsres_ct rfl rfl rfl (hn7.range 0 _ (fun j v hv => by simpa using hv)) Tryd.underlying29 rfl rh_size) rfl ?_
    exact HP.out w6 A (HB5.out.trans (hc6.below HB5.out.size (fun j hj => by unfold one at hj; omega))) rfl
  · have hm : (!(x == [])) = true := by cases x with | nil => exact absurd rfl hx0 | cons a t => rfl
    rw [hm] at HMAY
    have hz1 := hz0 hx0
    by_cases hp0 : (pv == 0) = true
    · have hb : addB x L = false := by rw [HBB.out, ← hz1, hp0]; simp
      have hP : ∀ w9 A9, Below w.heap.size w w9 → A9 = A → RAddP w most A L x (.returned (.tuple #[.agg (rvC most A9 n c none).toArray, .bool false])) w9 := fun w9 A9 h9 e9 => by
        subst e9
        exact ⟨A9, n, c, by rw [hb], by rw [hb, HN.out]; simp, by rw [hb]; simpa using (HS.out.below h9).more h9.size, h9, HNC.out, fun _ hk => .inl hk⟩
      have HP := Lib.hid hP
      clear hx0 hm hb hP hz0 hz1
      go_upto_region 5 with (go_at_call 43; refine (HMAY.out w4).mono ?_; rintro e w5 ⟨rfl, hb5⟩)
      have Z15 := Blk.below Z14.out hb5 (Blk.lt Z14.out)
      have Z25 := Lib.hid (Blk.below Z24.out hb5 (Blk.lt Z24.out))
      have d0 : w5.cell? ⟨w.heap.size, 0, none⟩ = some (.int .i64 most) := Z15.cell 0
      have d1 : w5.cell? ⟨w.heap.size, 1, none⟩ = some (.slice A n c) := Z15.cell 1
      have d2 : w5.cell? ⟨w.heap.size, 2, none⟩ = some (.bool false) := Z15.cell 2
      have d3 : w5.cell? ⟨w.heap.size, 3, none⟩ = some (.string ⟨#[]⟩) := Z15.cell 3
      have d4 : w5.cell? ⟨w.heap.size, 4, none⟩ = some (.string ⟨#[]⟩) := Z15.cell 4
      have d5 : w5.cell? ⟨w.heap.size, 5, none⟩ = some (.int .i64 0) := Z15.cell 5
      have HB5 := Lib.hid (HB4.out.trans (hb5.mono HB4.out.size))
      clear Z15 hb5
      go_wp2_with ((with_reducible refine at_store 4 ?_); refine wpList_store_blk rfl _ _ _ rfl rfl (w.heap.size + 1) 0 _ [.int .i64 0, .slice none 0 0, .bool false, .string ⟨#[]⟩, .string ⟨#[]⟩, .int .i64 0] (rvC most A n c none) rfl rfl Z25.out (by simp [rvC, rwC]) rh_size (rvC_one _ _ _ _ none) ?_; intro w6 hn6 hg6)
      have hc6 := chg_of_grown hg6
      have hn7 : Blk w6 (w.heap.size + 1) 29 (rvC most A n c none) := hn6
      refine bodyPost_ret (v := .tuple #[.agg (rvC most A n c none).toArray, .bool false]) (hsres_ct rfl rfl rfl (hn7.range 0 _ (fun j v hv => by simpa using hv)) Tryd.underlying29 rfl rh_size) rfl ?_
      exact HP.out w6 A (HB5.out.trans (hc6.below HB5.out.size (fun j hj => by unfold one at hj; omega))) rfl
    · have hp1 : (pv == 0) = false := by simpa using hp0
      have hb : addB x L = true := by rw [HBB.out, ← hz1, hp1, hm]; rfl
      have HADB := Lib.hid hb
      clear hx0 hm hb hz0 hz1 hp0
      go_wp2_with (go_at_call 43; refine (HMAY.out w4).mono ?_; rintro e w5 ⟨rfl, hb5⟩)
      have Z15 := Blk.below Z14.out hb5 (Blk.lt Z14.out)
      have Z25 := Blk.below Z24.out hb5 (Blk.lt Z24.out)
      have hlitO := OR.litH w5 w5.heap.size [x] (Nat.le_refl _) (by simp)
      have hbL : Below w5.heap.size w5 (w5.alloc (.cells #[.string ⟨x.toArray⟩] 9)) := (Below.refl _ _).alloc (Nat.le_refl _) _
      obtain ⟨w6, hw6⟩ : ∃ w6, w6 = w5.alloc (.cells #[.string ⟨x.toArray⟩] 9) := ⟨_, rfl⟩
      have hO6 : OR w6 w5.heap.size 9 (some ⟨w5.heap.size, 0, none⟩) 1 1 (sv [x]) := by rw [hw6]; exact hlitO
      rw [← hw6] at hbL ⊢
      have hT1 : w.heap.size + 1 < w5.heap.size := Z25.lt
      have HZ16 := Lib.hid (Z15.below hbL Z15.lt)
      have HZ26 := Lib.hid (Z25.below hbL Z25.lt)
      have HSL6 := Lib.hid (((HSL4.out.below hb5).more hb5.size).below hbL)
      have HB6 := Lib.hid ((HB4.out.trans (hb5.mono HB4.out.size)).trans (hbL.mono (by have := HB4.out.size; have := hb5.size; omega)))
      have HO6 := Lib.hid hO6
      have HZ56 := Lib.hid hbL.size
      obtain ⟨B6, hB6⟩ : ∃ B6, B6 = w5.heap.size := ⟨_, rfl⟩
      rw [← hB6] at HO6 HZ56 HSL6 hT1 ⊢
      clear hlitO hbL hw6 hO6 Z15 Z25 hb5 hB6
      go_loopw [7, 8] (fun u v wr => ∃ k A6 n6 c6, v = .int .i64 (k : Nat) ∧ u = .slice A6 n6 c6 ∧ k ≤ n ∧ OR wr B6 9 A6 n6 c6 (sv (addL most x (L.take k))) ∧ Below B6 w6 wr) (fun _ v _ => n - (intOf v).toNat)
      case atStart => exact ⟨0, some ⟨B6, 0, none⟩, 1, 1, rfl, rfl, by omega, by rw [List.take_zero, addL_nil hm1]; exact HO6.out, Below.refl _ _⟩
      case round =>
        obtain ⟨k, A6, n6, c6, rfl, rfl, hk, hrow, hbr⟩ := hrel
        have hn6 : n6 = (addL most x (L.take k)).length := by rw [hrow.len, sv_length]
        have hn64 : n6 ≤ 256 := by rw [hn6]; have := addL_le most x (L.take k); omega
        have d0 : wr.cell? ⟨w.heap.size, 0, none⟩ = some (.int .i64 most) := (hbr.cell (p := ⟨w.heap.size, 0, none⟩) (by simp; omega)).trans (Blk.cell HZ16.out 0)
        have d1 : wr.cell? ⟨w.heap.size, 1, none⟩ = some (.slice A n c) := (hbr.cell (p := ⟨w.heap.size, 1, none⟩) (by simp; omega)).trans (Blk.cell HZ16.out 1)
        have HROW := Lib.hid hrow
        have HBr := Lib.hid hbr
        have HN6 := Lib.hid hn6
        clear hrow hbr hn6
        by_cases hlt : k < n
        · have hki : (k : Int) < n := by omega
          have hkl : k < L.length := by have := HN.out; omega
          obtain ⟨bb, off, hA, hbb, hcell0⟩ := hs_at HSL6.out (List.getElem?_eq_getElem hkl)
          subst hA
          have hcell : wr.cell? ⟨bb, off + k, none⟩ = some (.string ⟨(L[k]).toArray⟩) := (HBr.out.cell (p := ⟨bb, off + k, none⟩) hbb).trans hcell0
          have hsn : L.take (k + 1) = L.take k ++ [L[k]] := by rw [List.take_add_one, List.getElem?_eq_getElem hkl]; rfl
          have hif := HIFF.out k _ (List.getElem?_eq_getElem hkl)
          have HSN := Lib.hid hsn
          generalize L[k] = y at hcell HSN hif
          clear hcell0 hsn
          by_cases hy : y = x
          · have hq : ((k : Int) == pv) = true := by rw [hif, hy]; simp
            have hq2 : ((k : Int) != pv) = false := by unfold bne; rw [hq]; rfl
            have HY := Lib.hid hy
            clear hif hy
            go_wp2
            go_roundw
            case rel => exact ⟨k + 1, A6, n6, c6, by go_num, rfl, by omega, by rw [HSN.out, HY.out, addL_same]; exact HROW.out, HBr.out⟩
            case measure => simp [intOf]; omega
          · have hq : ((k : Int) == pv) = false := by rw [hif]; simpa using hy
            have hq2 : ((k : Int) != pv) = true := by unfold bne; rw [hq]; rfl
            have HY := Lib.hid hy
            clear hif hy
            by_cases hf : n6 < most
            · have hfi : (n6 : Int) < most := by omega
              obtain ⟨A7, c7, w7, hrun, hO7, hg7, hat7⟩ := run_app Tryd.underlying27 str_info rfl (by omega) (wr.alloc (.cells #[.string ⟨y.toArray⟩] 9)) 27 B6 A6 n6 c6 _ (HROW.out.alloc _) (some ⟨wr.heap.size, 0, none⟩) 1 1 [.string ⟨y.toArray⟩] (wr.heap.size + 1) (Sl.new wr #[.string ⟨y.toArray⟩] 9) rfl (fun e => by cases e) (by intro u hu; simp at hu; subst hu; rfl) (n6 + 1) rfl (by omega) (by have := HBr.out.size; have := HZ56.out; simp; omega)
              have hb7 : Below B6 w6 w7 := (HBr.out.alloc (Nat.le_trans HZ56.out HBr.out.size) _).grown hg7 (by have := HBr.out.size; have := HZ56.out; simp; omega) (fun g hg => (HROW.out.blk_lt g hg).1)
              have hmore : addL most x (L.take (k + 1)) = addL most x (L.take k) ++ [y] := by rw [HSN.out]; exact addL_more HY.out (by rw [← HN6.out]; exact hf)
              have HR := Lib.hid hrun
              have HO7 := Lib.hid hO7
              have HB7 := Lib.hid hb7
              have HMO := Lib.hid hmore
              clear hrun hO7 hg7 hat7 hb7 hmore
              go_wp2_with ((with_reducible refine at_dst 54 ?_); refine wpList_run 27 27 rfl (.tmp 47) (.tmp 53) rfl _ _ _ _ rfl rfl HR.out ?_)
              go_roundw
              case rel => first | exact ⟨k + 1, A7, n6 + 1, c7, by go_num, rfl, by omega, by rw [HMO.out, sv_snoc]; exact HO7.out, HB7.out⟩ | ((repeat apply Exists.intro); exact ⟨⟨k + 1, A7, n6 + 1, c7, by go_num, rfl, by omega, by rw [HMO.out, sv_snoc]; exact HO7.out, HB7.out⟩, rfl⟩)
              case measure => simp [intOf]; omega
            · have hfi : ¬ (n6 : Int) < most := by omega
              have hfull : addL most x (L.take (k + 1)) = addL most x (L.take k) := by rw [HSN.out]; exact addL_full _ (by rw [← HN6.out]; exact hf)
              have HFU := Lib.hid hfull
              clear hfull
              go_wp2
              go_roundw
              case rel => exact ⟨k + 1, A6, n6, c6, by go_num, rfl, by omega, by rw [HFU.out]; exact HROW.out, HBr.out⟩
              case measure => simp [intOf]; omega
        · have hki : ¬ (k : Int) < n := by omega
          obtain rfl : k = n := by omega
          have hrow2 := HROW.out
          have hn62 := HN6.out
          rw [HN.out, List.take_length] at hrow2 hn62
          have HROW2 := Lib.hid hrow2
          have HN62 := Lib.hid hn62
          have Z17 := Blk.below HZ16.out HBr.out (by omega)
          have Z27 := Lib.hid (Blk.below HZ26.out HBr.out (by omega))
          have d2 : wr.cell? ⟨w.heap.size, 2, none⟩ = some (.bool false) := Z17.cell 2
          have d3 : wr.cell? ⟨w.heap.size, 3, none⟩ = some (.string ⟨#[]⟩) := Z17.cell 3
          have d4 : wr.cell? ⟨w.heap.size, 4, none⟩ = some (.string ⟨#[]⟩) := Z17.cell 4
          have d5 : wr.cell? ⟨w.heap.size, 5, none⟩ = some (.int .i64 0) := Z17.cell 5
          have f1 := Z17.frozen 1
          have HB9 : Hid (Below w.heap.size w wr) := Lib.hid (HB6.out.trans (HBr.out.mono (by omega)))
          have hset : Blk (wr.setCell ⟨w.heap.size, 1, none⟩ (.slice A6 n6 c6)) (w.heap.size + 1) 29 [.int .i64 0, .slice none 0 0, .bool false, .string ⟨#[]⟩, .string ⟨#[]⟩, .int .i64 0] := Z27.out.chg (chg_of_grown (grown_setO wr w.heap.size 1 (.slice A6 n6 c6))) (by unfold one; omega)
          have HSET := Lib.hid hset
          clear Z17 hrow2 hn62 hset HROW HN6 Z27
          go_wp2_with ((with_reducible refine at_store 4 ?_); refine wpList_store_blk rfl _ _ _ rfl rfl (w.heap.size + 1) 0 _ [.int .i64 0, .slice none 0 0, .bool false, .string ⟨#[]⟩, .string ⟨#[]⟩, .int .i64 0] (rvC most A6 n6 c6 none) rfl rfl HSET.out (by simp [rvC, rwC]) rh_size (rvC_one _ _ _ _ none) ?_; intro w8 hn8 hg8)
          have hc8 := chg_of_grown hg8
          have hn9 : Blk w8 (w.heap.size + 1) 29 (rvC most A6 n6 c6 none) := hn8
          have hcT : Chg (fun j => j = w.heap.size ∨ j = w.heap.size + 1) wr w8 := ((Chg.refl _ wr).setCell (p := ⟨w.heap.size, 1, none⟩) (.inl (.inl rfl)) _).trans hc8 (fun j hj => .inl (.inr hj))
          refine bodyPost_ret (v := .tuple #[.agg (rvC most A6 n6 c6 none).toArray, .bool true]) (hsres_ct rfl rfl rfl (hn9.range 0 _ (fun j v hv => by simpa using hv)) Tryd.underlying29 rfl rh_size) rfl ?_
          have hbT : Below w.heap.size w w8 := HB9.out.trans (hcT.below HB9.out.size (fun j hj => by omega))
          refine ⟨A6, n6, c6, by rw [HADB.out], by rw [HADB.out, HN62.out]; simp, ?_, hbT, HROW2.out.capH.1, fun g hg => .inr ⟨by have := (HROW2.out.blk_lt g hg).1; have := HZ56.out; have := HB6.out.size; omega, by have := (HROW2.out.blk_lt g hg).2; have := hcT.size; omega⟩⟩
          rw [HADB.out]
          simp only [if_true]
          have ho8 := HROW2.out.chgH hcT (fun g hg e => by have := (HROW2.out.blk_lt g hg).1; omega)
          exact ho8.sl
end Go.Proofs.YtfjiogockpmogaaDoor
