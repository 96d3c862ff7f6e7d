/-
  Walks of the reference: rest.
-/
import Derived.Test.YthlhfbchilfgcaaDoorKmRName
import Derived.Test.YthlhfbchilfgcaaDoorKmRead
namespace Go.Proofs.YthlhfbchilfgcaaDoor
open Go.RowKit Go.Sort
set_option linter.unusedVariables false
set_option linter.unusedSimpArgs false

/-- the number whose digits a text is (the last below m that fits), or none -/
def digN : Nat → List UInt8 → Nat
  | 0, _ => 0
  | m + 1, u => if 1 ≤ m ∧ Lib.decDigits m = u then m else digN m u
/-- the key of a code that a name (behind its modifiers) tells -/
def tryC (a h t : Bool) (s : List UInt8) (i : Nat) : Option Kv :=
  let v := begV s (wordR.getD i [])
  if v.2 = true then
    if i = 1 ∧ a = true then
      (if (begV v.1 [46]).2 = true then (if chk ⟨1, (begV v.1 [46]).1, 0, a, h, t⟩ = true then some ⟨1, (begV v.1 [46]).1, 0, a, h, t⟩ else none) else none)
    else if i = 17 then (if chk ⟨17, v.1, 0, a, h, t⟩ = true then some ⟨17, v.1, 0, a, h, t⟩ else none)
    else if i = 18 then (if chk ⟨18, [], digN 13 v.1, a, h, t⟩ = true then some ⟨18, [], digN 13 v.1, a, h, t⟩ else none)
    else if v.1 = [] then (if chk ⟨i, [], 0, a, h, t⟩ = true then some ⟨i, [], 0, a, h, t⟩ else none)
    else none
  else none
def RestS (a h t : Bool) (s : List UInt8) (R : Kv × Int) : Prop :=
  (∃ i K, 1 ≤ i ∧ i ≤ 18 ∧ tryC a h t s i = some K ∧ R = (K, 0)) ∨ ((∀ i, 1 ≤ i → i ≤ 18 → tryC a h t s i = none) ∧ R = (Kv.no, 80))
theorem digN_hit {m : Nat} {u : List UInt8} (h0 : 1 ≤ m) (h : Lib.decDigits m = u) : digN (m + 1) u = m := if_pos ⟨h0, h⟩
theorem digN_miss {m : Nat} {u : List UInt8} (h : Lib.decDigits m ≠ u) : digN (m + 1) u = digN m u := if_neg (fun x => h x.2)
theorem none_step {a h t : Bool} {s : List UInt8} {i : Nat} (h0 : ∀ j, 1 ≤ j → j < i → tryC a h t s j = none) (h1 : tryC a h t s i = none) : ∀ j, 1 ≤ j → j < i + 1 → tryC a h t s j = none := by
  intro j a b
  by_cases hj : j < i
  · exact h0 j a hj
  · obtain rfl : j = i := by omega
    exact h1
set_option maxRecDepth 100000 in
set_option maxHeartbeats 16000000 in
theorem rest_any (k : Kv) (s : List UInt8) (hs : s.length ≤ 60) (w : World) :
    Calls Tryd.prog 38 #[.agg #[.int .i64 k.c, .string ⟨k.s.toArray⟩, .int .i64 k.n, .bool k.a, .bool k.h, .bool k.t], .string ⟨s.toArray⟩] w fun e w' => ∃ R, RestS k.a k.h k.t s R ∧ e = .returned (.tuple #[R.1.agg, .int .i64 R.2]) ∧ Below w.heap.size w w' := by
  have HS := Lib.hid hs
  have hk0 : Blk ((w.alloc (.cells #[.int .i64 k.c, .string ⟨k.s.toArray⟩, .int .i64 k.n, .bool k.a, .bool k.h, .bool k.t] 24)).alloc (.cells #[.int .i64 0, .string ⟨#[]⟩, .int .i64 0, .bool false, .bool false, .bool false] 24)) w.heap.size 24 k.cells := (Blk.new w 24 k.cells).alloc _
  have hz0 := Blk.new (w.alloc (.cells #[.int .i64 k.c, .string ⟨k.s.toArray⟩, .int .i64 k.n, .bool k.a, .bool k.h, .bool k.t] 24)) 24 Kv.no.cells
  simp only [World.size_alloc] at hz0
  have hb0 : Below w.heap.size w ((w.alloc (.cells #[.int .i64 k.c, .string ⟨k.s.toArray⟩, .int .i64 k.n, .bool k.a, .bool k.h, .bool k.t] 24)).alloc (.cells #[.int .i64 0, .string ⟨#[]⟩, .int .i64 0, .bool false, .bool false, .bool false] 24)) := (kbel w _).alloc (by simp) _
  clear hs
  go_enter Tryd.func38, Tryd.ntmps38
  go_upto_region 1 with (fail)
  generalize hW : (w.alloc (.cells #[.int .i64 k.c, .string ⟨k.s.toArray⟩, .int .i64 k.n, .bool k.a, .bool k.h, .bool k.t] 24)).alloc (.cells #[.int .i64 0, .string ⟨#[]⟩, .int .i64 0, .bool false, .bool false, .bool false] 24) = W at hb0 ⊢
  have hk1 : Blk W w.heap.size 24 k.cells := hW ▸ hk0
  have hz1 : Blk W (w.heap.size + 1) 24 Kv.no.cells := hW ▸ hz0
  have HK0 := Lib.hid hk1
  have HZ0 := Lib.hid hz1
  have HB0 := Lib.hid hb0
  clear hk0 hz0 hk1 hz1 hb0 hW
  obtain ⟨c, s0, n, a, h, t⟩ := k
  simp only at HK0 ⊢
  obtain ⟨q, hq⟩ : ∃ q : ByteArray, q = ⟨s.toArray⟩ := ⟨_, rfl⟩
  rw [← hq]
  have HQ := Lib.hid hq
  clear hq
  go_wp2_with (fail)
  go_loopw [6] (fun v6 wr => ∃ i : Nat, v6 = .int .i64 (i : Int) ∧ 1 ≤ i ∧ i ≤ 19 ∧ (∀ j, 1 ≤ j → j < i → tryC a h t s j = none) ∧ (∃ K : Kv, K.a = a ∧ K.h = h ∧ K.t = t ∧ Blk wr w.heap.size 24 K.cells) ∧ Blk wr (w.heap.size + 1) 24 Kv.no.cells ∧ Below w.heap.size w wr) (fun v6 _ => 19 - (intOf v6).toNat)
  case atStart => exact ⟨1, rfl, by omega, by omega, fun j h1 h2 => by omega, ⟨_, rfl, rfl, rfl, HK0.out⟩, HZ0.out, HB0.out⟩
  case round =>
    obtain ⟨i, rfl, hi1, hi, hno, ⟨⟨c1, s1, n1, a1, h1, t1⟩, rfl, rfl, rfl, hk⟩, hz, hb⟩ := hrel
    have HNO := Lib.hid hno
    have HK := Lib.hid hk
    have HZ := Lib.hid hz
    have HB := Lib.hid hb
    clear hno hk hz hb HK0 HZ0 HB0
    simp only at HNO ⊢
    by_cases hlt : i ≤ 18
    · have hki : (i : Int) ≤ 18 := by omega
      have HWD := Lib.hid (fun W => rword_any i hlt W)
      obtain ⟨wd, hwd⟩ : ∃ wd, wd = wordR.getD i [] := ⟨_, rfl⟩
      have hwl := wordR_len i (by omega)
      rw [← hwd] at HWD hwl
      have HBG := Lib.hid (fun W => rbegins_any s wd (by have := HS.out; omega) (by omega) W)
      rw [← HQ.out] at HBG
      have hvl := begV_len s wd
      obtain ⟨v, hv⟩ : ∃ v, v = begV s wd := ⟨_, rfl⟩
      rw [← hv] at HBG hvl
      have hT : tryC a1 h1 t1 s i = tryC a1 h1 t1 s i := rfl
      conv at hT => rhs; unfold tryC
      rw [← hwd] at hT
      simp only at hT
      rw [← hv] at hT
      obtain ⟨v1, v2⟩ := v
      simp only at HBG hvl hT
      have HVL : Hid (v1.length ≤ 60) := Lib.hid (Nat.le_trans hvl HS.out)
      have HT := Lib.hid hT
      clear hwd hwl hv hvl hT
      go_upto_region 7 with (first
        | ((with_reducible refine at_store 17 ?_); refine wpList_store_cell rfl _ _ _ rfl rfl w.heap.size 0 _ _ (.int .i64 i) rfl rfl HK.out (by simp [Kv.cells]) (by kernel_rfl) rfl ?_; intro w1 hn1 hg1; have HK1 : Hid (Blk w1 w.heap.size 24 (Kv.mk i s1 n1 a1 h1 t1).cells) := Lib.hid hn1; have HZ1 : Hid (Blk w1 (w.heap.size + 1) 24 Kv.no.cells) := Lib.hid ((hg1.block _ HZ.out.lt (fun e => by injection e with e; omega)).trans HZ.out); have HB1 := Lib.hid (kfin (Nat.le_refl _) HB.out hg1); clear hn1 hg1)
        | ((with_reducible refine at_store 18 ?_); refine wpList_store_cell rfl _ _ _ rfl rfl w.heap.size 1 _ _ (.string ⟨#[]⟩) rfl rfl HK1.out (by simp [Kv.cells]) (by kernel_rfl) rfl ?_; intro w2 hn2 hg2; have HK2 : Hid (Blk w2 w.heap.size 24 (Kv.mk i [] n1 a1 h1 t1).cells) := Lib.hid hn2; have HZ2 : Hid (Blk w2 (w.heap.size + 1) 24 Kv.no.cells) := Lib.hid ((hg2.block _ HZ1.out.lt (fun e => by injection e with e; omega)).trans HZ1.out); have HB2 := Lib.hid (kfin (Nat.le_refl _) HB1.out hg2); clear hn2 hg2)
        | ((with_reducible refine at_store 19 ?_); refine wpList_store_cell rfl _ _ _ rfl rfl w.heap.size 2 _ _ (.int .i64 0) rfl rfl HK2.out (by simp [Kv.cells]) (by kernel_rfl) rfl ?_; intro w3 hn3 hg3; have HK3 : Hid (Blk w3 w.heap.size 24 (Kv.mk i [] 0 a1 h1 t1).cells) := Lib.hid hn3; have HZ3 : Hid (Blk w3 (w.heap.size + 1) 24 Kv.no.cells) := Lib.hid ((hg3.block _ HZ2.out.lt (fun e => by injection e with e; omega)).trans HZ2.out); have HB3 := Lib.hid (kfin (Nat.le_refl _) HB2.out hg3); clear hn3 hg3))
      clear HK HZ HB HK1 HZ1 HB1 HK2 HZ2 HB2
      go_upto_region 8 with (first
        | (go_at_call 43; refine (HWD.out _).mono ?_; rintro e w4 ⟨rfl, hb4⟩; have HK4 := Lib.hid (HK3.out.below hb4 HK3.out.lt); have HZ4 := Lib.hid (HZ3.out.below hb4 HZ3.out.lt); have HB4 := Lib.hid (HB3.out.trans (hb4.mono HB3.out.size)); clear hb4)
        | (go_at_call 37; refine (HBG.out _).mono ?_; rintro e w' ⟨rfl, rfl⟩))
      clear HK3 HZ3 HB3
      cases v2 with
      | false =>
        have HE : Hid (tryC a1 h1 t1 s i = none) := Lib.hid (HT.out.trans (by simp))
        go_wp2_with (fail)
        go_roundw
        case rel => exact ⟨i + 1, by go_num, by omega, by omega, none_step HNO.out HE.out, ⟨_, rfl, rfl, rfl, HK4.out⟩, HZ4.out, HB4.out⟩
        case measure => simp [intOf] <;> omega
      | true =>
        obtain ⟨u1, u2, hu⟩ : ∃ u1 u2, begV v1 [46] = (u1, u2) := ⟨_, _, rfl⟩
        have hul := begV_len v1 [46]
        rw [hu] at hul
        have hbg2 := fun W => rbegins_any v1 [46] (by have := HVL.out; omega) (by decide) W
        rw [hu] at hbg2
        have HBG2 := Lib.hid hbg2
        have HUL : Hid (u1.length ≤ 60) := Lib.hid (Nat.le_trans hul HVL.out)
        have HU := Lib.hid hu
        clear hu hul hbg2
        have hkx := HK4.out
        have z0 : w4.cell? ⟨w.heap.size, 0, none⟩ = some (.int .i64 (i : Int)) := hkx.cell 0
        have z1 : w4.cell? ⟨w.heap.size, 1, none⟩ = some (.string ⟨#[]⟩) := hkx.cell 1
        have z2 : w4.cell? ⟨w.heap.size, 2, none⟩ = some (.int .i64 0) := hkx.cell 2
        have z3 : w4.cell? ⟨w.heap.size, 3, none⟩ = some (.bool a1) := hkx.cell 3
        have z4 : w4.cell? ⟨w.heap.size, 4, none⟩ = some (.bool h1) := hkx.cell 4
        have z5 : w4.cell? ⟨w.heap.size, 5, none⟩ = some (.bool t1) := hkx.cell 5
        clear hkx
        by_cases hA : i = 1 ∧ a1 = true
        · obtain ⟨rfl, rfl⟩ := hA
          go_upto_region 11 with (go_at_call 37; refine (HBG2.out _).mono ?_; rintro e w' ⟨rfl, rfl⟩)
          cases u2 with
          | false =>
            have HE : Hid (tryC true h1 t1 s 1 = none) := Lib.hid (HT.out.trans (by simp [HU.out]))
            go_wp2_with (fail)
            go_roundw
            case rel => exact ⟨1 + 1, by go_num, by omega, by omega, none_step HNO.out HE.out, ⟨_, rfl, rfl, rfl, HK4.out⟩, HZ4.out, HB4.out⟩
            case measure => simp [intOf] <;> omega
          | true =>
            clear z0 z1 z2 z3 z4 z5
            go_upto_region 22 with ((with_reducible refine at_store 44 ?_); refine wpList_store_cell rfl _ _ _ rfl rfl w.heap.size 1 _ _ (.string ⟨u1.toArray⟩) rfl rfl HK4.out (by simp [Kv.cells]) (by kernel_rfl) rfl ?_; intro w5 hn5 hg5; have HK5 : Hid (Blk w5 w.heap.size 24 (Kv.mk 1 u1 0 true h1 t1).cells) := Lib.hid hn5; have HZ5 : Hid (Blk w5 (w.heap.size + 1) 24 Kv.no.cells) := Lib.hid ((hg5.block _ HZ4.out.lt (fun e => by injection e with e; omega)).trans HZ4.out); have HB5 := Lib.hid (kfin (Nat.le_refl _) HB4.out hg5); clear hn5 hg5)
            have hkx := HK5.out
            have z0 : w5.cell? ⟨w.heap.size, 0, none⟩ = some (.int .i64 1) := hkx.cell 0
            have z1 : w5.cell? ⟨w.heap.size, 1, none⟩ = some (.string ⟨(u1).toArray⟩) := hkx.cell 1
            have z2 : w5.cell? ⟨w.heap.size, 2, none⟩ = some (.int .i64 0) := hkx.cell 2
            have z3 : w5.cell? ⟨w.heap.size, 3, none⟩ = some (.bool true) := hkx.cell 3
            have z4 : w5.cell? ⟨w.heap.size, 4, none⟩ = some (.bool h1) := hkx.cell 4
            have z5 : w5.cell? ⟨w.heap.size, 5, none⟩ = some (.bool t1) := hkx.cell 5
            clear hkx
            have hck := rcheck_any (Kv.mk 1 (u1) 0 true h1 t1) (by have := HUL.out; simp only; omega)
            by_cases hc : chk (Kv.mk 1 (u1) 0 true h1 t1) = true
            · have HE : Hid (tryC true h1 t1 s 1 = some (Kv.mk 1 (u1) 0 true h1 t1)) := Lib.hid (HT.out.trans (by simp [HU.out, hc]))
              rw [if_pos hc] at hck
              have HCK := Lib.hid hck
              clear hck hc
              go_wp2_with (first
                | (go_at_call 12; refine (HCK.out _).mono ?_; rintro e w8 ⟨rfl, hb8⟩; have HB8 := Lib.hid (HB5.out.trans (hb8.mono HB5.out.size)); have HZ8 := Lib.hid (HZ5.out.below hb8 HZ5.out.lt); have hk9 := HK5.out.below hb8 HK5.out.lt; clear z0 z1 z2 z3 z4 z5; have z0 : w8.cell? ⟨w.heap.size, 0, none⟩ = some (.int .i64 1) := hk9.cell 0; have z1 : w8.cell? ⟨w.heap.size, 1, none⟩ = some (.string ⟨(u1).toArray⟩) := hk9.cell 1; have z2 : w8.cell? ⟨w.heap.size, 2, none⟩ = some (.int .i64 0) := hk9.cell 2; have z3 : w8.cell? ⟨w.heap.size, 3, none⟩ = some (.bool true) := hk9.cell 3; have z4 : w8.cell? ⟨w.heap.size, 4, none⟩ = some (.bool h1) := hk9.cell 4; have z5 : w8.cell? ⟨w.heap.size, 5, none⟩ = some (.bool t1) := hk9.cell 5; clear hb8 hk9)
                | ((with_reducible refine at_store 4 ?_); refine wpList_store_blk rfl _ _ _ rfl rfl (w.heap.size + 1) 0 _ Kv.no.cells (Kv.mk 1 (u1) 0 true h1 t1).cells rfl rfl HZ8.out (by simp [Kv.len]) kv_size (Kv.one _) ?_; intro w9 hn9 hg9))
              exact bodyPost_ret (kresults_ct rfl rfl rfl (kwhole hn9) Tryd.underlying24 rfl kv_size) rfl ⟨(Kv.mk 1 (u1) 0 true h1 t1), 0, .inl ⟨1, _, by omega, by omega, HE.out, rfl⟩, rfl, kfin (by omega) HB8.out hg9⟩
            · have HE : Hid (tryC true h1 t1 s 1 = none) := Lib.hid (HT.out.trans (by simp [HU.out, hc]))
              rw [if_neg hc] at hck
              have HCK := Lib.hid hck
              clear hck hc
              go_wp2_with (go_at_call 12; refine (HCK.out _).mono ?_; rintro e w8 ⟨rfl, hb8⟩; have HB8 := Lib.hid (HB5.out.trans (hb8.mono HB5.out.size)); have HZ8 := Lib.hid (HZ5.out.below hb8 HZ5.out.lt); have HK8 := Lib.hid (HK5.out.below hb8 HK5.out.lt); clear z0 z1 z2 z3 z4 z5 hb8)
              go_roundw
              case rel => exact ⟨1 + 1, by go_num, by omega, by omega, none_step HNO.out HE.out, ⟨_, rfl, rfl, rfl, HK8.out⟩, HZ8.out, HB8.out⟩
              case measure => simp [intOf] <;> omega
        · by_cases hB : i = 17
          · obtain rfl := hB
            clear hA z0 z1 z2 z3 z4 z5
            go_upto_region 22 with ((with_reducible refine at_store 49 ?_); refine wpList_store_cell rfl _ _ _ rfl rfl w.heap.size 1 _ _ (.string ⟨v1.toArray⟩) rfl rfl HK4.out (by simp [Kv.cells]) (by kernel_rfl) rfl ?_; intro w5 hn5 hg5; have HK5 : Hid (Blk w5 w.heap.size 24 (Kv.mk 17 v1 0 a1 h1 t1).cells) := Lib.hid hn5; have HZ5 : Hid (Blk w5 (w.heap.size + 1) 24 Kv.no.cells) := Lib.hid ((hg5.block _ HZ4.out.lt (fun e => by injection e with e; omega)).trans HZ4.out); have HB5 := Lib.hid (kfin (Nat.le_refl _) HB4.out hg5); clear hn5 hg5)
            have hkx := HK5.out
            have z0 : w5.cell? ⟨w.heap.size, 0, none⟩ = some (.int .i64 17) := hkx.cell 0
            have z1 : w5.cell? ⟨w.heap.size, 1, none⟩ = some (.string ⟨(v1).toArray⟩) := hkx.cell 1
            have z2 : w5.cell? ⟨w.heap.size, 2, none⟩ = some (.int .i64 0) := hkx.cell 2
            have z3 : w5.cell? ⟨w.heap.size, 3, none⟩ = some (.bool a1) := hkx.cell 3
            have z4 : w5.cell? ⟨w.heap.size, 4, none⟩ = some (.bool h1) := hkx.cell 4
            have z5 : w5.cell? ⟨w.heap.size, 5, none⟩ = some (.bool t1) := hkx.cell 5
            clear hkx
            have hck := rcheck_any (Kv.mk 17 (v1) 0 a1 h1 t1) (by have := HVL.out; simp only; omega)
            by_cases hc : chk (Kv.mk 17 (v1) 0 a1 h1 t1) = true
            · have HE : Hid (tryC a1 h1 t1 s 17 = some (Kv.mk 17 (v1) 0 a1 h1 t1)) := Lib.hid (HT.out.trans (by simp [hc]))
              rw [if_pos hc] at hck
              have HCK := Lib.hid hck
              clear hck hc
              go_wp2_with (first
                | (go_at_call 12; refine (HCK.out _).mono ?_; rintro e w8 ⟨rfl, hb8⟩; have HB8 := Lib.hid (HB5.out.trans (hb8.mono HB5.out.size)); have HZ8 := Lib.hid (HZ5.out.below hb8 HZ5.out.lt); have hk9 := HK5.out.below hb8 HK5.out.lt; clear z0 z1 z2 z3 z4 z5; have z0 : w8.cell? ⟨w.heap.size, 0, none⟩ = some (.int .i64 17) := hk9.cell 0; have z1 : w8.cell? ⟨w.heap.size, 1, none⟩ = some (.string ⟨(v1).toArray⟩) := hk9.cell 1; have z2 : w8.cell? ⟨w.heap.size, 2, none⟩ = some (.int .i64 0) := hk9.cell 2; have z3 : w8.cell? ⟨w.heap.size, 3, none⟩ = some (.bool a1) := hk9.cell 3; have z4 : w8.cell? ⟨w.heap.size, 4, none⟩ = some (.bool h1) := hk9.cell 4; have z5 : w8.cell? ⟨w.heap.size, 5, none⟩ = some (.bool t1) := hk9.cell 5; clear hb8 hk9)
                | ((with_reducible refine at_store 4 ?_); refine wpList_store_blk rfl _ _ _ rfl rfl (w.heap.size + 1) 0 _ Kv.no.cells (Kv.mk 17 (v1) 0 a1 h1 t1).cells rfl rfl HZ8.out (by simp [Kv.len]) kv_size (Kv.one _) ?_; intro w9 hn9 hg9))
              exact bodyPost_ret (kresults_ct rfl rfl rfl (kwhole hn9) Tryd.underlying24 rfl kv_size) rfl ⟨(Kv.mk 17 (v1) 0 a1 h1 t1), 0, .inl ⟨17, _, by omega, by omega, HE.out, rfl⟩, rfl, kfin (by omega) HB8.out hg9⟩
            · have HE : Hid (tryC a1 h1 t1 s 17 = none) := Lib.hid (HT.out.trans (by simp [hc]))
              rw [if_neg hc] at hck
              have HCK := Lib.hid hck
              clear hck hc
              go_wp2_with (go_at_call 12; refine (HCK.out _).mono ?_; rintro e w8 ⟨rfl, hb8⟩; have HB8 := Lib.hid (HB5.out.trans (hb8.mono HB5.out.size)); have HZ8 := Lib.hid (HZ5.out.below hb8 HZ5.out.lt); have HK8 := Lib.hid (HK5.out.below hb8 HK5.out.lt); clear z0 z1 z2 z3 z4 z5 hb8)
              go_roundw
              case rel => exact ⟨17 + 1, by go_num, by omega, by omega, none_step HNO.out HE.out, ⟨_, rfl, rfl, rfl, HK8.out⟩, HZ8.out, HB8.out⟩
              case measure => simp [intOf] <;> omega
          · by_cases hC : i = 18
            · obtain rfl := hC
              clear hA hB z0 z1 z2 z3 z4 z5
              obtain ⟨vb, hvb⟩ : ∃ vb : ByteArray, vb = ⟨v1.toArray⟩ := ⟨_, rfl⟩
              have HVB : Hid (vb.toList = v1) := Lib.hid (by rw [hvb, Lib.toList_data])
              rw [← hvb]
              clear hvb
              go_upto_region 17 with (fail)
              go_loopw [11] (fun v11 wq => ∃ m : Nat, v11 = .int .i64 (m : Int) ∧ 1 ≤ m ∧ m ≤ 13 ∧ Blk wq w.heap.size 24 (Kv.mk 18 [] (digN m v1) a1 h1 t1).cells ∧ Blk wq (w.heap.size + 1) 24 Kv.no.cells ∧ Below w.heap.size w wq) (fun v11 _ => 13 - (intOf v11).toNat)
              case atStart => exact ⟨1, rfl, by omega, by omega, HK4.out, HZ4.out, HB4.out⟩
              case round =>
                obtain ⟨m, rfl, hm1, hm2, hk, hz, hb⟩ := hrel
                have HKQ := Lib.hid hk
                have HZQ := Lib.hid hz
                have HBQ := Lib.hid hb
                clear hk hz hb
                by_cases hml : m ≤ 12
                · have hki2 : (m : Int) ≤ 12 := by omega
                  have HDG := Lib.hid (fun W => rdigits_any m hm1 hml W)
                  obtain ⟨D, hD⟩ : ∃ D : ByteArray, D = ⟨(Lib.decDigits m).toArray⟩ := ⟨_, rfl⟩
                  rw [← hD] at HDG
                  have hDl : D.toList = Lib.decDigits m := by rw [hD, Lib.toList_data]
                  by_cases hdd : Lib.decDigits m = v1
                  · have hbq : (D.toList == vb.toList) = true := by rw [hDl, HVB.out, hdd]; simp
                    have HDN : Hid (digN (m + 1) v1 = m) := Lib.hid (digN_hit hm1 hdd)
                    clear hD hDl hdd
                    go_wp2_with (first
                      | (go_at_call 44; refine (HDG.out _).mono ?_; rintro e w5 ⟨rfl, hb5⟩; have HK5 := Lib.hid (HKQ.out.below hb5 HKQ.out.lt); have HZ5 := Lib.hid (HZQ.out.below hb5 HZQ.out.lt); have HB5 := Lib.hid (HBQ.out.trans (hb5.mono HBQ.out.size)); clear hb5)
                      | ((with_reducible refine at_store 62 ?_); refine wpList_store_cell rfl _ _ _ rfl rfl w.heap.size 2 _ _ (.int .i64 m) rfl rfl HK5.out (by simp [Kv.cells]) (by kernel_rfl) rfl ?_; intro w6 hn6 hg6; have HK6 : Hid (Blk w6 w.heap.size 24 (Kv.mk 18 [] m a1 h1 t1).cells) := Lib.hid hn6; have HZ6 : Hid (Blk w6 (w.heap.size + 1) 24 Kv.no.cells) := Lib.hid ((hg6.block _ HZ5.out.lt (fun e => by injection e with e; omega)).trans HZ5.out); have HB6 := Lib.hid (kfin (Nat.le_refl _) HB5.out hg6); clear hn6 hg6))
                    go_roundw
                    case rel => exact ⟨m + 1, by go_num, by omega, by omega, by rw [HDN.out]; exact HK6.out, HZ6.out, HB6.out⟩
                    case measure => simp [intOf] <;> omega
                  · have hbq : (D.toList == vb.toList) = false := by rw [hDl, HVB.out, beq_eq_false_iff_ne]; exact hdd
                    have HDN : Hid (digN (m + 1) v1 = digN m v1) := Lib.hid (digN_miss hdd)
                    clear hD hDl hdd
                    go_wp2_with (go_at_call 44; refine (HDG.out _).mono ?_; rintro e w5 ⟨rfl, hb5⟩; have HK5 := Lib.hid (HKQ.out.below hb5 HKQ.out.lt); have HZ5 := Lib.hid (HZQ.out.below hb5 HZQ.out.lt); have HB5 := Lib.hid (HBQ.out.trans (hb5.mono HBQ.out.size)); clear hb5)
                    go_roundw
                    case rel => exact ⟨m + 1, by go_num, by omega, by omega, by rw [HDN.out]; exact HK5.out, HZ5.out, HB5.out⟩
                    case measure => simp [intOf] <;> omega
                · have hki2 : ¬ (m : Int) ≤ 12 := by omega
                  obtain rfl : m = 13 := by omega
                  obtain ⟨dn, hdn⟩ : ∃ dn, dn = digN 13 v1 := ⟨_, rfl⟩
                  rw [← hdn] at HKQ HT
                  clear hdn
                  have hkx := HKQ.out
                  have z0 : wr.cell? ⟨w.heap.size, 0, none⟩ = some (.int .i64 18) := hkx.cell 0
                  have z1 : wr.cell? ⟨w.heap.size, 1, none⟩ = some (.string ⟨#[]⟩) := hkx.cell 1
                  have z2 : wr.cell? ⟨w.heap.size, 2, none⟩ = some (.int .i64 (dn : Int)) := hkx.cell 2
                  have z3 : wr.cell? ⟨w.heap.size, 3, none⟩ = some (.bool a1) := hkx.cell 3
                  have z4 : wr.cell? ⟨w.heap.size, 4, none⟩ = some (.bool h1) := hkx.cell 4
                  have z5 : wr.cell? ⟨w.heap.size, 5, none⟩ = some (.bool t1) := hkx.cell 5
                  clear hkx
                  have hck := rcheck_any (Kv.mk 18 [] (dn : Int) a1 h1 t1) (by simp)
                  by_cases hc : chk (Kv.mk 18 [] (dn : Int) a1 h1 t1) = true
                  · have HE : Hid (tryC a1 h1 t1 s 18 = some (Kv.mk 18 [] (dn : Int) a1 h1 t1)) := Lib.hid (HT.out.trans (by simp [hc]))
                    rw [if_pos hc] at hck
                    have HCK := Lib.hid hck
                    clear hck hc
                    go_wp2_with (first
                      | (go_at_call 12; refine (HCK.out _).mono ?_; rintro e w8 ⟨rfl, hb8⟩; have HB8 := Lib.hid (HBQ.out.trans (hb8.mono HBQ.out.size)); have HZ8 := Lib.hid (HZQ.out.below hb8 HZQ.out.lt); have hk9 := HKQ.out.below hb8 HKQ.out.lt; clear z0 z1 z2 z3 z4 z5; have z0 : w8.cell? ⟨w.heap.size, 0, none⟩ = some (.int .i64 18) := hk9.cell 0; have z1 : w8.cell? ⟨w.heap.size, 1, none⟩ = some (.string ⟨#[]⟩) := hk9.cell 1; have z2 : w8.cell? ⟨w.heap.size, 2, none⟩ = some (.int .i64 (dn : Int)) := hk9.cell 2; have z3 : w8.cell? ⟨w.heap.size, 3, none⟩ = some (.bool a1) := hk9.cell 3; have z4 : w8.cell? ⟨w.heap.size, 4, none⟩ = some (.bool h1) := hk9.cell 4; have z5 : w8.cell? ⟨w.heap.size, 5, none⟩ = some (.bool t1) := hk9.cell 5; clear hb8 hk9)
                      | ((with_reducible refine at_store 4 ?_); refine wpList_store_blk rfl _ _ _ rfl rfl (w.heap.size + 1) 0 _ Kv.no.cells (Kv.mk 18 [] (dn : Int) a1 h1 t1).cells rfl rfl HZ8.out (by simp [Kv.len]) kv_size (Kv.one _) ?_; intro w9 hn9 hg9))
                    exact bodyPost_ret (kresults_ct rfl rfl rfl (kwhole hn9) Tryd.underlying24 rfl kv_size) rfl ⟨(Kv.mk 18 [] (dn : Int) a1 h1 t1), 0, .inl ⟨18, _, by omega, by omega, HE.out, rfl⟩, rfl, kfin (by omega) HB8.out hg9⟩
                  · have HE : Hid (tryC a1 h1 t1 s 18 = none) := Lib.hid (HT.out.trans (by simp [hc]))
                    rw [if_neg hc] at hck
                    have HCK := Lib.hid hck
                    clear hck hc
                    go_wp2_with (go_at_call 12; refine (HCK.out _).mono ?_; rintro e w8 ⟨rfl, hb8⟩; have HB8 := Lib.hid (HBQ.out.trans (hb8.mono HBQ.out.size)); have HZ8 := Lib.hid (HZQ.out.below hb8 HZQ.out.lt); have HK8 := Lib.hid (HKQ.out.below hb8 HKQ.out.lt); clear z0 z1 z2 z3 z4 z5 hb8)
                    go_roundw
                    case rel => exact ⟨18 + 1, by go_num, by omega, by omega, none_step HNO.out HE.out, ⟨_, rfl, rfl, rfl, HK8.out⟩, HZ8.out, HB8.out⟩
                    case measure => simp [intOf] <;> omega
            · have e17 : ((i : Int) == 17) = false := by simp; omega
              have e18 : ((i : Int) == 18) = false := by simp; omega
              obtain ⟨vb, hvb⟩ : ∃ vb : ByteArray, vb = ⟨v1.toArray⟩ := ⟨_, rfl⟩
              have hvl : vb.toList = v1 := by rw [hvb, Lib.toList_data]
              rw [← hvb]
              clear hvb
              by_cases h1i : i = 1
              · obtain rfl := h1i
                obtain rfl : a1 = false := by
                  cases a1
                  · rfl
                  · exact absurd ⟨rfl, rfl⟩ hA
                clear hA hB hC e17 e18
                by_cases hv : v1 = []
                · have hE : vb.toList.isEmpty = true := by rw [hvl, hv]; rfl
                  have HV := Lib.hid hv
                  clear hv hvl
                  have hck := rcheck_any (Kv.mk (1 : Int) [] 0 false h1 t1) (by simp)
                  by_cases hc : chk (Kv.mk (1 : Int) [] 0 false h1 t1) = true
                  · have HE : Hid (tryC false h1 t1 s 1 = some (Kv.mk (1 : Int) [] 0 false h1 t1)) := Lib.hid (HT.out.trans (by have hv := HV.out; simp [hv, hc]))
                    rw [if_pos hc] at hck
                    have HCK := Lib.hid hck
                    clear hck hc
                    go_wp2_with (first
                      | (go_at_call 12; refine (HCK.out _).mono ?_; rintro e w8 ⟨rfl, hb8⟩; have HB8 := Lib.hid (HB4.out.trans (hb8.mono HB4.out.size)); have HZ8 := Lib.hid (HZ4.out.below hb8 HZ4.out.lt); have hk9 := HK4.out.below hb8 HK4.out.lt; clear z0 z1 z2 z3 z4 z5; have z0 : w8.cell? ⟨w.heap.size, 0, none⟩ = some (.int .i64 (1 : Int)) := hk9.cell 0; have z1 : w8.cell? ⟨w.heap.size, 1, none⟩ = some (.string ⟨#[]⟩) := hk9.cell 1; have z2 : w8.cell? ⟨w.heap.size, 2, none⟩ = some (.int .i64 0) := hk9.cell 2; have z3 : w8.cell? ⟨w.heap.size, 3, none⟩ = some (.bool false) := hk9.cell 3; have z4 : w8.cell? ⟨w.heap.size, 4, none⟩ = some (.bool h1) := hk9.cell 4; have z5 : w8.cell? ⟨w.heap.size, 5, none⟩ = some (.bool t1) := hk9.cell 5; clear hb8 hk9)
                      | ((with_reducible refine at_store 4 ?_); refine wpList_store_blk rfl _ _ _ rfl rfl (w.heap.size + 1) 0 _ Kv.no.cells (Kv.mk (1 : Int) [] 0 false h1 t1).cells rfl rfl HZ8.out (by simp [Kv.len]) kv_size (Kv.one _) ?_; intro w9 hn9 hg9))
                    exact bodyPost_ret (kresults_ct rfl rfl rfl (kwhole hn9) Tryd.underlying24 rfl kv_size) rfl ⟨(Kv.mk (1 : Int) [] 0 false h1 t1), 0, .inl ⟨1, _, by omega, by omega, HE.out, rfl⟩, rfl, kfin (by omega) HB8.out hg9⟩
                  · have HE : Hid (tryC false h1 t1 s 1 = none) := Lib.hid (HT.out.trans (by have hv := HV.out; simp [hv, hc]))
                    rw [if_neg hc] at hck
                    have HCK := Lib.hid hck
                    clear hck hc
                    go_wp2_with (go_at_call 12; refine (HCK.out _).mono ?_; rintro e w8 ⟨rfl, hb8⟩; have HB8 := Lib.hid (HB4.out.trans (hb8.mono HB4.out.size)); have HZ8 := Lib.hid (HZ4.out.below hb8 HZ4.out.lt); have HK8 := Lib.hid (HK4.out.below hb8 HK4.out.lt); clear z0 z1 z2 z3 z4 z5 hb8)
                    go_roundw
                    case rel => exact ⟨1 + 1, by go_num, by omega, by omega, none_step HNO.out HE.out, ⟨_, rfl, rfl, rfl, HK8.out⟩, HZ8.out, HB8.out⟩
                    case measure => simp [intOf] <;> omega
                · have hE : vb.toList.isEmpty = false := by rw [hvl]; cases v1 <;> simp_all
                  have HE : Hid (tryC false h1 t1 s 1 = none) := Lib.hid (HT.out.trans (by simp [hv]))
                  clear hv hvl
                  go_wp2_with (fail)
                  go_roundw
                  case rel => exact ⟨1 + 1, by go_num, by omega, by omega, none_step HNO.out HE.out, ⟨_, rfl, rfl, rfl, HK4.out⟩, HZ4.out, HB4.out⟩
                  case measure => simp [intOf] <;> omega
              · have e1 : ((i : Int) == 1) = false := by simp; omega
                have HIB := Lib.hid hB
                have HIC := Lib.hid hC
                have HI1 := Lib.hid h1i
                clear hA hB hC h1i
                by_cases hv : v1 = []
                · have hE : vb.toList.isEmpty = true := by rw [hvl, hv]; rfl
                  have HV := Lib.hid hv
                  clear hv hvl
                  have hck := rcheck_any (Kv.mk (i : Int) [] 0 a1 h1 t1) (by simp)
                  by_cases hc : chk (Kv.mk (i : Int) [] 0 a1 h1 t1) = true
                  · have HE : Hid (tryC a1 h1 t1 s i = some (Kv.mk (i : Int) [] 0 a1 h1 t1)) := Lib.hid (HT.out.trans (by have hv := HV.out; simp [hv, hc, HIB.out, HIC.out, HI1.out]))
                    rw [if_pos hc] at hck
                    have HCK := Lib.hid hck
                    clear hck hc
                    go_wp2_with (first
                      | (go_at_call 12; refine (HCK.out _).mono ?_; rintro e w8 ⟨rfl, hb8⟩; have HB8 := Lib.hid (HB4.out.trans (hb8.mono HB4.out.size)); have HZ8 := Lib.hid (HZ4.out.below hb8 HZ4.out.lt); have hk9 := HK4.out.below hb8 HK4.out.lt; clear z0 z1 z2 z3 z4 z5; have z0 : w8.cell? ⟨w.heap.size, 0, none⟩ = some (.int .i64 (i : Int)) := hk9.cell 0; have z1 : w8.cell? ⟨w.heap.size, 1, none⟩ = some (.string ⟨#[]⟩) := hk9.cell 1; have z2 : w8.cell? ⟨w.heap.size, 2, none⟩ = some (.int .i64 0) := hk9.cell 2; have z3 : w8.cell? ⟨w.heap.size, 3, none⟩ = some (.bool a1) := hk9.cell 3; have z4 : w8.cell? ⟨w.heap.size, 4, none⟩ = some (.bool h1) := hk9.cell 4; have z5 : w8.cell? ⟨w.heap.size, 5, none⟩ = some (.bool t1) := hk9.cell 5; clear hb8 hk9)
                      | ((with_reducible refine at_store 4 ?_); refine wpList_store_blk rfl _ _ _ rfl rfl (w.heap.size + 1) 0 _ Kv.no.cells (Kv.mk (i : Int) [] 0 a1 h1 t1).cells rfl rfl HZ8.out (by simp [Kv.len]) kv_size (Kv.one _) ?_; intro w9 hn9 hg9))
                    exact bodyPost_ret (kresults_ct rfl rfl rfl (kwhole hn9) Tryd.underlying24 rfl kv_size) rfl ⟨(Kv.mk (i : Int) [] 0 a1 h1 t1), 0, .inl ⟨i, _, by omega, by omega, HE.out, rfl⟩, rfl, kfin (by omega) HB8.out hg9⟩
                  · have HE : Hid (tryC a1 h1 t1 s i = none) := Lib.hid (HT.out.trans (by have hv := HV.out; simp [hv, hc, HIB.out, HIC.out, HI1.out]))
                    rw [if_neg hc] at hck
                    have HCK := Lib.hid hck
                    clear hck hc
                    go_wp2_with (go_at_call 12; refine (HCK.out _).mono ?_; rintro e w8 ⟨rfl, hb8⟩; have HB8 := Lib.hid (HB4.out.trans (hb8.mono HB4.out.size)); have HZ8 := Lib.hid (HZ4.out.below hb8 HZ4.out.lt); have HK8 := Lib.hid (HK4.out.below hb8 HK4.out.lt); clear z0 z1 z2 z3 z4 z5 hb8)
                    go_roundw
                    case rel => exact ⟨i + 1, by go_num, by omega, by omega, none_step HNO.out HE.out, ⟨_, rfl, rfl, rfl, HK8.out⟩, HZ8.out, HB8.out⟩
                    case measure => simp [intOf] <;> omega
                · have hE : vb.toList.isEmpty = false := by rw [hvl]; cases v1 <;> simp_all
                  have HE : Hid (tryC a1 h1 t1 s i = none) := Lib.hid (HT.out.trans (by simp [hv, HIB.out, HIC.out, HI1.out]))
                  clear hv hvl
                  go_wp2_with (fail)
                  go_roundw
                  case rel => exact ⟨i + 1, by go_num, by omega, by omega, none_step HNO.out HE.out, ⟨_, rfl, rfl, rfl, HK4.out⟩, HZ4.out, HB4.out⟩
                  case measure => simp [intOf] <;> omega
    · have hki : ¬ (i : Int) ≤ 18 := by omega
      obtain rfl : i = 19 := by omega
      go_wp2_with ((with_reducible refine at_store 4 ?_); refine wpList_store_blk rfl _ _ _ rfl rfl (w.heap.size + 1) 0 _ Kv.no.cells Kv.no.cells rfl rfl HZ.out (by simp [Kv.len]) kv_size (Kv.one _) ?_; intro w9 hn9 hg9)
      exact bodyPost_ret (kresults_ct rfl rfl rfl (kwhole hn9) Tryd.underlying24 rfl kv_size) rfl ⟨Kv.no, 80, .inr ⟨fun j h1 h2 => HNO.out j h1 (by omega), rfl⟩, rfl, kfin (by omega) HB.out hg9⟩
end Go.Proofs.YthlhfbchilfgcaaDoor
