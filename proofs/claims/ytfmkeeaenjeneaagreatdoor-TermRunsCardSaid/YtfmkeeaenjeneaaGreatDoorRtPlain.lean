/-
  Walks: the reference's plain, where the cursor moves.
-/
import Derived.Test.YtfmkeeaenjeneaaGreatDoorRtErased
import Derived.Test.YtfmkeeaenjeneaaGreatDoorRtNums
namespace Go.Proofs.YtfmkeeaenjeneaaGreatDoor
open Go.RowKit Go.Sort
set_option linter.unusedVariables false
set_option linter.unusedSimpArgs false

theorem RtS.outV {w W w9 : World} {D : Nat → Prop} {T T' : TS} {A A' : Option Addr} {c c' : Nat} {vB : Value} (h : RtS w W D T A c vB) (hr : RfAt W (DD w D) A' c' T'.L) (hg : W.grownBy w9 (some (w.heap.size + 1))) :
    (RtV w9 (fun b => D b ∨ w.heap.size ≤ b) (.agg (rtC T' A' c' vB).toArray) T' vB) ∧ Below w.heap.size w w9 :=
  ⟨⟨A', c', rfl, (hr.chg (chg_of_grown hg) (fun b _ hd e => by have e' : b = w.heap.size + 1 := e; rcases hd with ⟨_, h⟩ | h <;> omega)).mono (fun b _ hd => hd.elim (fun h => .inl h.1) (fun h => .inr (by omega)))⟩, h.bel.grown hg h.bel.size (fun j hj => by injection hj with hj; omega)⟩
theorem RtS.rowsD {w W W' : World} {D : Nat → Prop} {T : TS} {A A' : Option Addr} {c c' : Nat} {vB : Value} {L' : List (List Cl)} (h : RtS w W D T A c vB) (hr : RfAt W' (fun b => DD w D b ∨ W.heap.size ≤ b) A' c' L') : RfAt W' (DD w D) A' c' L' :=
  hr.mono (fun b _ hd => hd.elim id (fun hd => .inr (by have := h.size; omega)))
theorem wi_max (n : Int) (k : Nat) (h : 0 ≤ n) : wi (max n 1 - 1) k = wi (n - 1) k := by unfold wi; omega
set_option maxRecDepth 100000 in
set_option maxHeartbeats 8000000 in
theorem rplain_A {w : World} {D : Nat → Prop} {A : Option Addr} {c : Nat} {T : TS} {vB : Value} (h : RfAt w D A c T.L) (hk : TOk T) (hv : vB.oneCell' = true) (xs : List Int) (Al : Option Addr) (m cl : Nat) (hm : m = xs.length) (h1 : 0 < m) (h2 : m ≤ 200) (hx : ∀ v ∈ xs, 0 ≤ v ∧ v ≤ 9999) (hS : Sl w w.heap.size Al (iv xs)) :
    Calls Tryz.prog 115 #[.agg #[.int .i64 T.W, .int .i64 T.L.length, .slice A T.L.length c, .int .i64 T.row, .int .i64 T.col, .bool T.y.b, .bool T.y.u, .bool T.y.i, .int .i64 T.y.f, .int .i64 T.y.g, .bool T.pend, .bool T.seen, .bool T.mark, .int .i64 T.bells, .int .i64 T.scr, vB, .bool T.joins, .int .i64 T.lr, .int .i64 T.lc], .slice Al m cl, .int .u8 65] w fun e w' => ∃ V, e = .returned V ∧ RtV w' (fun b => D b ∨ w.heap.size ≤ b) V (moveT T ((T.row : Int) - max (xs.getD 0 0) 1) T.col) vB ∧ Below w.heap.size w w' := by
  have hrow := hk.row
  have hcol := hk.col
  have hw5 := hk.q.w5
  have hh5 := hk.q.h5
  have HK := Lib.hid hk
  obtain ⟨b, off, hA, hbb, hcx⟩ := hS.open_ (by rw [iv_length]; omega)
  subst hA
  obtain ⟨n0, hn0⟩ : ∃ n0, xs[0]? = some n0 := ⟨_, List.getElem?_eq_getElem (by omega)⟩
  have hn1 := hx n0 (List.mem_of_getElem? hn0)
  have hg0 : xs.getD 0 0 = n0 := by rw [List.getD_eq_getElem?_getD, hn0]; rfl
  have hc0 : w.cell? ⟨b, off, none⟩ = some (.int .i64 n0) := hcx 0 _ (by simp [iv, hn0])
  obtain ⟨q, hq⟩ : ∃ q, q = max n0 1 := ⟨_, rfl⟩
  have hmax : max 1 n0 = q := by omega
  have hq1 : 1 ≤ q := by omega
  have hq2 : q ≤ 9999 := by omega
  have HQ := Lib.hid hq
  have HC0 : Hid (∀ W, Below w.heap.size w W → W.cell? ⟨b, off, none⟩ = some (.int .i64 n0)) := Lib.hid (fun W hW => (hW.cell (p := ⟨b, off, none⟩) hbb).trans hc0)
  rw [hg0, ← hq]
  clear hq hcx hx hk hS hg0 hn0
  obtain ⟨W0, HW0, HS0⟩ := rt_start (vB := vB) h
  have HV := Lib.hid hv
  go_enter Tryz.func115, Tryz.ntmps115
  go_upto_region 1 with fail
  rw [← HW0.out]
  clear HW0
  have e0_n : W0.cell? ⟨b, off, none⟩ = some (.int .i64 n0) := HC0.out _ HS0.out.bel
  have e0_H : W0.cell? ⟨w.heap.size, 1, none⟩ = some (.int .i64 T.L.length) := HS0.out.x.cell 1
  have e0_row : W0.cell? ⟨w.heap.size, 3, none⟩ = some (.int .i64 T.row) := HS0.out.x.cell 3
  have e0_col : W0.cell? ⟨w.heap.size, 4, none⟩ = some (.int .i64 T.col) := HS0.out.x.cell 4
  clear h hv
  go_wp2_with (first
    | ((with_reducible refine at_dst 18 ?_); refine wpList_load_mid rfl _ _ rfl w.heap.size 0 rfl (rtC T A c vB) _ HS0.out.x.whole Tryz.underlying34 rfl rt_size ?_)
    | (go_at_call 141; refine (rmoved_any HS0.out.g HK.out HV.out ((T.row : Int) - q) ((T.col : Int)) (by omega) (by omega) (by omega) (by omega)).mono ?_; rintro e w3 ⟨V, rfl, ⟨A3, c3, rfl, hr3⟩, hb3⟩; have HR3 := Lib.hid (HS0.out.rowsD hr3); have HS3 := Lib.hid (HS0.out.below hb3); clear hr3 hb3)
    | ((with_reducible refine at_store 6 ?_); refine wpList_store_blk rfl _ _ _ rfl rfl (w.heap.size + 1) 0 _ rtZ (rtC (moveT T ((T.row : Int) - q) ((T.col : Int))) A3 c3 vB) rfl rfl HS3.out.z (by simp [rtC, rtZ]) rt_size (rtC_one _ _ _ HV.out) ?_; intro w9 hn9 hg9))
  exact bodyPost_ret (results_c rfl rfl hn9.whole Tryz.underlying34 rfl rt_size) rfl ⟨_, rfl, HS3.out.outV HR3.out hg9⟩
set_option maxRecDepth 100000 in
set_option maxHeartbeats 8000000 in
theorem rplain_B {w : World} {D : Nat → Prop} {A : Option Addr} {c : Nat} {T : TS} {vB : Value} (h : RfAt w D A c T.L) (hk : TOk T) (hv : vB.oneCell' = true) (xs : List Int) (Al : Option Addr) (m cl : Nat) (hm : m = xs.length) (h1 : 0 < m) (h2 : m ≤ 200) (hx : ∀ v ∈ xs, 0 ≤ v ∧ v ≤ 9999) (hS : Sl w w.heap.size Al (iv xs)) :
    Calls Tryz.prog 115 #[.agg #[.int .i64 T.W, .int .i64 T.L.length, .slice A T.L.length c, .int .i64 T.row, .int .i64 T.col, .bool T.y.b, .bool T.y.u, .bool T.y.i, .int .i64 T.y.f, .int .i64 T.y.g, .bool T.pend, .bool T.seen, .bool T.mark, .int .i64 T.bells, .int .i64 T.scr, vB, .bool T.joins, .int .i64 T.lr, .int .i64 T.lc], .slice Al m cl, .int .u8 66] w fun e w' => ∃ V, e = .returned V ∧ RtV w' (fun b => D b ∨ w.heap.size ≤ b) V (moveT T ((T.row : Int) + max (xs.getD 0 0) 1) T.col) vB ∧ Below w.heap.size w w' := by
  have hrow := hk.row
  have hcol := hk.col
  have hw5 := hk.q.w5
  have hh5 := hk.q.h5
  have HK := Lib.hid hk
  obtain ⟨b, off, hA, hbb, hcx⟩ := hS.open_ (by rw [iv_length]; omega)
  subst hA
  obtain ⟨n0, hn0⟩ : ∃ n0, xs[0]? = some n0 := ⟨_, List.getElem?_eq_getElem (by omega)⟩
  have hn1 := hx n0 (List.mem_of_getElem? hn0)
  have hg0 : xs.getD 0 0 = n0 := by rw [List.getD_eq_getElem?_getD, hn0]; rfl
  have hc0 : w.cell? ⟨b, off, none⟩ = some (.int .i64 n0) := hcx 0 _ (by simp [iv, hn0])
  obtain ⟨q, hq⟩ : ∃ q, q = max n0 1 := ⟨_, rfl⟩
  have hmax : max 1 n0 = q := by omega
  have hq1 : 1 ≤ q := by omega
  have hq2 : q ≤ 9999 := by omega
  have HQ := Lib.hid hq
  have HC0 : Hid (∀ W, Below w.heap.size w W → W.cell? ⟨b, off, none⟩ = some (.int .i64 n0)) := Lib.hid (fun W hW => (hW.cell (p := ⟨b, off, none⟩) hbb).trans hc0)
  rw [hg0, ← hq]
  clear hq hcx hx hk hS hg0 hn0
  obtain ⟨W0, HW0, HS0⟩ := rt_start (vB := vB) h
  have HV := Lib.hid hv
  go_enter Tryz.func115, Tryz.ntmps115
  go_upto_region 1 with fail
  rw [← HW0.out]
  clear HW0
  have e0_n : W0.cell? ⟨b, off, none⟩ = some (.int .i64 n0) := HC0.out _ HS0.out.bel
  have e0_H : W0.cell? ⟨w.heap.size, 1, none⟩ = some (.int .i64 T.L.length) := HS0.out.x.cell 1
  have e0_row : W0.cell? ⟨w.heap.size, 3, none⟩ = some (.int .i64 T.row) := HS0.out.x.cell 3
  have e0_col : W0.cell? ⟨w.heap.size, 4, none⟩ = some (.int .i64 T.col) := HS0.out.x.cell 4
  clear h hv
  go_wp2_with (first
    | ((with_reducible refine at_dst 28 ?_); refine wpList_load_mid rfl _ _ rfl w.heap.size 0 rfl (rtC T A c vB) _ HS0.out.x.whole Tryz.underlying34 rfl rt_size ?_)
    | (go_at_call 141; refine (rmoved_any HS0.out.g HK.out HV.out ((T.row : Int) + q) ((T.col : Int)) (by omega) (by omega) (by omega) (by omega)).mono ?_; rintro e w3 ⟨V, rfl, ⟨A3, c3, rfl, hr3⟩, hb3⟩; have HR3 := Lib.hid (HS0.out.rowsD hr3); have HS3 := Lib.hid (HS0.out.below hb3); clear hr3 hb3)
    | ((with_reducible refine at_store 6 ?_); refine wpList_store_blk rfl _ _ _ rfl rfl (w.heap.size + 1) 0 _ rtZ (rtC (moveT T ((T.row : Int) + q) ((T.col : Int))) A3 c3 vB) rfl rfl HS3.out.z (by simp [rtC, rtZ]) rt_size (rtC_one _ _ _ HV.out) ?_; intro w9 hn9 hg9))
  exact bodyPost_ret (results_c rfl rfl hn9.whole Tryz.underlying34 rfl rt_size) rfl ⟨_, rfl, HS3.out.outV HR3.out hg9⟩
set_option maxRecDepth 100000 in
set_option maxHeartbeats 8000000 in
theorem rplain_C {w : World} {D : Nat → Prop} {A : Option Addr} {c : Nat} {T : TS} {vB : Value} (h : RfAt w D A c T.L) (hk : TOk T) (hv : vB.oneCell' = true) (xs : List Int) (Al : Option Addr) (m cl : Nat) (hm : m = xs.length) (h1 : 0 < m) (h2 : m ≤ 200) (hx : ∀ v ∈ xs, 0 ≤ v ∧ v ≤ 9999) (hS : Sl w w.heap.size Al (iv xs)) :
    Calls Tryz.prog 115 #[.agg #[.int .i64 T.W, .int .i64 T.L.length, .slice A T.L.length c, .int .i64 T.row, .int .i64 T.col, .bool T.y.b, .bool T.y.u, .bool T.y.i, .int .i64 T.y.f, .int .i64 T.y.g, .bool T.pend, .bool T.seen, .bool T.mark, .int .i64 T.bells, .int .i64 T.scr, vB, .bool T.joins, .int .i64 T.lr, .int .i64 T.lc], .slice Al m cl, .int .u8 67] w fun e w' => ∃ V, e = .returned V ∧ RtV w' (fun b => D b ∨ w.heap.size ≤ b) V (moveT T T.row ((T.col : Int) + max (xs.getD 0 0) 1)) vB ∧ Below w.heap.size w w' := by
  have hrow := hk.row
  have hcol := hk.col
  have hw5 := hk.q.w5
  have hh5 := hk.q.h5
  have HK := Lib.hid hk
  obtain ⟨b, off, hA, hbb, hcx⟩ := hS.open_ (by rw [iv_length]; omega)
  subst hA
  obtain ⟨n0, hn0⟩ : ∃ n0, xs[0]? = some n0 := ⟨_, List.getElem?_eq_getElem (by omega)⟩
  have hn1 := hx n0 (List.mem_of_getElem? hn0)
  have hg0 : xs.getD 0 0 = n0 := by rw [List.getD_eq_getElem?_getD, hn0]; rfl
  have hc0 : w.cell? ⟨b, off, none⟩ = some (.int .i64 n0) := hcx 0 _ (by simp [iv, hn0])
  obtain ⟨q, hq⟩ : ∃ q, q = max n0 1 := ⟨_, rfl⟩
  have hmax : max 1 n0 = q := by omega
  have hq1 : 1 ≤ q := by omega
  have hq2 : q ≤ 9999 := by omega
  have HQ := Lib.hid hq
  have HC0 : Hid (∀ W, Below w.heap.size w W → W.cell? ⟨b, off, none⟩ = some (.int .i64 n0)) := Lib.hid (fun W hW => (hW.cell (p := ⟨b, off, none⟩) hbb).trans hc0)
  rw [hg0, ← hq]
  clear hq hcx hx hk hS hg0 hn0
  obtain ⟨W0, HW0, HS0⟩ := rt_start (vB := vB) h
  have HV := Lib.hid hv
  go_enter Tryz.func115, Tryz.ntmps115
  go_upto_region 1 with fail
  rw [← HW0.out]
  clear HW0
  have e0_n : W0.cell? ⟨b, off, none⟩ = some (.int .i64 n0) := HC0.out _ HS0.out.bel
  have e0_H : W0.cell? ⟨w.heap.size, 1, none⟩ = some (.int .i64 T.L.length) := HS0.out.x.cell 1
  have e0_row : W0.cell? ⟨w.heap.size, 3, none⟩ = some (.int .i64 T.row) := HS0.out.x.cell 3
  have e0_col : W0.cell? ⟨w.heap.size, 4, none⟩ = some (.int .i64 T.col) := HS0.out.x.cell 4
  clear h hv
  go_wp2_with (first
    | ((with_reducible refine at_dst 38 ?_); refine wpList_load_mid rfl _ _ rfl w.heap.size 0 rfl (rtC T A c vB) _ HS0.out.x.whole Tryz.underlying34 rfl rt_size ?_)
    | (go_at_call 141; refine (rmoved_any HS0.out.g HK.out HV.out ((T.row : Int)) ((T.col : Int) + q) (by omega) (by omega) (by omega) (by omega)).mono ?_; rintro e w3 ⟨V, rfl, ⟨A3, c3, rfl, hr3⟩, hb3⟩; have HR3 := Lib.hid (HS0.out.rowsD hr3); have HS3 := Lib.hid (HS0.out.below hb3); clear hr3 hb3)
    | ((with_reducible refine at_store 6 ?_); refine wpList_store_blk rfl _ _ _ rfl rfl (w.heap.size + 1) 0 _ rtZ (rtC (moveT T ((T.row : Int)) ((T.col : Int) + q)) A3 c3 vB) rfl rfl HS3.out.z (by simp [rtC, rtZ]) rt_size (rtC_one _ _ _ HV.out) ?_; intro w9 hn9 hg9))
  exact bodyPost_ret (results_c rfl rfl hn9.whole Tryz.underlying34 rfl rt_size) rfl ⟨_, rfl, HS3.out.outV HR3.out hg9⟩
set_option maxRecDepth 100000 in
set_option maxHeartbeats 8000000 in
theorem rplain_D {w : World} {D : Nat → Prop} {A : Option Addr} {c : Nat} {T : TS} {vB : Value} (h : RfAt w D A c T.L) (hk : TOk T) (hv : vB.oneCell' = true) (xs : List Int) (Al : Option Addr) (m cl : Nat) (hm : m = xs.length) (h1 : 0 < m) (h2 : m ≤ 200) (hx : ∀ v ∈ xs, 0 ≤ v ∧ v ≤ 9999) (hS : Sl w w.heap.size Al (iv xs)) :
    Calls Tryz.prog 115 #[.agg #[.int .i64 T.W, .int .i64 T.L.length, .slice A T.L.length c, .int .i64 T.row, .int .i64 T.col, .bool T.y.b, .bool T.y.u, .bool T.y.i, .int .i64 T.y.f, .int .i64 T.y.g, .bool T.pend, .bool T.seen, .bool T.mark, .int .i64 T.bells, .int .i64 T.scr, vB, .bool T.joins, .int .i64 T.lr, .int .i64 T.lc], .slice Al m cl, .int .u8 68] w fun e w' => ∃ V, e = .returned V ∧ RtV w' (fun b => D b ∨ w.heap.size ≤ b) V (moveT T T.row ((T.col : Int) - max (xs.getD 0 0) 1)) vB ∧ Below w.heap.size w w' := by
  have hrow := hk.row
  have hcol := hk.col
  have hw5 := hk.q.w5
  have hh5 := hk.q.h5
  have HK := Lib.hid hk
  obtain ⟨b, off, hA, hbb, hcx⟩ := hS.open_ (by rw [iv_length]; omega)
  subst hA
  obtain ⟨n0, hn0⟩ : ∃ n0, xs[0]? = some n0 := ⟨_, List.getElem?_eq_getElem (by omega)⟩
  have hn1 := hx n0 (List.mem_of_getElem? hn0)
  have hg0 : xs.getD 0 0 = n0 := by rw [List.getD_eq_getElem?_getD, hn0]; rfl
  have hc0 : w.cell? ⟨b, off, none⟩ = some (.int .i64 n0) := hcx 0 _ (by simp [iv, hn0])
  obtain ⟨q, hq⟩ : ∃ q, q = max n0 1 := ⟨_, rfl⟩
  have hmax : max 1 n0 = q := by omega
  have hq1 : 1 ≤ q := by omega
  have hq2 : q ≤ 9999 := by omega
  have HQ := Lib.hid hq
  have HC0 : Hid (∀ W, Below w.heap.size w W → W.cell? ⟨b, off, none⟩ = some (.int .i64 n0)) := Lib.hid (fun W hW => (hW.cell (p := ⟨b, off, none⟩) hbb).trans hc0)
  rw [hg0, ← hq]
  clear hq hcx hx hk hS hg0 hn0
  obtain ⟨W0, HW0, HS0⟩ := rt_start (vB := vB) h
  have HV := Lib.hid hv
  go_enter Tryz.func115, Tryz.ntmps115
  go_upto_region 1 with fail
  rw [← HW0.out]
  clear HW0
  have e0_n : W0.cell? ⟨b, off, none⟩ = some (.int .i64 n0) := HC0.out _ HS0.out.bel
  have e0_H : W0.cell? ⟨w.heap.size, 1, none⟩ = some (.int .i64 T.L.length) := HS0.out.x.cell 1
  have e0_row : W0.cell? ⟨w.heap.size, 3, none⟩ = some (.int .i64 T.row) := HS0.out.x.cell 3
  have e0_col : W0.cell? ⟨w.heap.size, 4, none⟩ = some (.int .i64 T.col) := HS0.out.x.cell 4
  clear h hv
  go_wp2_with (first
    | ((with_reducible refine at_dst 48 ?_); refine wpList_load_mid rfl _ _ rfl w.heap.size 0 rfl (rtC T A c vB) _ HS0.out.x.whole Tryz.underlying34 rfl rt_size ?_)
    | (go_at_call 141; refine (rmoved_any HS0.out.g HK.out HV.out ((T.row : Int)) ((T.col : Int) - q) (by omega) (by omega) (by omega) (by omega)).mono ?_; rintro e w3 ⟨V, rfl, ⟨A3, c3, rfl, hr3⟩, hb3⟩; have HR3 := Lib.hid (HS0.out.rowsD hr3); have HS3 := Lib.hid (HS0.out.below hb3); clear hr3 hb3)
    | ((with_reducible refine at_store 6 ?_); refine wpList_store_blk rfl _ _ _ rfl rfl (w.heap.size + 1) 0 _ rtZ (rtC (moveT T ((T.row : Int)) ((T.col : Int) - q)) A3 c3 vB) rfl rfl HS3.out.z (by simp [rtC, rtZ]) rt_size (rtC_one _ _ _ HV.out) ?_; intro w9 hn9 hg9))
  exact bodyPost_ret (results_c rfl rfl hn9.whole Tryz.underlying34 rfl rt_size) rfl ⟨_, rfl, HS3.out.outV HR3.out hg9⟩
set_option maxRecDepth 100000 in
set_option maxHeartbeats 8000000 in
theorem rplain_G {w : World} {D : Nat → Prop} {A : Option Addr} {c : Nat} {T : TS} {vB : Value} (h : RfAt w D A c T.L) (hk : TOk T) (hv : vB.oneCell' = true) (xs : List Int) (Al : Option Addr) (m cl : Nat) (hm : m = xs.length) (h1 : 0 < m) (h2 : m ≤ 200) (hx : ∀ v ∈ xs, 0 ≤ v ∧ v ≤ 9999) (hS : Sl w w.heap.size Al (iv xs)) :
    Calls Tryz.prog 115 #[.agg #[.int .i64 T.W, .int .i64 T.L.length, .slice A T.L.length c, .int .i64 T.row, .int .i64 T.col, .bool T.y.b, .bool T.y.u, .bool T.y.i, .int .i64 T.y.f, .int .i64 T.y.g, .bool T.pend, .bool T.seen, .bool T.mark, .int .i64 T.bells, .int .i64 T.scr, vB, .bool T.joins, .int .i64 T.lr, .int .i64 T.lc], .slice Al m cl, .int .u8 71] w fun e w' => ∃ V, e = .returned V ∧ RtV w' (fun b => D b ∨ w.heap.size ≤ b) V (moveT T T.row (xs.getD 0 0 - 1)) vB ∧ Below w.heap.size w w' := by
  have hrow := hk.row
  have hcol := hk.col
  have hw5 := hk.q.w5
  have hh5 := hk.q.h5
  have HK := Lib.hid hk
  obtain ⟨b, off, hA, hbb, hcx⟩ := hS.open_ (by rw [iv_length]; omega)
  subst hA
  obtain ⟨n0, hn0⟩ : ∃ n0, xs[0]? = some n0 := ⟨_, List.getElem?_eq_getElem (by omega)⟩
  have hn1 := hx n0 (List.mem_of_getElem? hn0)
  have hg0 : xs.getD 0 0 = n0 := by rw [List.getD_eq_getElem?_getD, hn0]; rfl
  have hc0 : w.cell? ⟨b, off, none⟩ = some (.int .i64 n0) := hcx 0 _ (by simp [iv, hn0])
  obtain ⟨q, hq⟩ : ∃ q, q = max n0 1 := ⟨_, rfl⟩
  have hmax : max 1 n0 = q := by omega
  have hq1 : 1 ≤ q := by omega
  have hq2 : q ≤ 9999 := by omega
  have HQ := Lib.hid hq
  have HC0 : Hid (∀ W, Below w.heap.size w W → W.cell? ⟨b, off, none⟩ = some (.int .i64 n0)) := Lib.hid (fun W hW => (hW.cell (p := ⟨b, off, none⟩) hbb).trans hc0)
  have hE : moveT T T.row (xs.getD 0 0 - 1) = moveT T T.row (q - 1) := by rw [hg0, hq]; unfold moveT; rw [wi_max n0 T.W (by omega)]
  rw [hE]
  clear hq hcx hx hk hS hg0 hn0 hE
  obtain ⟨W0, HW0, HS0⟩ := rt_start (vB := vB) h
  have HV := Lib.hid hv
  go_enter Tryz.func115, Tryz.ntmps115
  go_upto_region 1 with fail
  rw [← HW0.out]
  clear HW0
  have e0_n : W0.cell? ⟨b, off, none⟩ = some (.int .i64 n0) := HC0.out _ HS0.out.bel
  have e0_H : W0.cell? ⟨w.heap.size, 1, none⟩ = some (.int .i64 T.L.length) := HS0.out.x.cell 1
  have e0_row : W0.cell? ⟨w.heap.size, 3, none⟩ = some (.int .i64 T.row) := HS0.out.x.cell 3
  have e0_col : W0.cell? ⟨w.heap.size, 4, none⟩ = some (.int .i64 T.col) := HS0.out.x.cell 4
  clear h hv
  go_wp2_with (first
    | ((with_reducible refine at_dst 58 ?_); refine wpList_load_mid rfl _ _ rfl w.heap.size 0 rfl (rtC T A c vB) _ HS0.out.x.whole Tryz.underlying34 rfl rt_size ?_)
    | (go_at_call 141; refine (rmoved_any HS0.out.g HK.out HV.out ((T.row : Int)) (q - 1) (by omega) (by omega) (by omega) (by omega)).mono ?_; rintro e w3 ⟨V, rfl, ⟨A3, c3, rfl, hr3⟩, hb3⟩; have HR3 := Lib.hid (HS0.out.rowsD hr3); have HS3 := Lib.hid (HS0.out.below hb3); clear hr3 hb3)
    | ((with_reducible refine at_store 6 ?_); refine wpList_store_blk rfl _ _ _ rfl rfl (w.heap.size + 1) 0 _ rtZ (rtC (moveT T ((T.row : Int)) (q - 1)) A3 c3 vB) rfl rfl HS3.out.z (by simp [rtC, rtZ]) rt_size (rtC_one _ _ _ HV.out) ?_; intro w9 hn9 hg9))
  exact bodyPost_ret (results_c rfl rfl hn9.whole Tryz.underlying34 rfl rt_size) rfl ⟨_, rfl, HS3.out.outV HR3.out hg9⟩
set_option maxRecDepth 100000 in
set_option maxHeartbeats 8000000 in
theorem rplain_H1 {w : World} {D : Nat → Prop} {A : Option Addr} {c : Nat} {T : TS} {vB : Value} (h : RfAt w D A c T.L) (hk : TOk T) (hv : vB.oneCell' = true) (xs : List Int) (Al : Option Addr) (m cl : Nat) (hm : m = xs.length) (h1 : 0 < m) (h2 : m ≤ 1) (hx : ∀ v ∈ xs, 0 ≤ v ∧ v ≤ 9999) (hS : Sl w w.heap.size Al (iv xs)) :
    Calls Tryz.prog 115 #[.agg #[.int .i64 T.W, .int .i64 T.L.length, .slice A T.L.length c, .int .i64 T.row, .int .i64 T.col, .bool T.y.b, .bool T.y.u, .bool T.y.i, .int .i64 T.y.f, .int .i64 T.y.g, .bool T.pend, .bool T.seen, .bool T.mark, .int .i64 T.bells, .int .i64 T.scr, vB, .bool T.joins, .int .i64 T.lr, .int .i64 T.lc], .slice Al m cl, .int .u8 72] w fun e w' => ∃ V, e = .returned V ∧ RtV w' (fun b => D b ∨ w.heap.size ≤ b) V (moveT T (xs.getD 0 0 - 1) (xs.getD 1 0 - 1)) vB ∧ Below w.heap.size w w' := by
  have hrow := hk.row
  have hcol := hk.col
  have hw5 := hk.q.w5
  have hh5 := hk.q.h5
  have HK := Lib.hid hk
  obtain ⟨b, off, hA, hbb, hcx⟩ := hS.open_ (by rw [iv_length]; omega)
  subst hA
  obtain ⟨n0, hn0⟩ : ∃ n0, xs[0]? = some n0 := ⟨_, List.getElem?_eq_getElem (by omega)⟩
  have hn1 := hx n0 (List.mem_of_getElem? hn0)
  have hg0 : xs.getD 0 0 = n0 := by rw [List.getD_eq_getElem?_getD, hn0]; rfl
  have hc0 : w.cell? ⟨b, off, none⟩ = some (.int .i64 n0) := hcx 0 _ (by simp [iv, hn0])
  obtain ⟨q, hq⟩ : ∃ q, q = max n0 1 := ⟨_, rfl⟩
  have hmax : max 1 n0 = q := by omega
  have hq1 : 1 ≤ q := by omega
  have hq2 : q ≤ 9999 := by omega
  have HQ := Lib.hid hq
  have HC0 : Hid (∀ W, Below w.heap.size w W → W.cell? ⟨b, off, none⟩ = some (.int .i64 n0)) := Lib.hid (fun W hW => (hW.cell (p := ⟨b, off, none⟩) hbb).trans hc0)
  have hg1 : xs.getD 1 0 = 0 := by rw [List.getD_eq_getElem?_getD, List.getElem?_eq_none (by omega)]; rfl
  have hE : moveT T (xs.getD 0 0 - 1) (xs.getD 1 0 - 1) = moveT T (q - 1) 0 := by
    have e : wi (0 - 1 : Int) T.W = wi (0 : Int) T.W := by unfold wi; omega
    rw [hg0, hg1, hq]; unfold moveT; rw [wi_max n0 _ (by omega), e]
  rw [hE]
  have hmi : ¬ (1 : Int) < (m : Int) := by omega
  clear hq hcx hx hk hS hg0 hn0 hE hg1
  obtain ⟨W0, HW0, HS0⟩ := rt_start (vB := vB) h
  have HV := Lib.hid hv
  go_enter Tryz.func115, Tryz.ntmps115
  go_upto_region 1 with fail
  rw [← HW0.out]
  clear HW0
  have e0_n : W0.cell? ⟨b, off, none⟩ = some (.int .i64 n0) := HC0.out _ HS0.out.bel
  have e0_H : W0.cell? ⟨w.heap.size, 1, none⟩ = some (.int .i64 T.L.length) := HS0.out.x.cell 1
  have e0_row : W0.cell? ⟨w.heap.size, 3, none⟩ = some (.int .i64 T.row) := HS0.out.x.cell 3
  have e0_col : W0.cell? ⟨w.heap.size, 4, none⟩ = some (.int .i64 T.col) := HS0.out.x.cell 4
  clear h hv
  go_wp2_with (first
    | ((with_reducible refine at_dst 73 ?_); refine wpList_load_mid rfl _ _ rfl w.heap.size 0 rfl (rtC T A c vB) _ HS0.out.x.whole Tryz.underlying34 rfl rt_size ?_)
    | (go_at_call 141; refine (rmoved_any HS0.out.g HK.out HV.out (q - 1) ((0 : Int)) (by omega) (by omega) (by omega) (by omega)).mono ?_; rintro e w3 ⟨V, rfl, ⟨A3, c3, rfl, hr3⟩, hb3⟩; have HR3 := Lib.hid (HS0.out.rowsD hr3); have HS3 := Lib.hid (HS0.out.below hb3); clear hr3 hb3)
    | ((with_reducible refine at_store 6 ?_); refine wpList_store_blk rfl _ _ _ rfl rfl (w.heap.size + 1) 0 _ rtZ (rtC (moveT T (q - 1) ((0 : Int))) A3 c3 vB) rfl rfl HS3.out.z (by simp [rtC, rtZ]) rt_size (rtC_one _ _ _ HV.out) ?_; intro w9 hn9 hg9))
  exact bodyPost_ret (results_c rfl rfl hn9.whole Tryz.underlying34 rfl rt_size) rfl ⟨_, rfl, HS3.out.outV HR3.out hg9⟩
set_option maxRecDepth 100000 in
set_option maxHeartbeats 8000000 in
theorem rplain_H2 {w : World} {D : Nat → Prop} {A : Option Addr} {c : Nat} {T : TS} {vB : Value} (h : RfAt w D A c T.L) (hk : TOk T) (hv : vB.oneCell' = true) (xs : List Int) (Al : Option Addr) (m cl : Nat) (hm : m = xs.length) (h1 : 1 < m) (h2 : m ≤ 200) (hx : ∀ v ∈ xs, 0 ≤ v ∧ v ≤ 9999) (hS : Sl w w.heap.size Al (iv xs)) :
    Calls Tryz.prog 115 #[.agg #[.int .i64 T.W, .int .i64 T.L.length, .slice A T.L.length c, .int .i64 T.row, .int .i64 T.col, .bool T.y.b, .bool T.y.u, .bool T.y.i, .int .i64 T.y.f, .int .i64 T.y.g, .bool T.pend, .bool T.seen, .bool T.mark, .int .i64 T.bells, .int .i64 T.scr, vB, .bool T.joins, .int .i64 T.lr, .int .i64 T.lc], .slice Al m cl, .int .u8 72] w fun e w' => ∃ V, e = .returned V ∧ RtV w' (fun b => D b ∨ w.heap.size ≤ b) V (moveT T (xs.getD 0 0 - 1) (xs.getD 1 0 - 1)) vB ∧ Below w.heap.size w w' := by
  have hrow := hk.row
  have hcol := hk.col
  have hw5 := hk.q.w5
  have hh5 := hk.q.h5
  have HK := Lib.hid hk
  obtain ⟨b, off, hA, hbb, hcx⟩ := hS.open_ (by rw [iv_length]; omega)
  subst hA
  obtain ⟨n0, hn0⟩ : ∃ n0, xs[0]? = some n0 := ⟨_, List.getElem?_eq_getElem (by omega)⟩
  have hn1 := hx n0 (List.mem_of_getElem? hn0)
  have hg0 : xs.getD 0 0 = n0 := by rw [List.getD_eq_getElem?_getD, hn0]; rfl
  have hc0 : w.cell? ⟨b, off, none⟩ = some (.int .i64 n0) := hcx 0 _ (by simp [iv, hn0])
  obtain ⟨q, hq⟩ : ∃ q, q = max n0 1 := ⟨_, rfl⟩
  have hmax : max 1 n0 = q := by omega
  have hq1 : 1 ≤ q := by omega
  have hq2 : q ≤ 9999 := by omega
  have HQ := Lib.hid hq
  have HC0 : Hid (∀ W, Below w.heap.size w W → W.cell? ⟨b, off, none⟩ = some (.int .i64 n0)) := Lib.hid (fun W hW => (hW.cell (p := ⟨b, off, none⟩) hbb).trans hc0)
  obtain ⟨n1, hn11⟩ : ∃ n1, xs[1]? = some n1 := ⟨_, List.getElem?_eq_getElem (by omega)⟩
  have hn12 := hx n1 (List.mem_of_getElem? hn11)
  have hg1 : xs.getD 1 0 = n1 := by rw [List.getD_eq_getElem?_getD, hn11]; rfl
  have hc1 : w.cell? ⟨b, off + 1, none⟩ = some (.int .i64 n1) := hcx 1 _ (by simp [iv, hn11])
  have HC1 : Hid (∀ W, Below w.heap.size w W → W.cell? ⟨b, off + 1, none⟩ = some (.int .i64 n1)) := Lib.hid (fun W hW => (hW.cell (p := ⟨b, off + 1, none⟩) hbb).trans hc1)
  obtain ⟨q1, hqq⟩ : ∃ q, q = max n1 1 := ⟨_, rfl⟩
  have hmax1 : max 1 n1 = q1 := by omega
  have hq11 : 1 ≤ q1 := by omega
  have hq12 : q1 ≤ 9999 := by omega
  have hE : moveT T (xs.getD 0 0 - 1) (xs.getD 1 0 - 1) = moveT T (q - 1) (q1 - 1) := by
    rw [hg0, hg1, hq, hqq]; unfold moveT; rw [wi_max n0 _ (by omega), wi_max n1 _ (by omega)]
  rw [hE]
  have hmi : (1 : Int) < (m : Int) := by omega
  clear hq hcx hx hk hS hg0 hn0 hE hg1 hn11 hqq hc1
  obtain ⟨W0, HW0, HS0⟩ := rt_start (vB := vB) h
  have HV := Lib.hid hv
  go_enter Tryz.func115, Tryz.ntmps115
  go_upto_region 1 with fail
  rw [← HW0.out]
  clear HW0
  have e0_n : W0.cell? ⟨b, off, none⟩ = some (.int .i64 n0) := HC0.out _ HS0.out.bel
  have e0_H : W0.cell? ⟨w.heap.size, 1, none⟩ = some (.int .i64 T.L.length) := HS0.out.x.cell 1
  have e0_row : W0.cell? ⟨w.heap.size, 3, none⟩ = some (.int .i64 T.row) := HS0.out.x.cell 3
  have e0_col : W0.cell? ⟨w.heap.size, 4, none⟩ = some (.int .i64 T.col) := HS0.out.x.cell 4
  have e0_n1 : W0.cell? ⟨b, off + 1, none⟩ = some (.int .i64 n1) := HC1.out _ HS0.out.bel
  clear h hv
  go_wp2_with (first
    | ((with_reducible refine at_dst 73 ?_); refine wpList_load_mid rfl _ _ rfl w.heap.size 0 rfl (rtC T A c vB) _ HS0.out.x.whole Tryz.underlying34 rfl rt_size ?_)
    | (go_at_call 141; refine (rmoved_any HS0.out.g HK.out HV.out (q - 1) (q1 - 1) (by omega) (by omega) (by omega) (by omega)).mono ?_; rintro e w3 ⟨V, rfl, ⟨A3, c3, rfl, hr3⟩, hb3⟩; have HR3 := Lib.hid (HS0.out.rowsD hr3); have HS3 := Lib.hid (HS0.out.below hb3); clear hr3 hb3)
    | ((with_reducible refine at_store 6 ?_); refine wpList_store_blk rfl _ _ _ rfl rfl (w.heap.size + 1) 0 _ rtZ (rtC (moveT T (q - 1) (q1 - 1)) A3 c3 vB) rfl rfl HS3.out.z (by simp [rtC, rtZ]) rt_size (rtC_one _ _ _ HV.out) ?_; intro w9 hn9 hg9))
  exact bodyPost_ret (results_c rfl rfl hn9.whole Tryz.underlying34 rfl rt_size) rfl ⟨_, rfl, HS3.out.outV HR3.out hg9⟩
end Go.Proofs.YtfmkeeaenjeneaaGreatDoor
