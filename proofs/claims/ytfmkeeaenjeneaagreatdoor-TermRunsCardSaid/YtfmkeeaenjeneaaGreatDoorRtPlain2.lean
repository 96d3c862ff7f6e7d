/-
  Walks: the reference's plain, where places are blanked, styles turn, or nothing happens.
-/
import Derived.Test.YtfmkeeaenjeneaaGreatDoorRtPlain
import Derived.Test.YtfmkeeaenjeneaaGreatDoorRtSty
import Derived.Test.YtfmkeeaenjeneaaGreatDoorRegT
import Derived.Test.YtfmkeeaenjeneaaGreatDoorQuietL
namespace Go.Proofs.YtfmkeeaenjeneaaGreatDoor
open Go.RowKit Go.Sort
set_option linter.unusedVariables false
set_option linter.unusedSimpArgs false

set_option maxRecDepth 100000 in
set_option maxHeartbeats 8000000 in
theorem rplain_J {w : World} {D : Nat → Prop} {A : Option Addr} {c : Nat} {T : TS} {vB : Value} (h : RfAt w D A c T.L) (hk : TOk T) (hv : vB.oneCell' = true) (xs : List Int) (Al : Option Addr) (m cl : Nat) (hm : m = xs.length) (h1 : 0 < m) (h2 : m ≤ 200) (hx : ∀ v ∈ xs, 0 ≤ v ∧ v ≤ 9999) (hS : Sl w w.heap.size Al (iv xs)) :
    Calls Tryz.prog 115 #[.agg #[.int .i64 T.W, .int .i64 T.L.length, .slice A T.L.length c, .int .i64 T.row, .int .i64 T.col, .bool T.y.b, .bool T.y.u, .bool T.y.i, .int .i64 T.y.f, .int .i64 T.y.g, .bool T.pend, .bool T.seen, .bool T.mark, .int .i64 T.bells, .int .i64 T.scr, vB, .bool T.joins, .int .i64 T.lr, .int .i64 T.lc], .slice Al m cl, .int .u8 74] w fun e w' => ∃ V, e = .returned V ∧ RtV w' (fun b => D b ∨ w.heap.size ≤ b) V (eraseT T (xs.getD 0 0) 0 (T.L.length - 1)) vB ∧ Below w.heap.size w w' := by
  have hrow := hk.row
  have hcol := hk.col
  have hw5 := hk.q.w5
  have hh5 := hk.q.h5
  have HK := Lib.hid hk
  obtain ⟨b, off, hA, hbb, hcx⟩ := hS.open_ (by rw [iv_length]; omega)
  subst hA
  obtain ⟨n0, hn0⟩ : ∃ n0, xs[0]? = some n0 := ⟨_, List.getElem?_eq_getElem (by omega)⟩
  have hn1 := hx n0 (List.mem_of_getElem? hn0)
  have hg0 : xs.getD 0 0 = n0 := by rw [List.getD_eq_getElem?_getD, hn0]; rfl
  have hc0 : w.cell? ⟨b, off, none⟩ = some (.int .i64 n0) := hcx 0 _ (by simp [iv, hn0])
  obtain ⟨q, hq⟩ : ∃ q, q = max n0 1 := ⟨_, rfl⟩
  have hmax : max 1 n0 = q := by omega
  have hq1 : 1 ≤ q := by omega
  have hq2 : q ≤ 9999 := by omega
  have HQ := Lib.hid hq
  have HC0 : Hid (∀ W, Below w.heap.size w W → W.cell? ⟨b, off, none⟩ = some (.int .i64 n0)) := Lib.hid (fun W hW => (hW.cell (p := ⟨b, off, none⟩) hbb).trans hc0)
  rw [hg0]
  clear hq hcx hx hk hS hg0 hn0
  obtain ⟨W0, HW0, HS0⟩ := rt_start (vB := vB) h
  have HV := Lib.hid hv
  go_enter Tryz.func115, Tryz.ntmps115
  go_upto_region 1 with fail
  rw [← HW0.out]
  clear HW0
  have e0_n : W0.cell? ⟨b, off, none⟩ = some (.int .i64 n0) := HC0.out _ HS0.out.bel
  clear h hv
  go_upto_region 20 with (fail)
  have CN := cell_regrown e0_n
  clear e0_n
  refine wp_region_below_tail 4 (by kernel_rfl) (by kernel_rfl) ?_
  simp only [List.take_succ_cons, List.take_zero, List.drop_succ_cons, List.drop_zero]
  refine quiet_load_mid rfl _ _ rfl w.heap.size 0 rfl (rtC T A c vB) _ (fun w' hw' => ?_) Tryz.underlying34 rfl rt_size ?_
  · obtain ⟨p, rfl⟩ := hw'
    exact (HS0.out.below (below_regrown W0 p.d p.os)).x.whole
  repeat (first
    | go_big_quiet_step (fail)
    | quiet_step (fail))
  refine wpQuiet_nil ?_
  intro _ hw'
  obtain ⟨⟨dq, osq⟩, hw''⟩ := hw'
  subst hw''
  have HS1 := Lib.hid (HS0.out.below (below_regrown W0 dq osq))
  clear CN
  generalize grow (redrawn W0 dq) osq = w1 at HS1 ⊢
  go_wp2_with (first
    | (go_at_call 142; refine (rerased_any HS1.out.g HK.out HV.out n0 false).mono ?_; rintro e w3 ⟨V, rfl, ⟨A3, c3, rfl, hr3⟩, hb3⟩; have HR3 := Lib.hid (HS1.out.rowsD hr3); have HS3 := Lib.hid (HS1.out.below hb3); clear hr3 hb3)
    | ((with_reducible refine at_store 6 ?_); refine wpList_store_blk rfl _ _ _ rfl rfl (w.heap.size + 1) 0 _ rtZ (rtC (eraseT T n0 0 (T.L.length - 1)) A3 c3 vB) rfl rfl HS3.out.z (by simp [rtC, rtZ]) rt_size (rtC_one _ _ _ HV.out) ?_; intro w9 hn9 hg9))
  exact bodyPost_ret (results_c rfl rfl hn9.whole Tryz.underlying34 rfl rt_size) rfl ⟨_, rfl, HS3.out.outV HR3.out hg9⟩
set_option maxRecDepth 100000 in
set_option maxHeartbeats 8000000 in
theorem rplain_K {w : World} {D : Nat → Prop} {A : Option Addr} {c : Nat} {T : TS} {vB : Value} (h : RfAt w D A c T.L) (hk : TOk T) (hv : vB.oneCell' = true) (xs : List Int) (Al : Option Addr) (m cl : Nat) (hm : m = xs.length) (h1 : 0 < m) (h2 : m ≤ 200) (hx : ∀ v ∈ xs, 0 ≤ v ∧ v ≤ 9999) (hS : Sl w w.heap.size Al (iv xs)) :
    Calls Tryz.prog 115 #[.agg #[.int .i64 T.W, .int .i64 T.L.length, .slice A T.L.length c, .int .i64 T.row, .int .i64 T.col, .bool T.y.b, .bool T.y.u, .bool T.y.i, .int .i64 T.y.f, .int .i64 T.y.g, .bool T.pend, .bool T.seen, .bool T.mark, .int .i64 T.bells, .int .i64 T.scr, vB, .bool T.joins, .int .i64 T.lr, .int .i64 T.lc], .slice Al m cl, .int .u8 75] w fun e w' => ∃ V, e = .returned V ∧ RtV w' (fun b => D b ∨ w.heap.size ≤ b) V (eraseT T (xs.getD 0 0) T.row T.row) vB ∧ Below w.heap.size w w' := by
  have hrow := hk.row
  have hcol := hk.col
  have hw5 := hk.q.w5
  have hh5 := hk.q.h5
  have HK := Lib.hid hk
  obtain ⟨b, off, hA, hbb, hcx⟩ := hS.open_ (by rw [iv_length]; omega)
  subst hA
  obtain ⟨n0, hn0⟩ : ∃ n0, xs[0]? = some n0 := ⟨_, List.getElem?_eq_getElem (by omega)⟩
  have hn1 := hx n0 (List.mem_of_getElem? hn0)
  have hg0 : xs.getD 0 0 = n0 := by rw [List.getD_eq_getElem?_getD, hn0]; rfl
  have hc0 : w.cell? ⟨b, off, none⟩ = some (.int .i64 n0) := hcx 0 _ (by simp [iv, hn0])
  obtain ⟨q, hq⟩ : ∃ q, q = max n0 1 := ⟨_, rfl⟩
  have hmax : max 1 n0 = q := by omega
  have hq1 : 1 ≤ q := by omega
  have hq2 : q ≤ 9999 := by omega
  have HQ := Lib.hid hq
  have HC0 : Hid (∀ W, Below w.heap.size w W → W.cell? ⟨b, off, none⟩ = some (.int .i64 n0)) := Lib.hid (fun W hW => (hW.cell (p := ⟨b, off, none⟩) hbb).trans hc0)
  rw [hg0]
  clear hq hcx hx hk hS hg0 hn0
  obtain ⟨W0, HW0, HS0⟩ := rt_start (vB := vB) h
  have HV := Lib.hid hv
  go_enter Tryz.func115, Tryz.ntmps115
  go_upto_region 1 with fail
  rw [← HW0.out]
  clear HW0
  have e0_n : W0.cell? ⟨b, off, none⟩ = some (.int .i64 n0) := HC0.out _ HS0.out.bel
  clear h hv
  go_upto_region 22 with (fail)
  have CN := cell_regrown e0_n
  clear e0_n
  refine wp_region_below_tail 4 (by kernel_rfl) (by kernel_rfl) ?_
  simp only [List.take_succ_cons, List.take_zero, List.drop_succ_cons, List.drop_zero]
  refine quiet_load_mid rfl _ _ rfl w.heap.size 0 rfl (rtC T A c vB) _ (fun w' hw' => ?_) Tryz.underlying34 rfl rt_size ?_
  · obtain ⟨p, rfl⟩ := hw'
    exact (HS0.out.below (below_regrown W0 p.d p.os)).x.whole
  repeat (first
    | go_big_quiet_step (fail)
    | quiet_step (fail))
  refine wpQuiet_nil ?_
  intro _ hw'
  obtain ⟨⟨dq, osq⟩, hw''⟩ := hw'
  subst hw''
  have HS1 := Lib.hid (HS0.out.below (below_regrown W0 dq osq))
  clear CN
  generalize grow (redrawn W0 dq) osq = w1 at HS1 ⊢
  go_wp2_with (first
    | (go_at_call 142; refine (rerased_any HS1.out.g HK.out HV.out n0 true).mono ?_; rintro e w3 ⟨V, rfl, ⟨A3, c3, rfl, hr3⟩, hb3⟩; have HR3 := Lib.hid (HS1.out.rowsD hr3); have HS3 := Lib.hid (HS1.out.below hb3); clear hr3 hb3)
    | ((with_reducible refine at_store 6 ?_); refine wpList_store_blk rfl _ _ _ rfl rfl (w.heap.size + 1) 0 _ rtZ (rtC (eraseT T n0 T.row T.row) A3 c3 vB) rfl rfl HS3.out.z (by simp [rtC, rtZ]) rt_size (rtC_one _ _ _ HV.out) ?_; intro w9 hn9 hg9))
  exact bodyPost_ret (results_c rfl rfl hn9.whole Tryz.underlying34 rfl rt_size) rfl ⟨_, rfl, HS3.out.outV HR3.out hg9⟩
set_option maxRecDepth 100000 in
set_option maxHeartbeats 8000000 in
theorem rplain_none {w : World} {D : Nat → Prop} {A : Option Addr} {c : Nat} {T : TS} {vB : Value} (h : RfAt w D A c T.L) (hk : TOk T) (hv : vB.oneCell' = true) (xs : List Int) (Al : Option Addr) (m cl : Nat) (hm : m = xs.length) (h1 : 0 < m) (h2 : m ≤ 200) (hx : ∀ v ∈ xs, 0 ≤ v ∧ v ≤ 9999) (hS : Sl w w.heap.size Al (iv xs)) (f : UInt8) (hf : f ≠ 65 ∧ f ≠ 66 ∧ f ≠ 67 ∧ f ≠ 68 ∧ f ≠ 71 ∧ f ≠ 72 ∧ f ≠ 74 ∧ f ≠ 75 ∧ f ≠ 109) :
    Calls Tryz.prog 115 #[.agg #[.int .i64 T.W, .int .i64 T.L.length, .slice A T.L.length c, .int .i64 T.row, .int .i64 T.col, .bool T.y.b, .bool T.y.u, .bool T.y.i, .int .i64 T.y.f, .int .i64 T.y.g, .bool T.pend, .bool T.seen, .bool T.mark, .int .i64 T.bells, .int .i64 T.scr, vB, .bool T.joins, .int .i64 T.lr, .int .i64 T.lc], .slice Al m cl, .int .u8 f.toNat] w fun e w' => ∃ V, e = .returned V ∧ RtV w' (fun b => D b ∨ w.heap.size ≤ b) V (T) vB ∧ Below w.heap.size w w' := by
  have hrow := hk.row
  have hcol := hk.col
  have hw5 := hk.q.w5
  have hh5 := hk.q.h5
  have HK := Lib.hid hk
  obtain ⟨b, off, hA, hbb, hcx⟩ := hS.open_ (by rw [iv_length]; omega)
  subst hA
  obtain ⟨n0, hn0⟩ : ∃ n0, xs[0]? = some n0 := ⟨_, List.getElem?_eq_getElem (by omega)⟩
  have hn1 := hx n0 (List.mem_of_getElem? hn0)
  have hg0 : xs.getD 0 0 = n0 := by rw [List.getD_eq_getElem?_getD, hn0]; rfl
  have hc0 : w.cell? ⟨b, off, none⟩ = some (.int .i64 n0) := hcx 0 _ (by simp [iv, hn0])
  obtain ⟨q, hq⟩ : ∃ q, q = max n0 1 := ⟨_, rfl⟩
  have hmax : max 1 n0 = q := by omega
  have hq1 : 1 ≤ q := by omega
  have hq2 : q ≤ 9999 := by omega
  have HQ := Lib.hid hq
  have HC0 : Hid (∀ W, Below w.heap.size w W → W.cell? ⟨b, off, none⟩ = some (.int .i64 n0)) := Lib.hid (fun W hW => (hW.cell (p := ⟨b, off, none⟩) hbb).trans hc0)
  have f65 : ((f.toNat : Int) == 65) = false := by have : (f.toNat : Int) ≠ 65 := (fun e => by have e2 : f = 65 := (by apply UInt8.toNat_inj.1; show f.toNat = 65; omega); subst e2; simp at hf); simpa using this
  have f66 : ((f.toNat : Int) == 66) = false := by have : (f.toNat : Int) ≠ 66 := (fun e => by have e2 : f = 66 := (by apply UInt8.toNat_inj.1; show f.toNat = 66; omega); subst e2; simp at hf); simpa using this
  have f67 : ((f.toNat : Int) == 67) = false := by have : (f.toNat : Int) ≠ 67 := (fun e => by have e2 : f = 67 := (by apply UInt8.toNat_inj.1; show f.toNat = 67; omega); subst e2; simp at hf); simpa using this
  have f68 : ((f.toNat : Int) == 68) = false := by have : (f.toNat : Int) ≠ 68 := (fun e => by have e2 : f = 68 := (by apply UInt8.toNat_inj.1; show f.toNat = 68; omega); subst e2; simp at hf); simpa using this
  have f71 : ((f.toNat : Int) == 71) = false := by have : (f.toNat : Int) ≠ 71 := (fun e => by have e2 : f = 71 := (by apply UInt8.toNat_inj.1; show f.toNat = 71; omega); subst e2; simp at hf); simpa using this
  have f72 : ((f.toNat : Int) == 72) = false := by have : (f.toNat : Int) ≠ 72 := (fun e => by have e2 : f = 72 := (by apply UInt8.toNat_inj.1; show f.toNat = 72; omega); subst e2; simp at hf); simpa using this
  have f74 : ((f.toNat : Int) == 74) = false := by have : (f.toNat : Int) ≠ 74 := (fun e => by have e2 : f = 74 := (by apply UInt8.toNat_inj.1; show f.toNat = 74; omega); subst e2; simp at hf); simpa using this
  have f75 : ((f.toNat : Int) == 75) = false := by have : (f.toNat : Int) ≠ 75 := (fun e => by have e2 : f = 75 := (by apply UInt8.toNat_inj.1; show f.toNat = 75; omega); subst e2; simp at hf); simpa using this
  have f109 : ((f.toNat : Int) == 109) = false := by have : (f.toNat : Int) ≠ 109 := (fun e => by have e2 : f = 109 := (by apply UInt8.toNat_inj.1; show f.toNat = 109; omega); subst e2; simp at hf); simpa using this
  clear hq hcx hx hk hS hg0 hn0 hf
  obtain ⟨W0, HW0, HS0⟩ := rt_start (vB := vB) h
  have HV := Lib.hid hv
  go_enter Tryz.func115, Tryz.ntmps115
  go_upto_region 1 with fail
  rw [← HW0.out]
  clear HW0
  have e0_n : W0.cell? ⟨b, off, none⟩ = some (.int .i64 n0) := HC0.out _ HS0.out.bel
  clear h hv
  go_wp2_with (first
    | ((with_reducible refine at_dst 15 ?_); refine wpList_load_mid rfl _ _ rfl w.heap.size 0 rfl (rtC T A c vB) _ HS0.out.x.whole Tryz.underlying34 rfl rt_size ?_)
    | ((with_reducible refine at_store 6 ?_); refine wpList_store_blk rfl _ _ _ rfl rfl (w.heap.size + 1) 0 _ rtZ (rtC T A c vB) rfl rfl HS0.out.z (by simp [rtC, rtZ]) rt_size (rtC_one _ _ _ HV.out) ?_; intro w9 hn9 hg9))
  exact bodyPost_ret (results_c rfl rfl hn9.whole Tryz.underlying34 rfl rt_size) rfl ⟨_, rfl, HS0.out.fin hg9⟩
set_option maxRecDepth 100000 in
set_option maxHeartbeats 8000000 in
theorem rplain_m {w : World} {D : Nat → Prop} {A : Option Addr} {c : Nat} {T : TS} {vB : Value} (h : RfAt w D A c T.L) (hk : TOk T) (hv : vB.oneCell' = true) (xs : List Int) (Al : Option Addr) (m cl : Nat) (hm : m = xs.length) (h1 : 0 < m) (h2 : m ≤ 200) (hx : ∀ v ∈ xs, 0 ≤ v ∧ v ≤ 9999) (hS : Sl w w.heap.size Al (iv xs)) :
    Calls Tryz.prog 115 #[.agg #[.int .i64 T.W, .int .i64 T.L.length, .slice A T.L.length c, .int .i64 T.row, .int .i64 T.col, .bool T.y.b, .bool T.y.u, .bool T.y.i, .int .i64 T.y.f, .int .i64 T.y.g, .bool T.pend, .bool T.seen, .bool T.mark, .int .i64 T.bells, .int .i64 T.scr, vB, .bool T.joins, .int .i64 T.lr, .int .i64 T.lc], .slice Al m cl, .int .u8 109] w fun e w' => ∃ V, e = .returned V ∧ RtV w' (fun b => D b ∨ w.heap.size ≤ b) V ({ T with y := xs.foldl styT T.y }) vB ∧ Below w.heap.size w w' := by
  have hrow := hk.row
  have hcol := hk.col
  have hw5 := hk.q.w5
  have hh5 := hk.q.h5
  have HK := Lib.hid hk
  have HXS := Lib.hid hx
  have HMX := Lib.hid hm
  obtain ⟨b, off, hA, hbb, hcx⟩ := hS.open_ (by rw [iv_length]; omega)
  subst hA
  obtain ⟨n0, hn0⟩ : ∃ n0, xs[0]? = some n0 := ⟨_, List.getElem?_eq_getElem (by omega)⟩
  have hn1 := hx n0 (List.mem_of_getElem? hn0)
  have hg0 : xs.getD 0 0 = n0 := by rw [List.getD_eq_getElem?_getD, hn0]; rfl
  have hc0 : w.cell? ⟨b, off, none⟩ = some (.int .i64 n0) := hcx 0 _ (by simp [iv, hn0])
  obtain ⟨q, hq⟩ : ∃ q, q = max n0 1 := ⟨_, rfl⟩
  have hmax : max 1 n0 = q := by omega
  have hq1 : 1 ≤ q := by omega
  have hq2 : q ≤ 9999 := by omega
  have HQ := Lib.hid hq
  have HC0 : Hid (∀ W, Below w.heap.size w W → W.cell? ⟨b, off, none⟩ = some (.int .i64 n0)) := Lib.hid (fun W hW => (hW.cell (p := ⟨b, off, none⟩) hbb).trans hc0)
  have HCX := Lib.hid hcx
  clear hq hcx hx hk hS hg0 hn0 hm
  obtain ⟨W0, HW0, HS0⟩ := rt_start (vB := vB) h
  have HV := Lib.hid hv
  go_enter Tryz.func115, Tryz.ntmps115
  go_upto_region 1 with fail
  rw [← HW0.out]
  clear HW0
  have e0_n : W0.cell? ⟨b, off, none⟩ = some (.int .i64 n0) := HC0.out _ HS0.out.bel
  clear h hv
  go_wp2_with (fail)
  clear e0_n
  go_loopw [9] (fun v9 wr => ∃ k : Nat, v9 = .int .i64 k ∧ k ≤ m ∧ RtS w wr D { T with y := (xs.take k).foldl styT T.y } A c vB) (fun v9 _ => m - (intOf v9).toNat)
  case atStart => exact ⟨0, rfl, by omega, HS0.out⟩
  case round =>
    obtain ⟨k, rfl, hk, hs⟩ := hrel
    have HSK := Lib.hid hs
    clear hs
    by_cases hlt : k < m
    · have hki : (k : Int) < m := by omega
      have hkl : k < xs.length := by have := HMX.out; omega
      have hxk : xs[k]? = some xs[k] := List.getElem?_eq_getElem hkl
      have hxr := HXS.out _ (List.getElem_mem hkl)
      have htk : xs.take (k + 1) = xs.take k ++ [xs[k]] := List.take_succ_eq_append_getElem hkl
      generalize xs[k] = v at hxk hxr htk
      have hck : w.cell? ⟨b, off + k, none⟩ = some (.int .i64 v) := HCX.out k _ (by simp [iv, hxk])
      have hcr : wr.cell? ⟨b, off + k, none⟩ = some (.int .i64 v) := (HSK.out.bel.cell (p := ⟨b, off + k, none⟩) hbb).trans hck
      obtain ⟨y, hy⟩ : ∃ y, y = (xs.take k).foldl styT T.y := ⟨_, rfl⟩
      have hyn : (xs.take (k + 1)).foldl styT T.y = styT y v := by rw [htk, List.foldl_append, ← hy]; rfl
      have HYN := Lib.hid hyn
      rw [← hy] at HSK
      have HQS := Lib.hid (fun dd os => Calls.regrown_of (rtstyle_any y v hxr.1 hxr.2 (grow (redrawn wr dd) os)))
      have C3 := cell_regrown (show wr.cell? ⟨w.heap.size, 5, none⟩ = some (.bool y.b) from HSK.out.x.cell 5)
      have C4 := cell_regrown (show wr.cell? ⟨w.heap.size, 6, none⟩ = some (.bool y.u) from HSK.out.x.cell 6)
      have C5 := cell_regrown (show wr.cell? ⟨w.heap.size, 7, none⟩ = some (.bool y.i) from HSK.out.x.cell 7)
      have C6 := cell_regrown (show wr.cell? ⟨w.heap.size, 8, none⟩ = some (.int .i64 y.f) from HSK.out.x.cell 8)
      have C7 := cell_regrown (show wr.cell? ⟨w.heap.size, 9, none⟩ = some (.int .i64 y.g) from HSK.out.x.cell 9)
      have CN := cell_regrown hcr
      clear hxk htk hck hcr hy hyn hkl
      go_upto_region 27 with (fail)
      refine wp_region_below_tail 8 (by kernel_rfl) (by kernel_rfl) ?_
      simp only [List.take_succ_cons, List.take_zero, List.drop_succ_cons, List.drop_zero]
      repeat (first
        | go_big_quiet_step (with_reducible exact HQS.out _ _)
        | quiet_step (with_reducible exact HQS.out _ _))
      refine wpQuiet_nil ?_
      intro _ hw'
      obtain ⟨⟨dq, osq⟩, hw''⟩ := hw'
      subst hw''
      have HS1 := Lib.hid (HSK.out.below (below_regrown wr dq osq))
      clear C3 C4 C5 C6 C7 CN HQS
      generalize grow (redrawn wr dq) osq = w1 at HS1 ⊢
      go_wp2_with ((with_reducible refine at_store 108 ?_); refine wpList_store_blk rfl _ _ _ rfl rfl w.heap.size 5 _ (rtC { T with y := y } A c vB) (styT y v).cells rfl rfl HS1.out.x (by simp [rtC, Sty.cells]) tsty_size (tsty_one _) ?_; intro w2 hn hg; have HS2 : Hid (RtS w w2 D { T with y := styT y v } A c vB) := Lib.hid (HS1.out.set (T' := { T with y := styT y v }) hg hn rfl); clear hn hg)
      go_roundw
      case rel => exact ⟨k + 1, by go_num, by omega, by rw [HYN.out]; exact HS2.out⟩
      case measure => simp [intOf]; omega
    · have hki : ¬ (k : Int) < m := by omega
      obtain rfl : k = m := by omega
      have hsf : RtS w wr D { T with y := xs.foldl styT T.y } A c vB := by have := HSK.out; rw [List.take_of_length_le (by have := HMX.out; omega)] at this; exact this
      have HS9 := Lib.hid hsf
      clear hsf
      go_wp2_with (first
        | ((with_reducible refine at_dst 109 ?_); refine wpList_load_mid rfl _ _ rfl w.heap.size 0 rfl (rtC { T with y := xs.foldl styT T.y } A c vB) _ HS9.out.x.whole Tryz.underlying34 rfl rt_size ?_)
        | ((with_reducible refine at_store 6 ?_); refine wpList_store_blk rfl _ _ _ rfl rfl (w.heap.size + 1) 0 _ rtZ (rtC { T with y := xs.foldl styT T.y } A c vB) rfl rfl HS9.out.z (by simp [rtC, rtZ]) rt_size (rtC_one _ _ _ HV.out) ?_; intro w9 hn9 hg9))
      exact bodyPost_ret (results_c rfl rfl hn9.whole Tryz.underlying34 rfl rt_size) rfl ⟨_, rfl, HS9.out.fin hg9⟩
end Go.Proofs.YtfmkeeaenjeneaaGreatDoor
