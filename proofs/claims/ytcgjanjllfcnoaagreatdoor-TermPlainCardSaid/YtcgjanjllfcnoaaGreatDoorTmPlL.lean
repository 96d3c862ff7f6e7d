/-
  The law TermPlain, walked.
-/
import Derived.Test.YtcgjanjllfcnoaaGreatDoorTmPlM
import Derived.Test.YtcgjanjllfcnoaaGreatDoorTmAwak2
import Derived.Test.YtcgjanjllfcnoaaGreatDoorTmAcc
import Derived.Test.YtcgjanjllfcnoaaGreatDoorTmNew
import Derived.Test.YtcgjanjllfcnoaaGreatDoorGfS
import Derived.Test.YtcgjanjllfcnoaaGreatDoorGfR
import Derived.Test.YtcgjanjllfcnoaaGreatDoorQuietB
import Derived.Deep.RegionHeld3
import Derived.Deep.DeepCutAuto
import Derived.BigRegion
import Derived.Outline
namespace Go.Proofs.YtcgjanjllfcnoaaGreatDoor
open Go.RowKit
set_option linter.unusedVariables false
set_option linter.unusedSimpArgs false

theorem pl_take (s : ByteArray) (k : Nat) (hk : k ≤ s.size) : s.extract 0 k = ⟨(s.data.toList.take k).toArray⟩ := by
  apply ByteArray.ext
  apply Array.ext'
  simp
/-- bytes that were just made of a string, and a slice of them -/
theorem parts_one {S : Nat → Prop} (w : World) (t : List UInt8) (cp : Nat) (fr : Nat × Nat) (ht : t.length ≤ 100000) (hS : ∀ k, S k → k < w.heap.size) :
    PartsAt ((w.alloc (.cells (bytesRow ⟨t.toArray⟩ cp) 5 fr)).alloc (.cells #[.slice (some ⟨w.heap.size, 0, none⟩) t.length cp] 32)) S (w.heap.size + 1) [(some ⟨w.heap.size, 0, none⟩, t, cp)] := by
  have h1 := sl_bytesRow w ⟨t.toArray⟩ cp 5 fr
  rw [show (⟨t.toArray⟩ : ByteArray).data.toList = t from rfl] at h1
  have h2 : Blk ((w.alloc (.cells (bytesRow ⟨t.toArray⟩ cp) 5 fr)).alloc (.cells #[.slice (some ⟨w.heap.size, 0, none⟩) t.length cp] 32)) (w.heap.size + 1) 32 [.slice (some ⟨w.heap.size, 0, none⟩) t.length cp] := by
    have := Blk.new (w.alloc (.cells (bytesRow ⟨t.toArray⟩ cp) 5 fr)) 32 [.slice (some ⟨w.heap.size, 0, none⟩) t.length cp]
    simpa using this
  have hb : Below (w.alloc (.cells (bytesRow ⟨t.toArray⟩ cp) 5 fr)).heap.size (w.alloc (.cells (bytesRow ⟨t.toArray⟩ cp) 5 fr)) ((w.alloc (.cells (bytesRow ⟨t.toArray⟩ cp) 5 fr)).alloc (.cells #[.slice (some ⟨w.heap.size, 0, none⟩) t.length cp] 32)) := (Below.refl _ _).alloc (Nat.le_refl _) _
  refine ⟨h2.lt, fun h => ?_, fun j v hv => ?_, fun v hv => ?_, fun v hv => ?_⟩
  · have := hS _ h; omega
  · match j, hv with
    | 0, hv => simp at hv; subst hv; exact h2.cell 0
    | j + 1, hv => simp at hv
  · simp at hv
    subst hv
    by_cases h0 : t = []
    · exact .inl h0
    · right
      obtain ⟨b, o, e, hbl, hc⟩ := h1.open_ (by cases t; exact absurd rfl h0; simp [bv])
      injection e with e
      injection e with e1 e2 e3
      subst e1
      subst e2
      refine ⟨_, 0, rfl, by simp; omega, fun h => by have := hS _ h; omega, fun i hi => ?_⟩
      exact (hb.cell (p := ⟨w.heap.size, 0 + i, none⟩) (by simp)).trans (hc i _ (bv_get hi))
  · simp at hv
    subst hv
    exact ht

set_option maxRecDepth 100000 in
set_option maxHeartbeats 8000000 in
theorem termPlain_walk (a : Int) (ha0 : 0 ≤ a) (ha1 : a ≤ 255) (s : ByteArray) (hs : s.size ≤ maxLen) (w : World) (hT : BlankT w) (hTab : Tabs w) :
    Calls Tryz.prog 5 #[.int .u8 a, .string s] w fun e w' => e = .returned (.bool true) ∧ Below w.heap.size w w' := by
  obtain ⟨x, hx⟩ : ∃ x : Nat, (x : Int) = 1 + a % 60 := ⟨(1 + a % 60).toNat, by omega⟩
  have hx1 : 1 ≤ x ∧ x ≤ 60 := by omega
  have HX := Lib.hid hx
  have HT := Lib.hid hT
  have HTB := Lib.hid hTab
  unfold maxLen at hs
  clear hx hT hTab
  go_enter Tryz.func5, Tryz.ntmps5
  go_wp2_with (fail)
  rw [← HX.out]
  obtain ⟨l, hl, hl300⟩ : ∃ l : List UInt8, s.extract 0 (min (s.size : Int) 300).toNat = ⟨l.toArray⟩ ∧ l.length ≤ 300 :=
    ⟨_, pl_take s _ (by omega), by rw [List.length_take]; omega⟩
  rw [hl]
  obtain ⟨t, n, ds, hR, hP⟩ := pl_of (x := x) l (by omega)
  have hft := rfit_any3 ⟨l.toArray⟩ (by show l.toArray.size ≤ _; simp; omega) (x : Int) (by omega) (by omega) w
  rw [show (⟨l.toArray⟩ : ByteArray).data.toList = l from rfl, hR] at hft
  refine hft.mono ?_
  rintro e w1 ⟨rfl, hb1⟩
  have HP := Lib.hid hP
  have HB1 := Lib.hid hb1
  have hnx := hP.le
  have ht64 := hP.t64
  have hdn := hP.num
  clear hft hR hP hl hb1 hl300
  go_wp2_with (fail)
  refine (tnew_ok x 2 hx1.1 (by omega) (by omega) (by omega) w1 (HT.out.bel HB1.out)).mono ?_
  rintro e w2 ⟨tm, g, rb, bs, rfl, ht, hb2⟩
  obtain ⟨cp, fr, hcv, hge, hmx⟩ := run_bytes_str w2 ⟨t.toArray⟩
  have hsz : (⟨t.toArray⟩ : ByteArray).size = t.length := by show t.toArray.size = _; simp
  rw [hsz] at hcv
  have HTM := Lib.hid ht
  have HB2 := Lib.hid hb2
  have HBS := Lib.hid ((base_of (HT.out.bel HB1.out) (HTB.out.below HB1.out)).below hb2)
  have HWR : Hid (∀ W, W = ((w2.drew.alloc (.cells (bytesRow ⟨t.toArray⟩ cp) 5 fr)).alloc (.cells #[.slice (some ⟨w2.heap.size, 0, none⟩) t.length cp] 32)) → Calls Tryz.prog 9 #[.pointer (some ⟨tm, 0, none⟩), .slice (some ⟨w2.heap.size + 1, 0, none⟩) 1 1] W fun e w' => e = .returned (.tuple #[]) ∧ ∃ lc j, TmStep w2 w1.heap.size tm g rb bs (plT (plCells ds) (x - n) lc j) [] w') := Lib.hid (fun W hW => by
    have hbW : Below w2.heap.size w2 W := by rw [hW]; exact ((Below.refl _ w2).drew.alloc (Nat.le_refl _) _).alloc (by simp) _
    have hp := parts_one (S := TmOwn tm g rb bs) w2.drew t cp fr (by omega) (fun k hk => HTM.out.own_lt k hk)
    have h3 := write_any (HTM.out.below hbW) (HBS.out.below hbW) (by simp) (w2.heap.size + 1) [(some ⟨w2.heap.size, 0, none⟩, t, cp)] (by simp) (by rw [hW]; exact hp)
    obtain ⟨lc, j, hsh⟩ := HP.out.shown
    have e : wrA (tmNew x 2, []) [(some ⟨w2.heap.size, 0, none⟩, t, cp)] = (plT (plCells ds) (x - n) lc j, []) := by
      show wrT (tmNew x 2, []) t = _
      rw [wrT_eq (tmNew x 2) [] rfl t.length t rfl, List.nil_append, hsh]
    rw [e, List.length_cons, List.length_nil] at h3
    exact h3.mono fun e w' ⟨he, hs⟩ => ⟨he, lc, j, TmStep.bel_then hbW hs⟩)
  clear ht hb2 hge hmx hsz
  go_wp2_with (fail)
  refine (HWR.out _ (by rfl)).mono ?_
  rintro e w3 ⟨rfl, lc, j, hs3⟩
  have hb3 := TmStep.toBelow HTM.out HB2.out hs3
  obtain ⟨bs3, ht3, _, _⟩ := hs3
  have HB3 := Lib.hid (HB1.out.trans (hb3.mono HB1.out.size))
  have HT3 := Lib.hid ht3
  clear hb3 ht3 HWR HBS HTM HB2 hcv
  go_wp2_with (fail)
  have hct := rcut_any ⟨t.toArray⟩ (by show t.toArray.size ≤ _; simp; omega) w3
  rw [show (⟨t.toArray⟩ : ByteArray).data.toList = t from rfl, HP.out.cut] at hct
  refine hct.mono ?_
  rintro e w4 ⟨A, c, rfl, hor, hb4⟩
  have HOR := Lib.hid hor.sl
  have HB4 := Lib.hid hb4
  clear hor hb4 hct
  go_wp2_with (fail)
  go_loopw [11, 12] (fun v11 v12 wr => ∃ k : Nat, v12 = .int .i64 k ∧ k ≤ ds.length ∧ v11 = .int .i64 (sumC (ds.take k)) ∧ Below w4.heap.size w4 wr) (fun _ v12 _ => ds.length - (intOf v12).toNat)
  case atStart => exact ⟨0, rfl, by omega, by simp [sumC], Below.refl _ _⟩
  case round =>
    obtain ⟨k, rfl, hk, rfl, hbr⟩ := hrel
    by_cases hlt : k < ds.length
    · have hki : (k : Int) < ds.length := by omega
      have hc : ds[k]? = some ds[k] := List.getElem?_eq_getElem hlt
      have htk : sumC (ds.take (k + 1)) = sumC (ds.take k) + wc ds[k] := by rw [List.take_succ_eq_append_getElem hlt, sumC_snoc]
      have hall : sumC ds = sumC (ds.take (k + 1)) + sumC (ds.drop (k + 1)) := by
        conv => lhs; rw [← List.take_append_drop (k + 1) ds]
        simp only [sumC, List.map_append, List.sum_append]
      have h0 := (sumC_bd (ds.take k)).1
      have h1 := (sumC_bd (ds.drop (k + 1))).1
      have hsum := HP.out.sum
      have hwf := HP.out.wfs _ (List.getElem_mem hlt)
      have hcell := plCells_at HP.out.wfs hc (List.replicate (x - n) bl)
      obtain ⟨lb, lo, rfl, hlb, hlc⟩ := HOR.out.open_ (by rw [sv_length, List.length_map]; omega)
      have hstr : wr.cell? ⟨lb, lo + k, none⟩ = some (.string ⟨(eb ds[k]).toArray⟩) := (hbr.cell (p := ⟨lb, lo + k, none⟩) hlb).trans (hlc k _ (by simp [sv, hlt]))
      generalize ds[k] = d at hc htk hwf hcell hstr
      have hat : 0 ≤ sumC (ds.take k) ∧ sumC (ds.take k) + wc d ≤ 60 := by omega
      generalize sumC (ds.take k) = at0 at htk hcell hat h0 ⊢
      have hw12 := pl_wc hwf
      have h64 : (eb d).length ≤ 64 := by obtain ⟨_, _, _, _, _, h, _⟩ := hwf; exact h
      obtain ⟨cl, hcl⟩ : ∃ cl : Cl, cl = ⟨eb d, wc d, Sty.zero⟩ := ⟨_, rfl⟩
      have hcb : cellB (plT (plCells ds) (x - n) lc j).L 0 at0 = (cl, true) := by
        unfold cellB
        rw [if_pos ⟨by omega, h0⟩]
        show (match (some (plCells ds ++ List.replicate (x - n) bl) : Option (List Cl)) with | none => (czero, false) | some l => match l[at0.toNat]? with | none => (czero, false) | some c => (c, true)) = _
        simp only
        rw [hcell, hcl]
      have hce : ∀ W, Below w4.heap.size w4 W → Calls Tryz.prog 22 #[.pointer (some ⟨tm, 0, none⟩), .int .i64 0, .int .i64 at0] W fun e w' => e = .returned (.tuple #[.agg cl.cells.toArray, .bool true]) ∧ Below W.heap.size W w' := fun W hW => by
        have := tcell_yes (HT3.out.below (HB4.out.trans (hW.mono HB4.out.size))) 0 at0
        rw [hcb] at this
        exact this
      have hwd : ∀ W, Calls Tryz.prog 23 #[.string ⟨(eb d).toArray⟩] W fun e w' => e = .returned (.int .i64 (wc d)) ∧ Below W.heap.size W w' := fun W => by
        have := rwidth_any ⟨(eb d).toArray⟩ (by show (eb d).toArray.size ≤ _; simp; omega) W
        rw [show (⟨(eb d).toArray⟩ : ByteArray).data.toList = eb d from rfl, rs_wf hwf, fw_wf hwf] at this
        exact this
      have hc0 : ∀ (X : World) (b : Nat), Blk X b 57 cl.cells → X.cell? ⟨b, 0, none⟩ = some (.string ⟨(eb d).toArray⟩) ∧ X.cell? ⟨b, 1, none⟩ = some (.int .i64 (wc d)) := fun X b h => by
        rw [hcl] at h
        exact ⟨h.cell 0, h.cell 1⟩
      have HCE := Lib.hid hce
      have HWD := Lib.hid hwd
      have HC0 := Lib.hid hc0
      have HTK := Lib.hid htk
      have HBR := Lib.hid hbr
      have HLB := Lib.hid hlb
      clear hc hall h1 hsum hwf hcell hlc hcl hcb hce hwd hc0 htk hbr hlb h64
      go_upto_region 13 with (first
        | (go_at_call 22; refine (HCE.out _ HBR.out).mono ?_; rintro e w5 ⟨rfl, hb5⟩; have HB5 := Lib.hid hb5; have HN5 := Lib.hid (Blk.new w5 57 czero.cells); clear hb5)
        | ((with_reducible refine at_store 13 ?_); refine wpList_store_blk rfl _ _ _ rfl rfl w5.heap.size 0 _ czero.cells cl.cells rfl rfl HN5.out (by simp [Cl.len]) cl_size cl.one ?_; intro w6 hn6 hg6; have hn6' : Blk w6 w5.heap.size 57 cl.cells := hn6; have hb6 : Below w5.heap.size w5 w6 := ((Below.refl _ _).alloc (Nat.le_refl _) _).grown hg6 (by simp) (fun j hj => by injection hj with hj; omega); have HN6 := Lib.hid hn6'; have HB6 := Lib.hid (HB5.out.trans (hb6.mono HB5.out.size)); clear hn6 hn6' hg6 hb6))
      have hk9 : ∀ w', Below w6.heap.size w6 w' → Below w6.heap.size w6 w' ∧ w'.cell? ⟨w5.heap.size, 0, none⟩ = some (.string ⟨(eb d).toArray⟩) ∧ w'.cell? ⟨w5.heap.size, 1, none⟩ = some (.int .i64 (wc d)) ∧ w'.cell? ⟨lb, lo + k, none⟩ = some (.string ⟨(eb d).toArray⟩) := fun w' hb => by
        obtain ⟨z0, z1⟩ := HC0.out w' _ (HN6.out.below hb HN6.out.lt)
        refine ⟨hb, z0, z1, ?_⟩
        have hlw : lb < wr.heap.size := World.block_lt_of_cell? _ _ hstr
        exact ((HB6.out.trans (hb.mono HB6.out.size)).cell (p := ⟨lb, lo + k, none⟩) hlw).trans hstr
      have q1 : ∀ ww, Below w6.heap.size w6 ww → Calls Tryz.prog 23 #[.string ⟨(eb d).toArray⟩] ww fun e w' => e = .returned (.int .i64 (wc d)) ∧ Below w6.heap.size w6 w' := fun ww hb => (HWD.out ww).mono fun e w' ⟨h1, h2⟩ => ⟨h1, hb.trans (h2.mono hb.size)⟩
      have HK9 := Lib.hid hk9
      have Q1 := Lib.hid q1
      have HDR := Lib.hid ((Below.refl w6.heap.size w6).drew)
      clear hk9 q1 hstr
      go_region_held3 (fun w' => Below w6.heap.size w6 w' ∧ w'.cell? ⟨w5.heap.size, 0, none⟩ = some (.string ⟨(eb d).toArray⟩) ∧ w'.cell? ⟨w5.heap.size, 1, none⟩ = some (.int .i64 (wc d)) ∧ w'.cell? ⟨lb, lo + k, none⟩ = some (.string ⟨(eb d).toArray⟩))
        (first | exact HK9.out _ hbx | exact HK9.out _ HDR.out)
        (first
          | (go_at_call 23; refine (Q1.out _ (by first | assumption | exact And.left (by assumption))).mono ?_; rintro e wx ⟨rfl, hbx⟩))
      all_goals
        obtain ⟨_, _, z1, _⟩ := HK9.out _ hbx
        have hbn := HBR.out.trans ((HB6.out.trans (hbx.mono HB6.out.size)).mono HBR.out.size)
        go_wp2_with (fail)
        go_roundw
        case rel => exact ⟨k + 1, by go_num, by omega, by rw [HTK.out], hbn⟩
        case measure => simp [intOf]; omega
    · obtain rfl : k = ds.length := by omega
      have hki : ¬ ((ds.length : Nat) : Int) < ds.length := by omega
      have hlen := plCells_len HP.out.wfs
      rw [List.take_length, HP.out.sum]
      rw [HP.out.sum] at hlen
      have hcol : ((plT (plCells ds) (x - n) lc j).col : Int) = min (n : Int) ((x : Int) - 1) := by
        show (((if x - n = 0 then (plCells ds).length - 1 else (plCells ds).length) : Nat) : Int) = _
        split <;> omega
      have hcu : ∀ W, Below w4.heap.size w4 W → Calls Tryz.prog 15 #[.pointer (some ⟨tm, 0, none⟩)] W fun e w' => e = .returned (.tuple #[.int .i64 0, .int .i64 (min (n : Int) ((x : Int) - 1))]) ∧ Below w4.heap.size w4 w' := fun W hW =>
        (cursor_yes (HT3.out.below (HB4.out.trans (hW.mono HB4.out.size)))).mono fun e w' ⟨h1, h2⟩ => ⟨by rw [h1, hcol]; rfl, hW.trans (h2.mono hW.size)⟩
      have hpe : ∀ W, Below w4.heap.size w4 W → Calls Tryz.prog 18 #[.pointer (some ⟨tm, 0, none⟩)] W fun e w' => e = .returned (.bool (decide (x - n = 0))) ∧ Below w4.heap.size w4 w' := fun W hW =>
        (tpending_yes (HT3.out.below (HB4.out.trans (hW.mono HB4.out.size)))).mono fun e w' ⟨h1, h2⟩ => ⟨h1, hW.trans (h2.mono hW.size)⟩
      have hsc : ∀ W, Below w4.heap.size w4 W → Calls Tryz.prog 24 #[.pointer (some ⟨tm, 0, none⟩)] W fun e w' => e = .returned (.int .i64 0) ∧ Below w4.heap.size w4 w' := fun W hW =>
        (tscrolled_yes (HT3.out.below (HB4.out.trans (hW.mono HB4.out.size)))).mono fun e w' ⟨h1, h2⟩ => ⟨h1, hW.trans (h2.mono hW.size)⟩
      have haw : ∀ W, Below w4.heap.size w4 W → Calls Tryz.prog 8 #[] W fun e w' => e = .returned (.bool true) ∧ Below w4.heap.size w4 w' := fun W hW => by
        have hb := HB3.out.trans ((HB4.out.trans (hW.mono HB4.out.size)).mono HB3.out.size)
        exact (tawake_any W (HT.out.bel hb) (HTB.out.below hb)).mono fun e w' ⟨h1, h2⟩ => ⟨h1, hW.trans (h2.mono hW.size)⟩
      have HCU := Lib.hid hcu
      have HSC := Lib.hid hsc
      have HAW := Lib.hid haw
      have HBR := Lib.hid hbr
      clear hcu hsc haw hbr hcol hlen
      by_cases hnq : n = x
      · have hi : (n : Int) = x := by omega
        rw [decide_eq_true (by omega)] at hpe
        have HPE := Lib.hid hpe
        clear hpe hnq
        go_wp2_with (first
          | (go_at_call 15; refine (HCU.out _ HBR.out).mono ?_; rintro e w5 ⟨rfl, hb5⟩; have HB5 := Lib.hid hb5; clear hb5)
          | (go_at_call 18; refine (HPE.out _ HB5.out).mono ?_; rintro e w6 ⟨rfl, hb6⟩; have HB6 := Lib.hid hb6; clear hb6)
          | (go_at_call 24; refine (HSC.out _ HB6.out).mono ?_; rintro e w7 ⟨rfl, hb7⟩; have HB7 := Lib.hid hb7; clear hb7)
          | (go_at_call 8; refine (HAW.out _ HB7.out).mono ?_; rintro e w8 ⟨rfl, hb8⟩))
        go_ret
        exact ⟨rfl, HB3.out.trans ((HB4.out.trans (hb8.mono HB4.out.size)).mono HB3.out.size)⟩
      · have hi : ¬ (n : Int) = x := by omega
        have hi2 : ((n : Int) == (x : Int)) = false := by simp; omega
        rw [decide_eq_false (by omega)] at hpe
        have HPE := Lib.hid hpe
        clear hpe hnq
        go_wp2_with (first
          | (go_at_call 15; refine (HCU.out _ HBR.out).mono ?_; rintro e w5 ⟨rfl, hb5⟩; have HB5 := Lib.hid hb5; clear hb5)
          | (go_at_call 18; refine (HPE.out _ HB5.out).mono ?_; rintro e w6 ⟨rfl, hb6⟩; have HB6 := Lib.hid hb6; clear hb6)
          | (go_at_call 24; refine (HSC.out _ HB6.out).mono ?_; rintro e w7 ⟨rfl, hb7⟩; have HB7 := Lib.hid hb7; clear hb7)
          | (go_at_call 8; refine (HAW.out _ HB7.out).mono ?_; rintro e w8 ⟨rfl, hb8⟩))
        go_ret
        exact ⟨rfl, HB3.out.trans ((HB4.out.trans (hb8.mono HB4.out.size)).mono HB3.out.size)⟩
end Go.Proofs.YtcgjanjllfcnoaaGreatDoor
