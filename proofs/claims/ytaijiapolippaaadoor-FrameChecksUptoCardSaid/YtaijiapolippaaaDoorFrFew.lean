/-
  Walk: the law's few: a frame, cut.
-/
import Derived.Test.YtaijiapolippaaaDoorFrFns
import Derived.Test.YtaijiapolippaaaDoorGfI
import Derived.Test.YtaijiapolippaaaDoorGfA
import Derived.Deep.RegionLaw
import Derived.Deep.AppendLies
import Derived.Outline
namespace Go.Proofs.YtaijiapolippaaaDoor
open Go.RowKit
set_option linter.unusedVariables false
set_option linter.unusedSimpArgs false

def fewL (L : List (List Cl)) : List (List Cl) := (L.take 70).map (·.take 510)
theorem frm_info : (Tryd.prog.info? 79).map (fun i => (i.zero, i.size, i.bytes)) = some (some (.slice none 0 0), 1, 24) := by kernel_rfl
theorem fall {w : World} {g : Nat} {t : TypeId} {cs : List Value} (h : Blk w g t cs) : w.rangeAt g 0 cs := h.range 0 cs (fun j v hv => by simpa using hv)
set_option maxRecDepth 100000 in
set_option maxHeartbeats 16000000 in
theorem ffew_any {w : World} {D : Nat → Prop} {A : Option Addr} {c : Nat} {L : List (List Cl)} (h : RfAt w D A c L) (row col : Int) (sn : Bool) (hn : L.length ≤ maxLen) (hc : c ≤ maxLen) (hs : ∀ l ∈ L, l.length ≤ maxLen) :
    Calls Tryd.prog 36 #[.agg #[.slice A L.length c, .int .i64 row, .int .i64 col, .bool sn]] w fun e w' => ∃ A' c', e = .returned (.agg #[.slice A' (fewL L).length c', .int .i64 row, .int .i64 col, .bool sn]) ∧ RfAt w' (fun b => D b ∨ w.heap.size ≤ b) A' c' (fewL L) ∧ Below w.heap.size w w' := by
  obtain ⟨i0, hi0, hz0, hz1, hz2⟩ := info_parts frm_info
  have HI0 := Lib.hid hi0
  have HZ0 := Lib.hid hz0
  have HZ1 := Lib.hid hz1
  have HZ2 := Lib.hid hz2
  have hrr : RfAt w (fun b => D b ∧ b < w.heap.size) A c L := h.mono (fun b hb hd => ⟨hd, hb⟩)
  have hcap := hrr.2.1
  have HRR := Lib.hid hrr
  have HS := Lib.hid hs
  obtain ⟨n, hN⟩ : ∃ n, n = L.length := ⟨_, rfl⟩
  rw [← hN] at hcap hn ⊢
  have HN := Lib.hid hN
  obtain ⟨m, hm⟩ : ∃ m : Nat, (m : Int) = min (n : Int) 70 := ⟨min n 70, by omega⟩
  have hmn : m = min n 70 := by omega
  have hm2 : (min (n : Int) 70).toNat = m := by omega
  unfold maxLen at hn hc
  have hW1 : Hid (∀ W, W = (w.alloc (.cells #[.slice A n c, .int .i64 row, .int .i64 col, .bool sn] 74)).alloc (.cells #[.slice none 0 0, .int .i64 0, .int .i64 0, .bool false] 74) → Blk W w.heap.size 74 [.slice A n c, .int .i64 row, .int .i64 col, .bool sn] ∧ Blk W (w.heap.size + 1) 74 [.slice none 0 0, .int .i64 0, .int .i64 0, .bool false] ∧ Below w.heap.size w W ∧ W.heap.size = w.heap.size + 2) := Lib.hid (fun W hW => by
    have h2 := Blk.new (w.alloc (.cells #[.slice A n c, .int .i64 row, .int .i64 col, .bool sn] 74)) 74 [.slice none 0 0, .int .i64 0, .int .i64 0, .bool false]
    refine ⟨by rw [hW]; exact (Blk.new w _ [.slice A n c, .int .i64 row, .int .i64 col, .bool sn]).alloc _, by rw [hW]; simpa using h2, by rw [hW]; exact ((Below.refl _ w).alloc (Nat.le_refl _) _).alloc (by simp) _, by rw [hW]; simp⟩)
  clear hi0 hz0 hz1 hz2 h hrr hN hs hm
  go_enter Tryd.func36, Tryd.ntmps36
  go_upto_region 1 with (fail)
  obtain ⟨W1, hW⟩ : ∃ W1, W1 = (w.alloc (.cells #[.slice A n c, .int .i64 row, .int .i64 col, .bool sn] 74)).alloc (.cells #[.slice none 0 0, .int .i64 0, .int .i64 0, .bool false] 74) := ⟨_, rfl⟩
  rw [← hW]
  obtain ⟨x1, x2, xb, xs⟩ := hW1.out W1 hW
  have k0 : W1.cell? ⟨w.heap.size, 0, none⟩ = some (.slice A n c) := x1.cell 0
  have hfz := x1.frozen 0
  clear hW hW1
  have hmc : m ≤ c := by omega
  have s1 : (0 : Int) ≤ min (n : Int) 70 := by omega
  have s2 : min (n : Int) 70 ≤ (c : Int) := by omega
  have X1 := Lib.hid x1
  have X2 := Lib.hid x2
  have XB := Lib.hid xb
  have XS := Lib.hid xs
  clear x1 x2 xb xs
  go_wp2_with (fail)
  obtain ⟨W2, hW2⟩ : ∃ W2, W2 = W1.setCell ⟨w.heap.size, 0, none⟩ (.slice A m c) := ⟨_, rfl⟩
  rw [← hmn, ← hW2]
  have HM := Lib.hid hmn
  clear hmn hm2 s1 s2
  have hc2 : Chg (one w.heap.size) W1 W2 := by rw [hW2]; exact (Chg.refl (one w.heap.size) W1).setCell (p := ⟨w.heap.size, 0, none⟩) (.inl rfl) _
  have y1 : Blk W2 w.heap.size 74 [.slice A m c, .int .i64 row, .int .i64 col, .bool sn] := by rw [hW2]; exact X1.out.set_ 0 _
  have y2 : Blk W2 (w.heap.size + 1) 74 [.slice none 0 0, .int .i64 0, .int .i64 0, .bool false] := X2.out.chg hc2 (fun e => by have e' : w.heap.size + 1 = w.heap.size := e; omega)
  have yb : Below w.heap.size w W2 := XB.out.trans (hc2.below XB.out.size (fun j hj => by have e' : j = w.heap.size := hj; omega))
  have ys : w.heap.size + 2 ≤ W2.heap.size := by have := hc2.size; have := XS.out; omega
  have Y1 := Lib.hid y1
  have Y2 := Lib.hid y2
  have YB := Lib.hid yb
  clear hW2 hc2 y1 y2 yb X1 X2 XB XS k0 hfz
  go_loopw [3, 4] (fun v3 v4 wr => ∃ (k : Nat) (A1 : Option Addr) (c1 : Nat) (us : List Value), v4 = .int .i64 k ∧ k ≤ m ∧ v3 = .slice A1 k c1 ∧ OR wr (w.heap.size + 2) 79 A1 k c1 us ∧
      RowsD wr (fun b => D b ∧ b < w.heap.size) us ((L.take k).map (·.take 510)) ∧ Blk wr w.heap.size 74 [.slice A m c, .int .i64 row, .int .i64 col, .bool sn] ∧ Blk wr (w.heap.size + 1) 74 [.slice none 0 0, .int .i64 0, .int .i64 0, .bool false] ∧ Below w.heap.size w wr ∧ w.heap.size + 2 ≤ wr.heap.size) (fun _ v4 _ => m - (intOf v4).toNat)
  case atStart => exact ⟨0, none, 0, [], rfl, by omega, rfl, OR.none_ _ _ _, .nil, Y1.out, Y2.out, YB.out, ys⟩
  case round =>
    clear Y1 Y2 YB ys
    obtain ⟨k, A1, c1, us, rfl, hk, rfl, ho, hr, hx, hz, hb, hsz⟩ := hrel
    have q0 : wr.cell? ⟨w.heap.size, 0, none⟩ = some (.slice A m c) := hx.cell 0
    have OO := Lib.hid ho
    have RR := Lib.hid hr
    have XX := Lib.hid hx
    have ZZ := Lib.hid hz
    have BB := Lib.hid hb
    clear ho hr hx hz hb
    by_cases hlt : k < m
    · have hki : (k : Int) < m := by omega
      have hkl : k < L.length := by have := HN.out; have := HM.out; omega
      have hl : L[k]? = some L[k] := List.getElem?_eq_getElem hkl
      have htk : L.take (k + 1) = L.take k ++ [L[k]] := List.take_succ_eq_append_getElem hkl
      have hls := HS.out _ (List.getElem_mem hkl)
      generalize L[k] = l at hl htk hls
      obtain ⟨b', off', Ai, ci, e', hba, hca, ⟨hni, hci⟩, hsd⟩ := (HRR.out.below BB.out).at_ hl
      subst e'
      obtain ⟨n1, hn1⟩ : ∃ n1, n1 = l.length := ⟨_, rfl⟩
      rw [← hn1] at hca hci hls
      unfold maxLen at hls
      obtain ⟨m1, hm1⟩ : ∃ m1, m1 = min n1 510 := ⟨_, rfl⟩
      have htl : (l.take 510).length = m1 := by rw [List.length_take]; omega
      have hrow : RowD wr (fun b => D b ∧ b < w.heap.size) (.slice Ai (min n1 510) ci) (l.take 510) := ⟨Ai, ci, by rw [htl, hm1], ⟨hni, by rw [htl]; omega⟩, by
        have := hsd.take (510 * 7)
        rw [rc_take] at this
        exact this⟩
      have HROW := Lib.hid hrow
      have HTK := Lib.hid htk
      have hle : m1 ≤ ci := by omega
      have hn1c : n1 ≤ ci := hci
      have hk70 : k < 70 := by have := HM.out; omega
      have hs1 : (0 : Int) ≤ min (n1 : Int) 510 := by omega
      have hs2 : min (n1 : Int) 510 ≤ (ci : Int) := by omega
      have hs3 : (min (n1 : Int) 510).toNat = min n1 510 := by omega
      clear hrow htk hsd hl hba hn1 htl hm1 hle
      go_wp2_with (fail)
      go_region_law (
        refine step_append_lies _ rfl (.tmp 20) (.tmp 34) _ rfl (w.heap.size + 2) 79 i0 _ 1 24 Tryd.underlying72 HI0.out HZ0.out HZ1.out HZ2.out rfl (by omega) (.slice A1 k c1) k us (by simp [Act.eval, Act.put]) (OO.out.1.drew.alloc _) ⟨wr.heap.size, 0, none⟩ 1 1 [.slice Ai (min n1 510) ci] (by simp [Act.eval, Act.put]) rfl (World.news_of_block (cs := #[.slice Ai (min n1 510) ci]) (t := 79) (fr := (0, 0)) (heap_alloc_new wr.drew _)) (fun v hv => by simp at hv; subst hv; rfl) (by omega) (by simp only [maxLen]; omega) (by omega) (by simp; omega) (wr.heap.size + 1) (by simp) ?_; intro g cap w5 ho5 hg5 hat5 hgl5;
        have HO5 : Hid (OR w5 (w.heap.size + 2) 79 (some ⟨g, 0, none⟩) (k + 1) cap (us ++ [.slice Ai (min n1 510) ci])) := Lib.hid ⟨ho5, fun e => (by cases e)⟩;
        have HC5 : Hid (Chg (fun j => blk A1 = some j) wr w5) := Lib.hid (((Chg.refl (fun j => blk A1 = some j) wr).drew.alloc (.cells #[.slice Ai (min n1 510) ci] 79)).grown (by rw [ownBlock_slice] at hg5; exact hg5) (fun q hq => .inl hq)); clear ho5 hg5 hat5 hgl5)
      all_goals
        have hS : ∀ j, j < w.heap.size + 2 → ¬ (blk A1 = some j) := fun j hj e => by
          have := (OO.out.blk_lt _ e).1; omega
        have hrn : RowsD w5 (fun b => D b ∧ b < w.heap.size) (us ++ [.slice Ai (min n1 510) ci]) ((L.take (k + 1)).map (·.take 510)) := by
          rw [HTK.out, List.map_append]
          exact (RR.out.snoc HROW.out).chg HC5.out (fun b _ hb => hS b (by omega))
        have hxn := XX.out.chg HC5.out (hS _ (by omega))
        have hzn := ZZ.out.chg HC5.out (hS _ (by omega))
        have hbn : Below w.heap.size w w5 := BB.out.trans (HC5.out.below BB.out.size (fun j e => by have := (OO.out.blk_lt _ e).1; omega))
        have hsn : w.heap.size + 2 ≤ w5.heap.size := by have := HC5.out.size; omega
        have R2 := Lib.hid hrn
        have X2 := Lib.hid hxn
        have Z2 := Lib.hid hzn
        have B2 := Lib.hid hbn
        have S2 := Lib.hid hsn
        clear hS hrn hxn hzn hbn hsn q0
        go_wp2
        go_roundw
        case rel => exact ⟨k + 1, _, cap, _, by go_num, by omega, rfl, HO5.out, R2.out, X2.out, Z2.out, B2.out, S2.out⟩
        case measure => simp [intOf]; omega
    · have hki : ¬ (k : Int) < m := by omega
      obtain rfl : k = m := by omega
      have hXS : Hid (∀ wz, wz = wr.setCell ⟨w.heap.size, 0, none⟩ (.slice A1 k c1) → Blk wz w.heap.size 74 [.slice A1 k c1, .int .i64 row, .int .i64 col, .bool sn] ∧ Blk wz (w.heap.size + 1) 74 [.slice none 0 0, .int .i64 0, .int .i64 0, .bool false] ∧ Chg (one w.heap.size) wr wz) := Lib.hid (fun wz hwz => by
        have hc2 : Chg (one w.heap.size) wr wz := by rw [hwz]; exact (Chg.refl (one w.heap.size) wr).setCell (p := ⟨w.heap.size, 0, none⟩) (.inl rfl) _
        exact ⟨by rw [hwz]; exact XX.out.set_ 0 _, ZZ.out.chg hc2 (fun e => by have e' : w.heap.size + 1 = w.heap.size := e; omega), hc2⟩)
      have hfz := XX.out.frozen 0
      go_upto_region 8 with (fail)
      obtain ⟨W3, hW3⟩ : ∃ W3, W3 = wr.setCell ⟨w.heap.size, 0, none⟩ (.slice A1 k c1) := ⟨_, rfl⟩
      rw [← hW3]
      obtain ⟨x1, x2, xc⟩ := hXS.out W3 hW3
      have X1 := Lib.hid x1
      have X2 := Lib.hid x2
      have XC := Lib.hid xc
      clear hXS hW3 x1 x2 xc hfz q0
      go_wp2_with (first
        | ((with_reducible refine at_dst 38 ?_); refine wpList_load_mid rfl _ _ rfl w.heap.size 0 rfl [.slice A1 k c1, .int .i64 row, .int .i64 col, .bool sn] _ (fall X1.out) Tryd.underlying74 rfl (by kernel_rfl) ?_)
        | ((with_reducible refine at_store 2 ?_); refine wpList_store_blk rfl _ _ _ rfl rfl (w.heap.size + 1) 0 _ [.slice none 0 0, .int .i64 0, .int .i64 0, .bool false] [.slice A1 k c1, .int .i64 row, .int .i64 col, .bool sn] rfl rfl X2.out (by simp) (by kernel_rfl) (by intro v hv; simp at hv; rcases hv with rfl | rfl | rfl | rfl <;> rfl) ?_; intro wz hn5 hg5))
      have hn6 : Blk wz (w.heap.size + 1) 74 [.slice A1 k c1, .int .i64 row, .int .i64 col, .bool sn] := hn5
      have hcz : Chg (fun j => j = w.heap.size ∨ j = w.heap.size + 1) wr wz := (XC.out.mono (S' := fun j => j = w.heap.size ∨ j = w.heap.size + 1) (fun j e => .inl (.inl e))).grown hg5 (fun j e => .inl (.inr (by injection e with e; exact e.symm)))
      have hln : (fewL L).length = k := by unfold fewL; rw [List.length_map, List.length_take]; have := HN.out; have := HM.out; omega
      refine bodyPost_ret (results_c rfl rfl (fall hn6) Tryd.underlying74 rfl (by kernel_rfl)) rfl ⟨A1, c1, by rw [hln], ?_, ?_⟩
      · have hrl := RR.out
        have hfe : (L.take k).map (·.take 510) = fewL L := by
          unfold fewL
          congr 1
          have := HN.out
          have := HM.out
          rcases Nat.le_total 70 n with h | h
          · rw [show k = 70 by omega]
          · rw [List.take_of_length_le (by omega), List.take_of_length_le (by omega)]
        rw [hfe] at hrl
        have hsl : SlD wr (fun b => w.heap.size + 2 ≤ b) A1 us := SlD.own OO.out.1
        refine ⟨OO.out.2, by rw [hln]; exact own_cap OO.out.1, us, ?_, ?_⟩
        · exact ((hsl.mono (D' := fun b => w.heap.size + 2 ≤ b) (fun b _ hb => hb)).chg hcz (fun b _ hb e => by rcases e with e | e <;> omega)).mono (fun b _ hb => .inr (by omega))
        · exact (hrl.chg hcz (fun b _ hb e => by have := hb.2; rcases e with e | e <;> omega)).mono (fun b _ hb => .inl hb.1)
      · exact BB.out.trans (hcz.below BB.out.size (fun j e => by rcases e with e | e <;> omega))
end Go.Proofs.YtaijiapolippaaaDoor
