/-
  Walks: esc's final, join, sequence, mode.
-/
import Derived.Test.YtclkclamdnkdgaaDoorEsMath
import Derived.Test.YtclkclamdnkdgaaDoorEsShelf
import Derived.Test.YtclkclamdnkdgaaDoorU8
namespace Go.Proofs.YtclkclamdnkdgaaDoor
open Go.RowKit
set_option linter.unusedVariables false
set_option linter.unusedSimpArgs false

theorem es_add (a b : List UInt8) : (⟨a.toArray⟩ : ByteArray) ++ ⟨b.toArray⟩ = ⟨(a ++ b).toArray⟩ := by
  apply ByteArray.ext; simp [ByteArray.data_append]
theorem ret_str {a b : ByteArray} (h : a = b) : Ending.returned (.string a) = .returned (.string b) := by rw [h]
theorem es_size (l : List UInt8) : (⟨l.toArray⟩ : ByteArray).size = l.length := by show l.toArray.size = _; simp

/-- the table of the powers of ten lies in memory -/
def Pow (w : World) : Prop := Lib.TabIs Tryd.prog w "internal/strconv.uint64pow10" .u64 Lib.pow10Tab
theorem Pow.at_ {w : World} (h : Pow w) : Lib.TabBelow Tryd.prog w.heap.size w "internal/strconv.uint64pow10" .u64 Lib.pow10Tab := Lib.tabBelow_of_tabIs h
theorem Pow.below {w w' : World} (h : Pow w) (hb : Below w.heap.size w w') : Pow w' := h.at_ w' hb

def i64v (l : List Int) : List Value := l.map (Value.int .i64)
theorem i64v_length (l : List Int) : (i64v l).length = l.length := by simp [i64v]
theorem i64v_get {l : List Int} {k : Nat} (h : k < l.length) : (i64v l)[k]? = some (.int .i64 l[k]) := by simp [i64v, h]

theorem fin_cases {o : Int} (h0 : 0 ≤ o) (h9 : o ≤ 9) : o = 0 ∨ o = 1 ∨ o = 2 ∨ o = 3 ∨ o = 4 ∨ o = 5 ∨ o = 6 ∨ o = 7 ∨ o = 8 ∨ o = 9 := by omega
theorem conv_fin (o : Int) (h0 : 0 ≤ o) (h9 : o ≤ 9) (w : World) : Sem.run Tryd.prog (Go.convert 5 9 (.int .u8 (finB o).toNat)) w = .ok (.string ⟨[finB o].toArray⟩) w := by
  rcases fin_cases h0 h9 with rfl | rfl | rfl | rfl | rfl | rfl | rfl | rfl | rfl | rfl
  all_goals kernel_rfl

set_option maxHeartbeats 1000000 in
theorem final_any (o : Int) (h0 : 0 ≤ o) (h9 : o ≤ 9) (w : World) :
    Calls Tryd.prog 49 #[.int .i64 o] w fun e w' => e = .returned (.int .u8 (finB o).toNat) ∧ w = w' := by
  rcases fin_cases h0 h9 with rfl | rfl | rfl | rfl | rfl | rfl | rfl | rfl | rfl | rfl
  all_goals
    go_enter Tryd.func49, Tryd.ntmps49
    go_wp2
    go_ret
    exact ⟨rfl, rfl⟩

theorem appint (base : Nat) (A : Option Addr) (n c : Nat) (l : List UInt8) (i : Int) (h0 : -9223372036854775808 ≤ i) (h1 : i ≤ 9223372036854775807) (w : World) (hown : OB w base A n c l) (hB : base ≤ w.heap.size) (hl : n ≤ 1000000)
    (hT : Lib.TabBelow Tryd.prog base w "internal/strconv.uint64pow10" .u64 Lib.pow10Tab) :
    Calls Tryd.prog 54 #[.slice A n c, .int .i64 i, .int .i64 10] w fun e w' => ∃ A' c', e = .returned (.slice A' (n + (Lib.itoa i).length) c') ∧ OB w' base A' (n + (Lib.itoa i).length) c' (l ++ Lib.itoa i) ∧ Below base w w' := by
  refine (sh_strconv_AppendInt_10 base n i h0 h1 (.slice A n c) (bv l) w hown.1 hB (by omega) hT).mono ?_
  rintro e w' ⟨v', rfl, h2, hb, -⟩
  obtain ⟨A', c', rfl, hn', _⟩ := own_of h2
  have e1 : bv l ++ Lib.byteCells (Lib.itoa i) = bv (l ++ Lib.itoa i) := by simp [bv, Lib.byteCells]
  rw [e1] at h2
  exact ⟨A', c', rfl, ⟨h2, hn'⟩, hb⟩

set_option maxRecDepth 100000 in
set_option maxHeartbeats 4000000 in
theorem join_any (A : Option Addr) (n cap : Nat) (l : List Int) (hl : i64s l) (hn : n = l.length) (h100 : l.length ≤ 100) (w : World) (B : Nat) (hS : Sl w B A (i64v l)) (hB : B ≤ w.heap.size) (hT : Pow w) :
    Calls Tryd.prog 48 #[.slice A n cap] w fun e w' => e = .returned (.string ⟨(joinG true l).toArray⟩) ∧ Below w.heap.size w w' := by
  subst hn
  have HL := Lib.hid hl
  have HT := Lib.hid hT
  have HS := Lib.hid hS
  have hlen := joinG_len true l hl
  clear hl hT hS
  go_enter Tryd.func48, Tryd.ntmps48
  go_wp2
  go_loopw [3, 8] (fun v3 v8 wr => ∃ (k m c : Nat) (A : Option Addr), k ≤ l.length ∧ v8 = .int .i64 k ∧ v3 = .slice A m c ∧ OB wr w.heap.size A m c (joinG true (l.take k)) ∧ Below w.heap.size w wr) (fun _ v8 _ => l.length - (intOf v8).toNat)
  case atStart => exact ⟨0, 0, 0, none, by omega, rfl, rfl, OB.none_ _ _, Below.refl _ _⟩
  case round =>
    obtain ⟨k, m, c, A1, hk, rfl, rfl, hO, hb⟩ := hrel
    have HO := Lib.hid hO
    have HB := Lib.hid hb
    have hm := hO.len
    have hjl := joinG_len true (l.take k) (fun x hx => HL.out x (List.mem_of_mem_take hx))
    have htl : (l.take k).length ≤ k := List.length_take_le _ _
    have hm3 : m ≤ 2200 := by omega
    have HM := Lib.hid hm
    clear hO hb hm hjl htl
    by_cases hlt : k < l.length
    · have hki : (k : Int) < (l.length : Int) := by omega
      obtain ⟨b, off, rfl, hbB, hcell⟩ := HS.out.open_ (by rw [i64v_length]; omega)
      have hx := hcell k _ (i64v_get hlt)
      have hxr : wr.cell? ⟨b, off + k, none⟩ = some (.int .i64 l[k]) := (HB.out.cell (p := ⟨b, off + k, none⟩) (by show b < w.heap.size; omega)).trans hx
      have hbd := HL.out l[k] (List.getElem_mem hlt)
      have HJ := Lib.hid (joinG_take l k hlt)
      have hil := Lib.itoa_length_le l[k] hbd.1 hbd.2
      generalize l[k] = x at hx hxr hbd HJ hil
      clear hcell hx
      by_cases hk0 : k = 0
      · have hk1 : ¬ 0 < (k : Int) := by omega
        have hk2 : ¬ 0 < k := by omega
        have HK0 := Lib.hid hk0
        clear hk0
        go_wp2_with (go_at_call 54; refine (appint w.heap.size A1 m c _ x hbd.1 hbd.2 wr HO.out HB.out.size (by omega) (HT.out.at_.on HB.out)).mono ?_; rintro e w1 ⟨A2, c2, rfl, h2, hb2⟩; have H2 := Lib.hid h2; have HB2 := Lib.hid hb2; clear h2 hb2)
        go_roundw
        case rel => exact ⟨k + 1, _, c2, A2, by omega, by go_num, rfl, by have := H2.out; rw [HJ.out, if_pos HK0.out]; simpa using this, HB.out.trans HB2.out⟩
        case measure => simp [intOf]; omega
      · have hk1 : 0 < (k : Int) := by omega
        go_wp2_with (first
          | (at_builtin
             refine wpList_app_u8 _ rfl (.tmp 15) (.tmp 16) rfl w.heap.size A1 m c (joinG true (l.take k)) rfl (HO.out.alloc _) (some ⟨wr.heap.size, 0, none⟩) 1 1 [59] (wr.heap.size + 1) rfl (Sl.new wr #[.int .u8 59] 5) rfl (fun h => by cases h) (m + 1) rfl (by omega) (by have := HB.out.size; simp; omega) ?_
             intro A3 c3 w3 h3 hg3 _
             have HB3 := Lib.hid ((HB.out.alloc HB.out.size _).grown hg3 (by have := HB.out.size; simp; omega) (fun g hg => (HO.out.blk_lt g hg).1))
             have H3 := Lib.hid h3
             clear h3 hg3)
          | (go_at_call 54; refine (appint w.heap.size A3 (m + 1) c3 _ x hbd.1 hbd.2 w3 H3.out HB3.out.size (by omega) (HT.out.at_.on HB3.out)).mono ?_; rintro e w1 ⟨A2, c2, rfl, h2, hb2⟩; have H2 := Lib.hid h2; have HB2 := Lib.hid hb2; clear h2 hb2))
        go_roundw
        case rel => exact ⟨k + 1, _, c2, A2, by omega, by go_num, rfl, by have := H2.out; rw [HJ.out, if_neg hk0]; simpa using this, HB3.out.trans HB2.out⟩
        case measure => simp [intOf]; omega
    · have hki : ¬ (k : Int) < (l.length : Int) := by omega
      have HE := Lib.hid (show l.take k = l from List.take_of_length_le (by omega))
      have hcv := run_str_sl wr wr.heap.size A1 m c _ HO.out.sl HM.out
      go_wp2
      go_ret
      exact ⟨ret_str (by rw [HE.out]), HB.out⟩

set_option maxRecDepth 100000 in
set_option maxHeartbeats 2000000 in
theorem sequence_any (o : Int) (h0 : 0 ≤ o) (h9 : o ≤ 9) (A : Option Addr) (n cap : Nat) (l : List Int) (hl : i64s l) (hn : n = l.length) (h100 : l.length ≤ 100) (w : World) (B : Nat) (hS : Sl w B A (i64v l)) (hB : B ≤ w.heap.size) (hT : Pow w) :
    Calls Tryd.prog 34 #[.int .i64 o, .slice A n cap] w fun e w' => e = .returned (.string ⟨(seqB l (finB o)).toArray⟩) ∧ Below w.heap.size w w' := by
  have HJ := Lib.hid (join_any A n cap l hl hn h100 w B hS hB hT)
  have hlen := joinG_len true l hl
  have HE : Hid (seqB l (finB o) = [27, 91] ++ joinG true l ++ [finB o]) := Lib.hid (by simp [seqB])
  have hjl : (joinG true l).length ≤ 2200 := by omega
  have HF := Lib.hid (final_any o h0 h9)
  have HC := Lib.hid (conv_fin o h0 h9)
  generalize joinG true l = j at HJ hjl HE
  generalize finB o = f at HE HF HC
  clear hlen hl hS hT hn h100 hB h0 h9
  go_enter Tryd.func34, Tryd.ntmps34
  go_wp2_with (fail)
  refine HJ.out.mono ?_
  rintro e w1 ⟨rfl, hb1⟩
  have hcv := HC.out w1
  go_wp2_with (go_at_call 49; refine (HF.out _).mono ?_; rintro e w2 ⟨rfl, rfl⟩)
  go_ret
  refine ⟨ret_str ?_, hb1⟩
  rw [HE.out, ← es_add, ← es_add]

set_option maxRecDepth 100000 in
set_option maxHeartbeats 2000000 in
theorem mode_any (n : Int) (h0 : -9223372036854775808 ≤ n) (h1 : n ≤ 9223372036854775807) (on : Bool) (w : World) (hT : Pow w) :
    Calls Tryd.prog 39 #[.int .i64 n, .bool on] w fun e w' => e = .returned (.string ⟨(modeB n on).toArray⟩) ∧ Below w.heap.size w w' := by
  have hl : i64s [n] := fun m hm => by rw [List.mem_singleton.1 hm]; exact ⟨h0, h1⟩
  have hA : Below w.heap.size w (w.alloc (.cells #[.int .i64 n] 3)) := (Below.refl _ _).alloc (Nat.le_refl _) _
  have hj := join_any (some ⟨w.heap.size, 0, none⟩) 1 1 [n] hl rfl (by simp) (w.alloc (.cells #[.int .i64 n] 3)) (w.heap.size + 1) (Sl.new w #[.int .i64 n] 3) (by simp) (hT.below hA)
  rw [joinG_one] at hj
  have hil := Lib.itoa_length_le n h0 h1
  have HE : Hid (modeB n on = [27, 91, 63] ++ Lib.itoa n ++ [if on = true then 104 else 108]) := Lib.hid (by simp [modeB])
  have HJ := Lib.hid hj
  have HA := Lib.hid hA
  generalize Lib.itoa n = j at HJ hil HE
  clear hj hl hT h0 h1 hA
  cases on
  · have hcv := conv_fin 8 (by omega) (by omega)
    have HC := Lib.hid hcv
    clear hcv
    go_enter Tryd.func39, Tryd.ntmps39
    go_wp2_with (fail)
    refine HJ.out.mono ?_
    rintro e w1 ⟨rfl, hb1⟩
    have hcv := HC.out w1
    go_wp2_with (go_at_call 49; refine (final_any 8 (by omega) (by omega) _).mono ?_; rintro e w2 ⟨rfl, rfl⟩)
    go_ret
    refine ⟨ret_str ?_, HA.out.trans (hb1.mono HA.out.size)⟩
    rw [HE.out, ← es_add, ← es_add]; rfl
  · have hcv := conv_fin 7 (by omega) (by omega)
    have HC := Lib.hid hcv
    clear hcv
    go_enter Tryd.func39, Tryd.ntmps39
    go_wp2_with (fail)
    refine HJ.out.mono ?_
    rintro e w1 ⟨rfl, hb1⟩
    have hcv := HC.out w1
    go_wp2_with (go_at_call 49; refine (final_any 7 (by omega) (by omega) _).mono ?_; rintro e w2 ⟨rfl, rfl⟩)
    go_ret
    refine ⟨ret_str ?_, HA.out.trans (hb1.mono HA.out.size)⟩
    rw [HE.out, ← es_add, ← es_add]; rfl
end Go.Proofs.YtclkclamdnkdgaaDoor
