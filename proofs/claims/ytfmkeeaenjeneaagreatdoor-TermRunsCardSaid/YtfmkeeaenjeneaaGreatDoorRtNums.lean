/-
  Walks: the reference's numbers.
-/
import Derived.Test.YtfmkeeaenjeneaaGreatDoorRtMem
import Derived.Test.YtfmkeeaenjeneaaGreatDoorGbT3
import Derived.Test.YtfmkeeaenjeneaaGreatDoorGfA
import Derived.Test.YtfmkeeaenjeneaaGreatDoorRegT
import Derived.Outline
namespace Go.Proofs.YtfmkeeaenjeneaaGreatDoor
open Go.RowKit Go.Sort
set_option linter.unusedVariables false
set_option linter.unusedSimpArgs false

def iv (l : List Int) : List Value := l.map (Value.int .i64)
theorem iv_length (l : List Int) : (iv l).length = l.length := by simp [iv]
theorem numsF_step : ∀ (l : List UInt8) (n : Int), ∃ ys z, numsF n l = ys ++ [z] ∧ numsF n (l ++ [59]) = ys ++ [z] ++ [0] ∧ ∀ c : UInt8, c ≠ 59 → numsF n (l ++ [c]) = ys ++ [min (z * 10 + ((c.toNat : Int) - 48)) 9999] := by
  intro l
  induction l with
  | nil => intro n; exact ⟨[], n, rfl, rfl, fun c hc => by simp [numsF, hc]⟩
  | cons x t ih =>
    intro n
    by_cases hx : x = 59
    · obtain ⟨ys, z, h1, h2, h3⟩ := ih 0
      subst hx
      refine ⟨n :: ys, z, ?_, ?_, fun c hc => ?_⟩
      · simp only [numsF, if_pos, h1, List.cons_append]
      · have := h2
        simp only [numsF, if_pos, List.cons_append, this]
      · have := h3 c hc
        simp only [numsF, if_pos, List.cons_append, this]
    · obtain ⟨ys, z, h1, h2, h3⟩ := ih (min (n * 10 + ((x.toNat : Int) - 48)) 9999)
      refine ⟨ys, z, ?_, ?_, fun c hc => ?_⟩
      · simp only [numsF, if_neg hx, h1]
      · simp only [numsF, if_neg hx, List.cons_append, h2]
      · simp only [numsF, if_neg hx, List.cons_append, h3 c hc]
theorem OR.some_ {w : World} {base n c : Nat} {e : TypeId} {A : Option Addr} {xs : List Value} (h : OR w base e A n c xs) (h0 : 0 < n) : ∃ g cur, A = some ⟨g, 0, none⟩ ∧ base ≤ g ∧ Blk w g e cur ∧ n ≤ cur.length ∧ ∀ (j : Nat) u, xs[j]? = some u → w.cell? ⟨g, j, none⟩ = some u := by
  obtain ⟨⟨hl, hv⟩, hn⟩ := h
  rcases hv with ⟨hv, rfl⟩ | ⟨g, cap, cur, hv, h1, h2, h3, h4, h5, h6⟩
  · omega
  · injection hv with hA _ hc
    subst hA
    have hb : Blk w g e cur.toList := by unfold Blk; rw [Array.toArray_toList]; exact h2
    refine ⟨g, cur.toList, rfl, h1, hb, by rw [Array.length_toList]; omega, fun j u hu => ?_⟩
    rw [hb.cell j]
    rw [← h6, List.getElem?_take] at hu
    split at hu
    · exact hu
    · cases hu
theorem OR.setI {w : World} {base n c g j : Nat} {e : TypeId} {xs : List Value} (h : OR w base e (some ⟨g, 0, none⟩) n c xs) (hj : j < n) (v : Value) : OR (w.setCell ⟨g, j, none⟩ v) base e (some ⟨g, 0, none⟩) n c (xs.set j v) := by
  obtain ⟨⟨hl, hv⟩, hn⟩ := h
  rcases hv with ⟨hv, _⟩ | ⟨q, cap, cur, hv, h1, h2, h3, h4, h5, h6⟩
  · cases hv
  · injection hv with hA _ hc
    injection hA with hA
    injection hA with hA
    subst hA hc
    refine ⟨⟨by simpa using hl, .inr ⟨g, c, cur.setIfInBounds j v, rfl, h1, ?_, h3, h4, by simpa using h5, ?_⟩⟩, hn⟩
    · obtain ⟨hlt, hk⟩ := Array.getElem?_eq_some_iff.1 h2
      show (w.heap.modify g _)[g]? = _
      rw [Array.getElem?_eq_getElem (by rw [Array.size_modify]; exact hlt), Array.getElem_modify_self, hk]
      simp
    · rw [← h6]
      simp [Array.toList_setIfInBounds, List.take_set]
theorem OR.one (w : World) (e : TypeId) (v : Value) : OR (w.alloc (.cells #[v] e)) w.heap.size e (some ⟨w.heap.size, 0, none⟩) 1 1 [v] :=
  ⟨⟨rfl, .inr ⟨w.heap.size, 1, #[v], rfl, Nat.le_refl _, World.alloc_heap_new w _, Nat.le_refl _, by simp [maxLen], rfl, rfl⟩⟩, fun e => (by cases e)⟩

def NumR (l : List UInt8) (w : World) (e : Ending) (w' : World) : Prop :=
  (areN l = true → ∃ A c, e = .returned (.tuple #[.slice A (numsT l).length c, .bool true]) ∧ OR w' w.heap.size 3 A (numsT l).length c (iv (numsT l))) ∧
  (areN l = false → e = .returned (.tuple #[.slice none 0 0, .bool false])) ∧ Below w.heap.size w w'
theorem areN_not {l : List UInt8} {k : Nat} (hk : k < l.length) (h : (l[k] == 59 || (48 ≤ l[k] && l[k] ≤ 57)) = false) : areN l = false := by
  unfold areN
  rw [List.all_eq_false]
  exact ⟨l[k], List.getElem_mem hk, by simpa using h⟩

set_option maxRecDepth 100000 in
set_option maxHeartbeats 8000000 in
theorem rnums_any (l : List UInt8) (hl : l.length ≤ 100) (A : Option Addr) (n cap : Nat) (hn : n = l.length) (w : World) (hS : Sl w w.heap.size A (bv l)) :
    Calls Tryz.prog 114 #[.slice A n cap] w fun e w' => NumR l w e w' := by
  have HN := Lib.hid hn
  have HS := Lib.hid hS
  have hn100 : n ≤ 100 := by omega
  have HO0 := Lib.hid (OR.one w 3 (.int .i64 0))
  have HB0 : Hid (Below w.heap.size w (w.alloc (.cells #[.int .i64 0] 3))) := Lib.hid ((Below.refl _ w).alloc (Nat.le_refl _) _)
  clear hn hS hl
  go_enter Tryz.func114, Tryz.ntmps114
  go_wp2_with (fail)
  go_loopw [4, 5] (fun v4 v5 wr => ∃ (k g c1 m : Nat), v5 = .int .i64 k ∧ k ≤ n ∧ areN (l.take k) = true ∧ m = (numsT (l.take k)).length ∧ v4 = .slice (some ⟨g, 0, none⟩) m c1 ∧ OR wr w.heap.size 3 (some ⟨g, 0, none⟩) m c1 (iv (numsT (l.take k))) ∧ Below w.heap.size w wr) (fun _ v5 _ => n - (intOf v5).toNat)
  case atStart => exact ⟨0, w.heap.size, 1, 1, rfl, by omega, rfl, rfl, rfl, HO0.out, HB0.out⟩
  case round =>
    clear HO0 HB0
    obtain ⟨k, g, c1, m, rfl, hk, har, hm, rfl, ho, hb⟩ := hrel
    obtain ⟨ys, z, h1, h2, h3⟩ := numsF_step (l.take k) 0
    have hrng := numsF_rng (l.take k) 0 (by omega) (by omega) har
    rw [h1] at hrng
    have hz := hrng z (by simp)
    have hml : m = ys.length + 1 := by rw [hm]; unfold numsT; rw [h1]; simp
    have hm100 : m ≤ 200 := by
      have hnl : ∀ (l : List UInt8) (n : Int), (numsF n l).length ≤ l.length + 1 := by
        intro l
        induction l with
        | nil => intro n; simp [numsF]
        | cons x t ih =>
          intro n
          unfold numsF
          split
          · have := ih 0; simp; omega
          · have := ih (min (n * 10 + ((x.toNat : Int) - 48)) 9999); simp; omega
      have := hnl (l.take k) 0
      rw [List.length_take] at this
      unfold numsT at hm
      omega
    have ho' : OR wr w.heap.size 3 (some ⟨g, 0, none⟩) m c1 (iv (ys ++ [z])) := by unfold numsT at ho; rw [h1] at ho; exact ho
    have OO := Lib.hid ho'
    have BB := Lib.hid hb
    have H2 := Lib.hid h2
    have H3 := Lib.hid h3
    have HM := Lib.hid hm
    have HAR := Lib.hid har
    have H1 := Lib.hid h1
    have HML := Lib.hid hml
    have hm1 : 1 ≤ m := by omega
    obtain ⟨hz0, hz1⟩ := hz
    clear ho ho' hb h1 h2 h3 hrng hm har hml
    by_cases hlt : k < n
    · have hki : (k : Int) < n := by omega
      have hkl : k < l.length := by have := HN.out; omega
      have htk : l.take (k + 1) = l.take k ++ [l[k]] := List.take_succ_eq_append_getElem hkl
      have hnt := areN_take hkl
      have hno : (l[k] == 59 || (48 ≤ l[k] && l[k] ≤ 57)) = false → areN l = false := areN_not hkl
      obtain ⟨b, off, hA, hbb, hcx⟩ := HS.out.open_ (by rw [bv_length]; omega)
      have hcb : wr.cell? ⟨b, off + k, none⟩ = some (.int .u8 (l[k]).toNat) := (BB.out.cell (p := ⟨b, off + k, none⟩) hbb).trans (hcx k _ (bv_get hkl))
      generalize l[k] = c at htk hnt hno hcb
      have hni := num_iff c
      have hcl : (c.toNat : Int) ≤ 255 := by have := c.toNat_lt; omega
      have HTK := Lib.hid htk
      have HNT := Lib.hid hnt
      have HNO := Lib.hid hno
      have HNI := Lib.hid hni
      subst hA
      clear htk hnt hno hni hcx hkl
      by_cases h59 : (c.toNat : Int) = 59
      · have hc59 : c = 59 := by apply UInt8.toNat_inj.1; show c.toNat = 59; omega
        have hd : ((c.toNat : Int) == 59) = true := by simpa using h59
        have HC := Lib.hid hc59
        clear h59 hc59
        go_wp2_with (at_builtin; refine wpList_app Tryz.underlying162 i64_info rfl (by omega) _ rfl (.tmp 23) (.tmp 24) rfl w.heap.size (some ⟨g, 0, none⟩) m c1 (iv (ys ++ [z])) rfl (OO.out.alloc _) (some ⟨wr.heap.size, 0, none⟩) 1 1 [.int .i64 0] (wr.heap.size + 1) rfl (Sl.new wr #[.int .i64 0] 3) rfl (fun h => by cases h) (by intro u hu; simp at hu; subst hu; rfl) (m + 1) rfl (by omega) (by have := BB.out.size; simp; omega) ?_; intro A2 c2 w2 hO2 hg2 hat2; have O2 := Lib.hid hO2; have B2 : Hid (Below w.heap.size w w2) := Lib.hid ((BB.out.alloc BB.out.size _).grown hg2 (by have := BB.out.size; simp; omega) (fun j hj => (OO.out.blk_lt j hj).1)); clear hO2 hg2 hat2)
        obtain ⟨g2, cur2, hA2, _⟩ := O2.out.some_ (by omega)
        subst hA2
        have hnn : numsT (l.take (k + 1)) = ys ++ [z] ++ [0] := by rw [HTK.out, HC.out]; exact H2.out
        have HNN := Lib.hid hnn
        clear hnn
        go_wp2
        go_roundw
        case rel =>
          refine ⟨k + 1, g2, c2, m + 1, by go_num, by omega, ?_, ?_, rfl, ?_, B2.out⟩
          · rw [HNT.out, HAR.out, HC.out]; rfl
          · rw [HNN.out]; have := HML.out; simp; omega
          · rw [HNN.out]; have := O2.out; simpa [iv] using this
        case measure => simp [intOf]; omega
      · have hd : ((c.toNat : Int) == 59) = false := by simpa using h59
        have hc59 : c ≠ 59 := fun e => h59 (by rw [e]; decide)
        have hq59 : decide ((c.toNat : Int) = 59) = false := by simpa using h59
        by_cases h48 : 48 ≤ (c.toNat : Int)
        · by_cases h57 : (c.toNat : Int) ≤ 57
          · have hnn : numsT (l.take (k + 1)) = ys ++ [min (z * 10 + ((c.toNat : Int) - 48)) 9999] := by rw [HTK.out]; exact H3.out c hc59
            have HNN := Lib.hid hnn
            have har2 : areN (l.take (k + 1)) = true := by rw [HNT.out, HAR.out, HNI.out]; simp [h48, h57]
            have HA2 := Lib.hid har2
            obtain ⟨v, hv⟩ : ∃ v, v = min (z * 10 + ((c.toNat : Int) - 48)) 9999 := ⟨_, rfl⟩
            have hvm : min 9999 (10 * z + ((c.toNat : Int) - 48)) = v := by omega
            have hv0 : 0 ≤ v ∧ v ≤ 9999 := by omega
            rw [← hv] at HNN
            obtain ⟨g', cur, hg', hgb, hbk, hcl2, hcc⟩ := OO.out.some_ (by omega)
            injection hg' with hg'
            injection hg' with hg'
            subst hg'
            obtain ⟨q, hq⟩ : ∃ q, q = ys.length := ⟨_, rfl⟩
            have hmq : (m : Int) - 1 = (q : Int) := by have := HML.out; omega
            have hqm : q < m := by have := HML.out; omega
            have hzc : wr.cell? ⟨g, q, none⟩ = some (.int .i64 z) := hcc q _ (by rw [hq]; simp [iv])
            have hfz : wr.frozen? ⟨g, q, none⟩ = false := hbk.frozen q
            have C0 := cell_regrown hzc
            have C1 := cell_regrown hcb
            have HQ := Lib.hid hq
            have HV := Lib.hid hv
            have HVM := Lib.hid hvm
            have hbt : Blk wr g 3 cur := hbk
            have HBK := Lib.hid hbt
            clear hnn har2 hv hbk hcc hq hbt hq59 hc59 h59 HNT HNI HNO
            go_upto_region 10 with (fail)
            refine wp_region_below_tail 16 (by kernel_rfl) (by kernel_rfl) ?_
            simp only [List.take_succ_cons, List.take_zero, List.drop_succ_cons, List.drop_zero]
            repeat (first
              | go_big_quiet_step (fail)
              | quiet_step (fail))
            refine wpQuiet_nil ?_
            intro _ hw'
            obtain ⟨⟨dq, osq⟩, hw''⟩ := hw'
            subst hw''
            have hb5 := below_regrown wr dq osq
            have hzc5 : (grow (redrawn wr dq) osq).cell? ⟨g, q, none⟩ = some (.int .i64 z) := (hb5.cell (p := ⟨g, q, none⟩) (World.block_lt_of_cell? _ _ hzc)).trans hzc
            have hfz5 : (grow (redrawn wr dq) osq).frozen? ⟨g, q, none⟩ = false := (HBK.out.below hb5 HBK.out.lt).frozen q
            have HB5 := Lib.hid hb5
            clear C0 C1 hb5 hzc hfz
            generalize grow (redrawn wr dq) osq = w5 at HB5 hzc5 hfz5 ⊢
            go_wp2
            have hO5 := ((OO.out.below HB5.out (fun j hj => (OO.out.blk_lt j hj).2)).setI hqm (.int .i64 v))
            have hset : (iv (ys ++ [z])).set q (.int .i64 v) = iv (ys ++ [v]) := by rw [HQ.out]; simp [iv]
            rw [hset] at hO5
            have hB6 : Below w.heap.size w (w5.setCell ⟨g, q, none⟩ (.int .i64 v)) := (BB.out.trans (HB5.out.mono BB.out.size)).setCell (p := ⟨g, q, none⟩) hgb _
            have O5 := Lib.hid hO5
            have B6 := Lib.hid hB6
            clear hset hO5 hB6 hzc5 hfz5
            go_roundw
            case rel => exact ⟨k + 1, g, c1, m, by go_num, by omega, HA2.out, by rw [HNN.out]; have := HML.out; simp; omega, rfl, by rw [HNN.out]; exact O5.out, B6.out⟩
            case measure => simp [intOf]; omega
          · have hnn : areN l = false := HNO.out (by rw [HNI.out]; simp [h57]; omega)
            have HNN := Lib.hid hnn
            clear hnn HNO HNI HNT hq59 hc59
            go_wp2
            go_ret2
            exact ⟨fun e => (by rw [HNN.out] at e; cases e), fun _ => rfl, BB.out⟩
        · have hnn : areN l = false := HNO.out (by rw [HNI.out]; simp [h48]; omega)
          have HNN := Lib.hid hnn
          clear hnn HNO HNI HNT hq59 hc59
          go_wp2
          go_ret2
          exact ⟨fun e => (by rw [HNN.out] at e; cases e), fun _ => rfl, BB.out⟩
    · have hki : ¬ (k : Int) < n := by omega
      obtain rfl : k = n := by omega
      have htk : l.take k = l := List.take_of_length_le (by have := HN.out; omega)
      have har := HAR.out
      have hmm := HM.out
      have h1 := H1.out
      rw [htk] at har hmm h1
      have HA := Lib.hid har
      have HMM := Lib.hid hmm
      have HH := Lib.hid h1
      clear har hmm h1 htk
      go_wp2
      go_ret2
      refine ⟨fun _ => ⟨some ⟨g, 0, none⟩, c1, by rw [← HMM.out]; rfl, ?_⟩, fun e => (by rw [HA.out] at e; cases e), BB.out⟩
      rw [← HMM.out]
      have : numsT l = ys ++ [z] := HH.out
      rw [this]
      exact OO.out
end Go.Proofs.YtfmkeeaenjeneaaGreatDoor
