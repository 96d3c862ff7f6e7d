/-
  Walks: behind, number; the undecoded bytes.
-/
import Derived.Test.YteolafeeggjblaaDoorKnFns
import Derived.Lib.Strings
import Derived.Test.YteolafeeggjblaaDoorRegT
namespace Go.Proofs.YteolafeeggjblaaDoor
open Go.RowKit
set_option linter.unusedVariables false
set_option linter.unusedSimpArgs false

theorem kspan_yes {p : UInt8 → Bool} {l : List UInt8} {k : Nat} (h : k < l.length) (hp : p l[k] = true) : spanK p (l.drop k) = spanK p (l.drop (k + 1)) + 1 := by
  unfold spanK
  rw [List.drop_eq_getElem_cons h, List.takeWhile_cons, if_pos hp, List.length_cons]
theorem kspan_no {p : UInt8 → Bool} {l : List UInt8} {k : Nat} (h : k < l.length) (hp : p l[k] = false) : spanK p (l.drop k) = 0 := by
  unfold spanK
  rw [List.drop_eq_getElem_cons h, List.takeWhile_cons, if_neg (by rw [hp]; decide)]
  rfl
theorem kspan_end {p : UInt8 → Bool} {l : List UInt8} {k : Nat} (h : l.length ≤ k) : spanK p (l.drop k) = 0 := by
  rw [List.drop_eq_nil_of_le h]; rfl
theorem beh_le (s : List UInt8) (a : Nat) (h : a ≤ s.length) (p : UInt8 → Bool) : a ≤ behK s a p ∧ behK s a p ≤ s.length := by
  unfold behK spanK
  have h1 := (List.takeWhile_prefix p (l := s.drop a)).length_le
  rw [List.length_drop] at h1
  exact ⟨by omega, by omega⟩
/-- the bytes from one to another -/
def inK (lo hi c : UInt8) : Bool := lo ≤ c && c ≤ hi
theorem inK_iff (lo hi c : UInt8) : inK lo hi c = (decide ((lo.toNat : Int) ≤ (c.toNat : Int)) && decide ((c.toNat : Int) ≤ (hi.toNat : Int))) := by
  unfold inK
  rw [Bool.eq_iff_iff]
  simp [UInt8.le_iff_toNat_le]
theorem kbd (c : UInt8) : 0 ≤ (c.toNat : Int) ∧ (c.toNat : Int) ≤ 255 := by
  have := c.toNat_lt
  omega

set_option maxRecDepth 100000 in
set_option maxHeartbeats 4000000 in
theorem behind_any (l : List UInt8) (hl : l.length ≤ 1000000) (a : Nat) (ha : a ≤ l.length) (lo hi : UInt8) (w : World) :
    Calls Tryd.prog 63 #[.string ⟨l.toArray⟩, .int .i64 a, .int .u8 lo.toNat, .int .u8 hi.toNat] w fun e w' => e = .returned (.int .i64 (behK l a (inK lo hi))) ∧ w = w' := by
  obtain ⟨s, hs⟩ : ∃ s : ByteArray, s = ⟨l.toArray⟩ := ⟨_, rfl⟩
  have hsz : s.size = l.length := by rw [hs]; simp [ByteArray.size]
  have HG := Lib.hid (show ∀ (k : Nat) (hk : k < l.length) (h : k < s.size), s[k] = l[k] by intro k hk h; subst hs; rfl)
  rw [← hs]
  clear hs
  obtain ⟨R, hR⟩ : ∃ R, R = behK l a (inK lo hi) := ⟨_, rfl⟩
  rw [← hR]
  have HR := Lib.hid hR
  clear hR
  have HI := Lib.hid (inK_iff lo hi)
  have hlo := kbd lo
  have hhi := kbd hi
  generalize hP : inK lo hi = P at HR HI
  clear hP
  generalize (lo.toNat : Int) = lw at hlo HI ⊢
  generalize (hi.toNat : Int) = hw at hhi HI ⊢
  go_enter Tryd.func63, Tryd.ntmps63
  go_wp2
  go_loop [1] (fun v1 => ∃ k : Nat, v1 = .int .i64 (k : Int) ∧ k ≤ l.length ∧ R = k + spanK P (l.drop k)) (fun v1 => l.length - (intOf v1).toNat)
  case atStart => exact ⟨a, rfl, ha, HR.out⟩
  case round =>
    obtain ⟨k, rfl, hk, hs⟩ := hrel
    have HS := Lib.hid hs
    clear hs
    by_cases hlt : k < l.length
    · have hki : (k : Int) < (s.size : Int) := by omega
      have hg := HG.out k hlt (by omega)
      have HN := Lib.hid (kspan_no (p := P) hlt)
      have HY := Lib.hid (kspan_yes (p := P) hlt)
      have hbd := kbd l[k]
      have HJ := Lib.hid (HI.out l[k])
      generalize l[k] = c at hg HN HY hbd HJ
      by_cases h1 : lw ≤ (c.toNat : Int)
      · by_cases h2 : (c.toNat : Int) ≤ hw
        · have HX := Lib.hid (show R = (k + 1) + spanK P (l.drop (k + 1)) by rw [HS.out, HY.out (by rw [HJ.out]; simp [h1, h2])]; omega)
          go_wp2
          go_round
          case rel => exact ⟨k + 1, by go_num, by omega, HX.out⟩
          case measure => simp [intOf]; omega
        · have HX := Lib.hid (show R = k by rw [HS.out, HN.out (by rw [HJ.out]; simp [h2]), Nat.add_zero])
          go_wp2
          go_ret
          exact ⟨by rw [HX.out]; rfl, rfl⟩
      · have HX := Lib.hid (show R = k by rw [HS.out, HN.out (by rw [HJ.out]; simp [h1]), Nat.add_zero])
        go_wp2
        go_ret
        exact ⟨by rw [HX.out]; rfl, rfl⟩
    · have hki : ¬ (k : Int) < (s.size : Int) := by omega
      have HX := Lib.hid (show R = k by rw [HS.out, kspan_end (by omega), Nat.add_zero])
      go_wp2
      go_ret
      exact ⟨by rw [HX.out]; rfl, rfl⟩

theorem dg_iff (c : UInt8) : isDg c = (decide (48 ≤ (c.toNat : Int)) && decide ((c.toNat : Int) ≤ 57)) := by
  unfold isDg
  rw [Bool.eq_iff_iff]
  simp [UInt8.le_iff_toNat_le]
  omega
theorem numD_no {d : List UInt8} {k : Nat} (hk : k < d.length) (h : isDg d[k] = false) : numD d = none := by
  unfold numD
  rw [if_neg (by rintro rfl; simp at hk)]
  by_cases h4 : 4 < d.length
  · rw [if_pos h4]
  · rw [if_neg h4, if_neg]
    intro ha
    rw [List.all_eq_true] at ha
    rw [ha _ (List.getElem_mem hk)] at h
    cases h
theorem numD_yes {d : List UInt8} {n : Int} (hd : d ≠ []) (h4 : d.length ≤ 4) (ha : (d.take d.length).all isDg = true) (hv : valD n (d.drop d.length) = valD 0 d) : numD d = some n := by
  unfold numD
  rw [List.take_length] at ha
  rw [List.drop_length] at hv
  rw [if_neg hd, if_neg (by omega), if_pos ha, ← hv]
  rfl
theorem val_step {d : List UInt8} {k : Nat} {n : Int} (hk : k < d.length) : valD n (d.drop k) = valD (n * 10 + ((d[k].toNat : Int) - 48)) (d.drop (k + 1)) := by
  rw [List.drop_eq_getElem_cons hk, valD]
theorem all_step {d : List UInt8} {k : Nat} (hk : k < d.length) (ha : (d.take k).all isDg = true) (h : isDg d[k] = true) : (d.take (k + 1)).all isDg = true := by
  rw [List.take_succ_eq_append_getElem hk, List.all_append, ha]
  simp [h]

set_option maxRecDepth 100000 in
set_option maxHeartbeats 4000000 in
theorem number_any (d : List UInt8) (hl : d.length ≤ 1000000) (w : World) :
    Calls Tryd.prog 87 #[.string ⟨d.toArray⟩] w fun e w' => e = .returned (.tuple #[.int .i64 ((numD d).getD 0), .bool (numD d).isSome]) ∧ w = w' := by
  by_cases h0 : d = []
  · subst h0
    have HE : Hid (numD [] = some 1) := Lib.hid rfl
    rw [HE.out]
    go_enter Tryd.func87, Tryd.ntmps87
    go_wp2
    go_ret2
    exact ⟨rfl, rfl⟩
  obtain ⟨s, hs⟩ : ∃ s : ByteArray, s = ⟨d.toArray⟩ := ⟨_, rfl⟩
  have hsz : s.size = d.length := by rw [hs]; simp [ByteArray.size]
  have hE : s.toList = d := by rw [hs, Lib.toList_data]
  have hE1 : s.toList.isEmpty = false := by rw [hE]; cases d with
    | nil => exact absurd rfl h0
    | cons => rfl
  have hE2 : ¬ s.toList = [] := by rw [hE]; exact h0
  clear hE
  have HG := Lib.hid (show ∀ (k : Nat) (hk : k < d.length) (h : k < s.size), s[k] = d[k] by intro k hk h; subst hs; rfl)
  rw [← hs]
  clear hs
  by_cases h4 : 4 < d.length
  · have HE : Hid (numD d = none) := Lib.hid (by unfold numD; rw [if_neg h0, if_pos h4])
    rw [HE.out]
    have h4' : 4 < (s.size : Int) := by omega
    go_enter Tryd.func87, Tryd.ntmps87
    go_wp2
    go_ret2
    exact ⟨rfl, rfl⟩
  have h4' : ¬ 4 < (s.size : Int) := by omega
  have H0 := Lib.hid h0
  clear h0
  obtain ⟨R, hR⟩ : ∃ R, R = numD d := ⟨_, rfl⟩
  rw [← hR]
  have HR := Lib.hid hR
  clear hR
  go_enter Tryd.func87, Tryd.ntmps87
  go_wp2
  go_loop [2, 12] (fun v2 v12 => ∃ (k : Nat) (n : Int), v12 = .int .i64 (k : Int) ∧ v2 = .int .i64 n ∧ k ≤ d.length ∧ 0 ≤ n ∧ ((k = 0 ∧ n = 0) ∨ (k = 1 ∧ n ≤ 9) ∨ (k = 2 ∧ n ≤ 99) ∨ (k = 3 ∧ n ≤ 999) ∨ (k = 4 ∧ n ≤ 9999)) ∧ Hid ((d.take k).all isDg = true) ∧ Hid (valD n (d.drop k) = valD 0 d)) (fun _ v12 => d.length - (intOf v12).toNat)
  case atStart => exact ⟨0, 0, rfl, rfl, by omega, by omega, .inl ⟨rfl, rfl⟩, Lib.hid rfl, Lib.hid rfl⟩
  case round =>
    obtain ⟨k, n, rfl, rfl, hk, hn0, hn9, HA, HV⟩ := hrel
    by_cases hlt : k < d.length
    · have hki : (k : Int) < (s.size : Int) := by omega
      have hg := HG.out k hlt (by omega)
      have hbd := kbd d[k]
      have HJ := Lib.hid (dg_iff d[k])
      have HN := Lib.hid (fun h => numD_no hlt h)
      have HW := Lib.hid (val_step (n := n) hlt)
      have HB := Lib.hid (fun h => all_step hlt HA.out h)
      have hn4 : n ≤ 999 := by omega
      have HN9 := Lib.hid hn9
      clear hn9
      generalize d[k] = c at hg hbd HJ HN HW HB
      by_cases h1 : (c.toNat : Int) < 48
      · have HE : Hid (R = none) := Lib.hid (by rw [HR.out]; exact HN.out (by rw [HJ.out]; simp; omega))
        go_wp2
        go_ret2
        exact ⟨by rw [HE.out]; rfl, rfl⟩
      · by_cases h2 : 57 < (c.toNat : Int)
        · have HE : Hid (R = none) := Lib.hid (by rw [HR.out]; exact HN.out (by rw [HJ.out]; simp; omega))
          go_wp2
          go_ret2
          exact ⟨by rw [HE.out]; rfl, rfl⟩
        · have HD : Hid (isDg c = true) := Lib.hid (by rw [HJ.out]; simp; omega)
          have e1 : IntKind.u8.wrap ((c.toNat : Int) - 48) = (c.toNat : Int) - 48 := IntWalk.u8_in _ (by omega)
          go_wp2
          go_round
          case rel => exact ⟨k + 1, n * 10 + ((c.toNat : Int) - 48), by go_num, by go_num, by omega, by omega, by have := HN9.out; omega, Lib.hid (HB.out HD.out), Lib.hid (by rw [← HW.out, HV.out])⟩
          case measure => simp [intOf]; omega
    · have hki : ¬ (k : Int) < (s.size : Int) := by omega
      obtain rfl : k = d.length := by omega
      have HE : Hid (R = some n) := Lib.hid (by rw [HR.out]; exact numD_yes H0.out (by omega) HA.out HV.out)
      go_wp2
      go_ret2
      exact ⟨by rw [HE.out]; rfl, rfl⟩
theorem val_bd : ∀ (d : List UInt8) (m : Int), 0 ≤ m → d.all isDg = true → 0 ≤ valD m d ∧ valD m d + 1 ≤ (m + 1) * 10 ^ d.length := by
  intro d
  induction d with
  | nil => intro m h _; exact ⟨h, by simp [valD]⟩
  | cons c t ih =>
    intro m h ha
    rw [List.all_cons, Bool.and_eq_true] at ha
    have hc := dg_iff c
    rw [ha.1] at hc
    have hc' := (Bool.and_eq_true _ _ ▸ hc.symm : _)
    simp at hc'
    have := ih (m * 10 + ((c.toNat : Int) - 48)) (by omega) ha.2
    refine ⟨this.1, Int.le_trans this.2 ?_⟩
    rw [List.length_cons, Int.pow_succ, Int.mul_comm (10 ^ t.length) 10, ← Int.mul_assoc]
    exact Int.mul_le_mul_of_nonneg_right (by omega) (Int.pow_nonneg (by omega))
theorem numD_bd {d : List UInt8} {n : Int} (h : numD d = some n) : 0 ≤ n ∧ n ≤ 9999 := by
  unfold numD at h
  by_cases h0 : d = []
  · rw [if_pos h0] at h; injection h with h; omega
  rw [if_neg h0] at h
  by_cases h4 : 4 < d.length
  · rw [if_pos h4] at h; cases h
  rw [if_neg h4] at h
  by_cases ha : d.all isDg = true
  · rw [if_pos ha] at h
    injection h with h
    have hb := val_bd d 0 (by omega) ha
    rw [h] at hb
    refine ⟨hb.1, ?_⟩
    have : d.length = 0 ∨ d.length = 1 ∨ d.length = 2 ∨ d.length = 3 ∨ d.length = 4 := by omega
    rcases this with e | e | e | e | e <;> rw [e] at hb <;> have := hb.2 <;> simp at this <;> omega
  · rw [if_neg ha] at h; cases h
theorem numsA_bd : ∀ (L : List (List UInt8)) (acc : List Int), (∀ n ∈ acc, 0 ≤ n ∧ n ≤ 9999) → acc.length ≤ 2 → (∀ n ∈ numsA acc L, 0 ≤ n ∧ n ≤ 9999) ∧ (numsA acc L).length ≤ 2 := by
  intro L
  induction L with
  | nil => intro acc h h2; exact ⟨h, h2⟩
  | cons d ds ih =>
    intro acc h h2
    rw [numsA]
    cases hd : numD d with
    | none => exact ⟨by simp, by simp⟩
    | some n =>
      simp only
      by_cases e : acc.length = 2
      · rw [if_pos e]; exact ⟨by simp, by simp⟩
      · rw [if_neg e]
        refine ih _ ?_ (by simp; omega)
        intro m hm
        rw [List.mem_append] at hm
        rcases hm with hm | hm
        · exact h m hm
        · simp at hm; subst hm; exact numD_bd hd
theorem nums_bd (p : List UInt8) : (∀ n ∈ numsK p, 0 ≤ n ∧ n ≤ 9999) ∧ (numsK p).length ≤ 2 := numsA_bd _ [] (by simp) (by simp)

/-- a decoder in memory: its own place, its undecoded bytes, its paste -/
def DCells (D : Nat) (s : List UInt8) (q : Value) : List Value := [.pointer (some ⟨D, 0, none⟩), .string ⟨s.toArray⟩, q]
abbrev DBlk (w : World) (D : Nat) (s : List UInt8) (q : Value) : Prop := Blk w D 45 (DCells D s q)

set_option maxHeartbeats 1000000 in
theorem waiting_any (D : Nat) (s : List UInt8) (q : Value) (w : World) (h : DBlk w D s q) :
    Calls Tryd.prog 41 #[.pointer (some ⟨D, 1, none⟩)] w fun e w' => e = .returned (.string ⟨s.toArray⟩) ∧ w = w' := by
  have hx : w.cell? ⟨D, 1, none⟩ = some (.string ⟨s.toArray⟩) := h.cell 1
  clear h
  go_enter Tryd.func41, Tryd.ntmps41
  go_wp2
  go_ret
  exact ⟨rfl, rfl⟩
set_option maxHeartbeats 1000000 in
theorem count_any (D : Nat) (s : List UInt8) (q : Value) (w : World) (h : DBlk w D s q) :
    Calls Tryd.prog 22 #[.pointer (some ⟨D, 1, none⟩)] w fun e w' => e = .returned (.int .i64 s.length) ∧ w = w' := by
  obtain ⟨b, hb⟩ : ∃ b : ByteArray, b = ⟨s.toArray⟩ := ⟨_, rfl⟩
  have hx : w.cell? ⟨D, 1, none⟩ = some (.string b) := by rw [hb]; exact h.cell 1
  have hsz : b.size = s.length := by rw [hb]; simp [ByteArray.size]
  clear hb
  go_enter Tryd.func22, Tryd.ntmps22
  go_wp2
  refine bodyPost_ret (v := .int .i64 s.length) (by simp [results, Tryd.results22, go_sem]) rfl ⟨rfl, rfl⟩
set_option maxHeartbeats 2000000 in
theorem remove_any (D : Nat) (s : List UInt8) (q : Value) (n : Nat) (hn : n ≤ s.length) (hs : s.length ≤ 1000000) (w : World) (h : DBlk w D s q) :
    Calls Tryd.prog 26 #[.pointer (some ⟨D, 1, none⟩), .int .i64 n] w fun e w' => e = .returned (.string ⟨(s.take n).toArray⟩) ∧ DBlk w' D (s.drop n) q ∧ Chg (one D) w w' := by
  obtain ⟨b, hb⟩ : ∃ b : ByteArray, b = ⟨s.toArray⟩ := ⟨_, rfl⟩
  have hx : w.cell? ⟨D, 1, none⟩ = some (.string b) := by rw [hb]; exact h.cell 1
  have hf := h.frozen 1
  have hsz : b.size = s.length := by rw [hb]; simp [ByteArray.size]
  have H1 := Lib.hid (show b.extract 0 n = ⟨(s.take n).toArray⟩ by rw [hb]; apply ByteArray.ext; simp [ByteArray.data_extract])
  have H2 := Lib.hid (show b.extract n s.length = ⟨(s.drop n).toArray⟩ by rw [hb]; apply ByteArray.ext; simp [ByteArray.data_extract]; try exact List.take_of_length_le (by simp))
  have hni : (n : Int) ≤ (b.size : Int) := by omega
  have HH := Lib.hid h
  clear hb h
  go_enter Tryd.func26, Tryd.ntmps26
  go_wp2
  go_ret
  refine ⟨by rw [H1.out]; rfl, ?_, ?_⟩
  · have := HH.out.set_ 1 (.string (b.extract n s.length))
    rw [H2.out] at this ⊢
    exact this
  · exact Chg.setCell (S := one D) (Chg.refl _ _) (p := ⟨D, 1, none⟩) (.inl rfl) _
set_option maxHeartbeats 2000000 in
theorem add_any (D : Nat) (s : List UInt8) (q : Value) (c : UInt8) (hs : s.length ≤ 1000000) (w : World) (h : DBlk w D s q) :
    Calls Tryd.prog 39 #[.pointer (some ⟨D, 1, none⟩), .int .u8 c.toNat] w fun e w' => e = .returned (.tuple #[]) ∧ DBlk w' D (s ++ [c]) q ∧ Chg (one D) w w' := by
  obtain ⟨b, hb⟩ : ∃ b : ByteArray, b = ⟨s.toArray⟩ := ⟨_, rfl⟩
  have hx : w.cell? ⟨D, 1, none⟩ = some (.string b) := by rw [hb]; exact h.cell 1
  have hf := h.frozen 1
  have hsz : b.size = s.length := by rw [hb]; simp [ByteArray.size]
  have H1 := Lib.hid (show b ++ ⟨#[c]⟩ = ⟨(s ++ [c]).toArray⟩ by rw [hb]; apply ByteArray.ext; simp)
  have HCV : ∀ W : World, Hid (Sem.run Tryd.prog (Go.convert 22 9 (.slice (some ⟨W.heap.size, 0, none⟩) 1 1)) (W.alloc (.cells #[.int .u8 (c.toNat : Int)] 5)) = .ok (.string ⟨#[c]⟩) (W.alloc (.cells #[.int .u8 (c.toNat : Int)] 5))) := fun W => Lib.hid (run_str_sl _ (W.heap.size + 1) _ 1 1 [c] (Sl.new _ _ _) rfl)
  have HH := Lib.hid h
  go_enter Tryd.func39, Tryd.ntmps39
  clear HCV
  have hcv : Sem.run Tryd.prog (Go.convert 22 9 (.slice (some ⟨w.heap.size, 0, none⟩) 1 1)) (w.alloc (.cells #[.int .u8 (c.toNat : Int)] 5)).drew = .ok (.string ⟨#[c]⟩) (w.alloc (.cells #[.int .u8 (c.toNat : Int)] 5)).drew := run_str_sl _ (w.heap.size + 1) _ 1 1 [c] (show Sl (w.alloc (.cells #[.int .u8 (c.toNat : Int)] 5)).drew _ _ _ from Sl.new _ _ _) rfl
  have hB := h.alloc (.cells #[.int .u8 (c.toNat : Int)] 5)
  have hx2 : ((w.alloc (.cells #[.int .u8 (c.toNat : Int)] 5)).drew).cell? ⟨D, 1, none⟩ = some (.string b) := by rw [hb]; exact hB.cell 1
  have hf2 : ((w.alloc (.cells #[.int .u8 (c.toNat : Int)] 5)).drew).frozen? ⟨D, 1, none⟩ = false := hB.frozen 1
  have hno : ¬ 9223372036854775807 < s.length + 1 := by omega
  have HB := Lib.hid hB
  clear hb h hB
  go_region
  go_end0
  refine ⟨rfl, ?_, ?_⟩
  · rw [H1.out]
    exact HB.out.set_ 1 _
  · exact (Chg.setCell (S := one D) ((Chg.refl _ w).alloc _) (p := ⟨D, 1, none⟩) (.inl rfl) _).drew
end Go.Proofs.YteolafeeggjblaaDoor
