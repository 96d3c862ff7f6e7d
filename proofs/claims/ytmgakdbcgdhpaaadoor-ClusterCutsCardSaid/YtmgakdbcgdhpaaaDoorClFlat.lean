/-
  Walks: cluster.Flat, cluster.Join.
-/
import Derived.Test.YtmgakdbcgdhpaaaDoorClCut
import Derived.Test.YtmgakdbcgdhpaaaDoorClFitM
namespace Go.Proofs.YtmgakdbcgdhpaaaDoor
open Go.RowKit Go.Shelf
set_option linter.unusedVariables false

def fl1 (b : UInt8) : UInt8 := if b = 9 ∨ b = 10 ∨ b = 13 then 32 else b
def mix (l : List UInt8) (k : Nat) : List UInt8 := (l.take k).map fl1 ++ l.drop k
theorem mix_zero (l : List UInt8) : mix l 0 = l := by simp [mix]
theorem mix_end (l : List UInt8) (k : Nat) (h : l.length ≤ k) : mix l k = l.map fl1 := by
  unfold mix; rw [List.take_of_length_le h, List.drop_eq_nil_of_le h, List.append_nil]
theorem mix_length (l : List UInt8) (k : Nat) : (mix l k).length = l.length := by simp [mix]; omega
theorem mix_at (l : List UInt8) (k : Nat) (h : k < l.length) : (mix l k)[k]? = some l[k] := by
  unfold mix
  rw [List.getElem?_append_right (by simp; omega)]
  simp
  rw [Nat.min_eq_left (by omega)]
  simp [h]
theorem mix_succ (l : List UInt8) (k : Nat) (h : k < l.length) : mix l (k + 1) = (mix l k).set k (fl1 l[k]) := by
  unfold mix
  have e : (l.drop k).set (k - ((l.take k).map fl1).length) (fl1 l[k]) = fl1 l[k] :: l.drop (k + 1) := by
    have h0 : k - ((l.take k).map fl1).length = 0 := by simp; omega
    rw [h0, List.drop_eq_getElem_cons h]; rfl
  rw [List.take_succ_eq_append_getElem h, List.map_append, List.set_append_right _ _ (by simp; omega), e]
  simp
theorem fl1_no (b : UInt8) (h1 : (b.toNat : Int) ≠ 9) (h2 : (b.toNat : Int) ≠ 10) (h3 : (b.toNat : Int) ≠ 13) : fl1 b = b := by
  unfold fl1
  rw [if_neg]
  rintro (h | h | h) <;> subst h <;> simp at h1 h2 h3
theorem fl1_yes (b : UInt8) (h : (b.toNat : Int) = 9 ∨ (b.toNat : Int) = 10 ∨ (b.toNat : Int) = 13) : fl1 b = 32 := by
  unfold fl1
  rw [if_pos]
  rcases h with h | h | h
  · exact .inl (UInt8.toNat_inj.1 (by simp; omega))
  · exact .inr (.inl (UInt8.toNat_inj.1 (by simp; omega)))
  · exact .inr (.inr (UInt8.toNat_inj.1 (by simp; omega)))
theorem mix_keep (l : List UInt8) (k : Nat) (h : k < l.length) (he : fl1 l[k] = l[k]) : mix l (k + 1) = mix l k := by
  rw [mix_succ l k h, he]
  refine List.ext_getElem? fun j => ?_
  rw [List.getElem?_set]
  split
  · next e => subst e; rw [if_pos (by rw [mix_length]; exact h), mix_at l k h]
  · rfl

/-- A row that may be written. -/
def Wr (w : World) (g : Nat) (l : List UInt8) : Prop := (∀ j u, (bv l)[j]? = some u → w.cell? ⟨g, j, none⟩ = some u) ∧ ∀ j, j < l.length → w.frozen? ⟨g, j, none⟩ = false
theorem Wr.set {w : World} {g : Nat} {l : List UInt8} (h : Wr w g l) (k : Nat) (hk : k < l.length) (b : UInt8) : Wr (w.setCell ⟨g, k, none⟩ (.int .u8 b.toNat)) g (l.set k b) := by
  refine ⟨fun j u hu => ?_, fun j hj => ?_⟩
  · have hj : j < l.length := by have := (List.getElem?_eq_some_iff.1 hu).1; simpa [bv] using this
    by_cases e : k = j
    · subst e
      have : (l.set k b)[k]? = some b := by simp [hk]
      simp only [bv, List.getElem?_map, this] at hu
      have hc := h.1 k _ (bv_get hk)
      rw [World.cell?_setCell_same' _ _ _ (by rw [hc]; rfl)]
      exact hu
    · rw [World.cell?_setCell_other _ _ _ _ (by simp <;> omega)]
      refine h.1 j u ?_
      simp only [bv, List.getElem?_map, List.getElem?_set, if_neg e] at hu ⊢
      exact hu
  · rw [World.frozen?_setCell]
    exact h.2 j (by simpa using hj)
theorem Wr.sl {w : World} {g : Nat} {l : List UInt8} (h : Wr w g l) : Sl w (g + 1) (some ⟨g, 0, none⟩) (bv l) := .inr ⟨g, 0, rfl, by omega, fun j u hu => by rw [Nat.zero_add]; exact h.1 j u hu⟩
theorem Wr.new (w : World) (s : ByteArray) (c : Nat) (hc : s.size ≤ c) (t : TypeId) (fr : Nat × Nat) (hfr : c ≤ fr.1) : Wr (w.alloc (.cells (bytesRow s c) t fr)) w.heap.size s.data.toList := by
  refine ⟨fun j u hu => ?_, fun j hj => ?_⟩
  · have := sl_bytesRow w s c t fr
    rcases this with h | ⟨b, off, hb, _, hcell⟩
    · rw [h] at hu; simp at hu
    · injection hb with hb
      injection hb with h1 h2
      subst h1; subst h2
      have := hcell j u hu
      rwa [Nat.zero_add] at this
  · obtain ⟨lo, hi⟩ := fr
    rw [World.frozen?_alloc_mark]
    have : j < s.size := by simpa using hj
    simp at hfr ⊢
    omega

/-- '[]byte(s)', a row that may be written. -/
theorem run_bytes_wr (w : World) (s : ByteArray) (hs : s.size ≤ maxLen) : ∃ c w', Sem.run Tryd.prog (Go.convert 9 66 (.string s)) w = .ok (.slice (some ⟨w.heap.size, 0, none⟩) s.size c) w' ∧ s.size ≤ c ∧ c ≤ maxLen ∧ Wr w' w.heap.size s.data.toList ∧ Below w.heap.size w w' ∧ w.heap.size < w'.heap.size := by
  have hge := grownCap_ge w s.size 0 5
  refine ⟨grownCap w s.size 0 5, _, run_bytes_of_string w 9 66 5 s Tryd.underlying9 Tryd.underlying66 Tryd.underlying5, hge, grownCap_le_maxLen _ _ _ _ hs, ?_, ((Below.refl _ _).drew).alloc (Nat.le_refl _) _, ?_⟩
  · have := Wr.new w.drew s (grownCap w s.size 0 5) hge 5 ((bytesRow s (grownCap w s.size 0 5)).size, (bytesRow s (grownCap w s.size 0 5)).size + 1) (by simp [bytesRow]; have : s.data.size = s.size := rfl; omega)
    exact this
  · show w.heap.size < (w.drew.alloc _).heap.size
    rw [World.size_alloc]
    exact Nat.lt_succ_self _

def flatB (l : List UInt8) : List UInt8 := cleanB (l.map fl1)

set_option maxRecDepth 100000 in
set_option maxHeartbeats 2000000 in
theorem cflat_any (s : ByteArray) (hs : s.size ≤ 10000) (w : World) (hT : Tabs w) :
    Calls Tryd.prog 44 #[.string s] w fun e w' => e = .returned (.string ⟨(flatB s.data.toList).toArray⟩) ∧ Below w.heap.size w w' := by
  have HT := Lib.hid hT
  clear hT
  obtain ⟨c, w1, hcv, hc1, hc2, hw, hb1, hz1⟩ := run_bytes_wr w s (by simp only [maxLen]; omega)
  generalize hL : s.data.toList = L at hw
  have hLs : L.length = s.size := by rw [← hL]; rfl
  have HL := Lib.hid hL
  have HLS := Lib.hid hLs
  have HW := Lib.hid hw
  clear hL hLs hw hc1 hc2
  go_enter Tryd.func44, Tryd.ntmps44
  go_wp2
  clear hcv
  go_loopw [10] (fun i wr => ∃ k : Nat, k ≤ s.size ∧ i = .int .i64 k ∧ Wr wr w.heap.size (mix L k) ∧ Below w.heap.size w wr ∧ w1.heap.size ≤ wr.heap.size) (fun i _ => s.size - (intOf i).toNat)
  case atStart => exact ⟨0, by omega, rfl, by rw [mix_zero]; exact HW.out, hb1, Nat.le_refl _⟩
  case round =>
    obtain ⟨k, hk, rfl, hwr, hbw, hzz⟩ := hrel
    have HWR := Lib.hid hwr
    by_cases hlt : k < s.size
    · have hkl : k < L.length := by have := HLS.out; omega
      have hlt' : (k : Int) < (s.size : Int) := by omega
      have hcell := hwr.1 k (.int .u8 L[k].toNat) (by simp only [bv, List.getElem?_map, mix_at L k hkl]; rfl)
      have hfz := hwr.2 k (by rw [mix_length]; exact hkl)
      have hno := fl1_no L[k]
      have hyes := fl1_yes L[k]
      have hkeep := mix_keep L k hkl
      have hsucc := mix_succ L k hkl
      have hset := hwr.set k (by rw [mix_length]; exact hkl) 32
      generalize L[k] = b at hcell hno hyes hkeep hsucc
      have HNO := Lib.hid hno
      have HYES := Lib.hid hyes
      have HKE := Lib.hid hkeep
      have HSU := Lib.hid hsucc
      have HSE := Lib.hid hset
      clear hno hyes hkeep hsucc hset hwr
      have hbu : 0 ≤ (b.toNat : Int) := by omega
      by_cases h9 : (b.toNat : Int) = 9
      · have HS2 : Hid (mix L (k + 1) = (mix L k).set k 32) := by rw [HSU.out, HYES.out (.inl h9)]; simp [Hid]
        rw [h9] at hcell
        clear h9
        go_wp2
        go_roundw
        case rel => exact ⟨k + 1, by omega, by go_num, by rw [HS2.out]; exact HSE.out, hbw.setCell (p := ⟨w.heap.size, k, none⟩) (Nat.le_refl _) _, by have := (KeepsWalks.setCell wr ⟨w.heap.size, k, none⟩ (.int .u8 32)).size; omega⟩
        case measure => simp [intOf]; omega
      · have hd9 : ((b.toNat : Int) == 9) = false := by simp; omega
        by_cases h10 : (b.toNat : Int) = 10
        · have HS2 : Hid (mix L (k + 1) = (mix L k).set k 32) := by rw [HSU.out, HYES.out (.inr (.inl h10))]; simp [Hid]
          rw [h10] at hcell
          clear h10 h9 hd9
          go_wp2
          go_roundw
          case rel => exact ⟨k + 1, by omega, by go_num, by rw [HS2.out]; exact HSE.out, hbw.setCell (p := ⟨w.heap.size, k, none⟩) (Nat.le_refl _) _, by have := (KeepsWalks.setCell wr ⟨w.heap.size, k, none⟩ (.int .u8 32)).size; omega⟩
          case measure => simp [intOf]; omega
        · have hd10 : ((b.toNat : Int) == 10) = false := by simp; omega
          by_cases h13 : (b.toNat : Int) = 13
          · have HS2 : Hid (mix L (k + 1) = (mix L k).set k 32) := by rw [HSU.out, HYES.out (.inr (.inr h13))]; simp [Hid]
            rw [h13] at hcell
            clear h13 h10 h9 hd9 hd10
            go_wp2
            go_roundw
            case rel => exact ⟨k + 1, by omega, by go_num, by rw [HS2.out]; exact HSE.out, hbw.setCell (p := ⟨w.heap.size, k, none⟩) (Nat.le_refl _) _, by have := (KeepsWalks.setCell wr ⟨w.heap.size, k, none⟩ (.int .u8 32)).size; omega⟩
            case measure => simp [intOf]; omega
          · have hd13 : ((b.toNat : Int) == 13) = false := by simp; omega
            have HS2 : Hid (mix L (k + 1) = mix L k) := HKE.out (HNO.out h9 h10 h13)
            clear h13 h10 h9
            go_wp2
            go_roundw
            case rel => exact ⟨k + 1, by omega, by go_num, by rw [HS2.out]; exact HWR.out, hbw, hzz⟩
            case measure => simp [intOf]; omega
    · have hge : ¬ (k : Int) < (s.size : Int) := by omega
      rw [mix_end L k (by have := HLS.out; omega)] at hwr
      have hcv2 := run_str_sl wr (w.heap.size + 1) (some ⟨w.heap.size, 0, none⟩) s.size c (L.map fl1) hwr.sl (by have := HLS.out; simp; omega)
      have hsz2 : (⟨(L.map fl1).toArray⟩ : ByteArray).size ≤ 10000 := by rw [size_mk]; have := HLS.out; simp; omega
      have hTr := HT.out.below hbw
      clear hwr HWR
      go_wp2_with (go_at_call 42; refine (cclean_any _ (Nat.le_trans hsz2 (by decide)) _ hTr).mono ?_; rintro e w2 ⟨rfl, hb2⟩)
      go_ret
      exact ⟨rfl, hbw.trans (hb2.mono hbw.size)⟩

/-- what Join comes to -/
def joinB (l : List UInt8) (r : Int) : List UInt8 × Bool := if isC l = true ∧ mkB r = true ∧ l.length + (e4 r).length ≤ 64 then (l ++ e4 r, true) else (l, false)

theorem ret_str2 {a b : ByteArray} {c : Bool} (h : a = b) : Ending.returned (.tuple #[.string a, .bool c]) = .returned (.tuple #[.string b, .bool c]) := by rw [h]
theorem ret_sb {a b : List UInt8} {c d : Bool} (h : a = b) (g : c = d) : Ending.returned (.tuple #[.string ⟨a.toArray⟩, .bool c]) = .returned (.tuple #[.string ⟨b.toArray⟩, .bool d]) := by rw [h, g]

set_option maxRecDepth 100000 in
set_option maxHeartbeats 2000000 in
theorem cjoin_any (l : List UInt8) (hs : l.length ≤ 10000) (r : Int) (w : World) (hT : Tabs w) :
    Calls Tryd.prog 48 #[.string ⟨l.toArray⟩, .int .i32 r] w fun e w' => e = .returned (.tuple #[.string ⟨(joinB l r).1.toArray⟩, .bool (joinB l r).2]) ∧ Below w.heap.size w w' := by
  have HT := Lib.hid hT
  clear hT
  have hsz := size_mk l
  have hs1 : (⟨l.toArray⟩ : ByteArray).size ≤ 1000000 := by omega
  have hisc : ∀ w, Tabs w → Calls Tryd.prog 35 #[.string ⟨l.toArray⟩] w fun e w' => e = .returned (.bool (isC l)) ∧ Below w.heap.size w w' := fun w hw => cis_any ⟨l.toArray⟩ hs1 w hw
  unfold joinB
  generalize hi : isC l = i at hisc ⊢
  generalize hm : mkB r = m
  have HM := Lib.hid hm
  have HIS := Lib.hid hisc
  have HSZ := Lib.hid hsz
  clear hi hm hisc hsz hs1
  cases i with
  | false =>
    rw [if_neg (by simp)]
    go_enter Tryd.func48, Tryd.ntmps48
    go_wp2_with (go_at_call 35; refine (HIS.out _ HT.out).mono ?_; rintro e w1 ⟨rfl, hb1⟩)
    go_ret2
    exact ⟨rfl, hb1⟩
  | true =>
    cases m with
    | false =>
      rw [if_neg (by simp)]
      go_enter Tryd.func48, Tryd.ntmps48
      go_wp2_with (first
        | (go_at_call 35; refine (HIS.out _ HT.out).mono ?_; rintro e w1 ⟨rfl, hb1⟩)
        | (go_at_call 15; refine (mark_any _ _ (HT.out.below hb1)).mono ?_; rintro e w2 ⟨rfl, hb2⟩; rw [HM.out]))
      go_ret2
      exact ⟨rfl, hb1.trans (hb2.mono hb1.size)⟩
    | true =>
      have h4 := e4_le r
      obtain ⟨k, hk⟩ : ∃ k, e4 r = k := ⟨_, rfl⟩
      have HK : Hid (enc (rfix r) = k) := hk
      rw [hk] at h4
      simp only [hk, true_and]
      clear hk
      have hss : (⟨l.toArray⟩ : ByteArray) ++ ⟨k.toArray⟩ = ⟨(l ++ k).toArray⟩ := by
        apply ByteArray.ext; simp [ByteArray.data_append]
      have HSS := Lib.hid hss
      have hs3 := size_mk (l ++ k)
      rw [List.length_append] at hs3
      clear hss
      by_cases h64 : l.length + k.length ≤ 64
      · rw [if_pos h64]
        have hgt : ¬ (64 : Int) < (l.length : Int) + (k.length : Int) := by omega
        go_enter Tryd.func48, Tryd.ntmps48
        go_wp2_with (first
          | (go_at_call 35; refine (HIS.out _ HT.out).mono ?_; rintro e w1 ⟨rfl, hb1⟩)
          | (go_at_call 15; refine (mark_any _ _ (HT.out.below hb1)).mono ?_; rintro e w2 ⟨rfl, hb2⟩; rw [HM.out])
          | (go_at_call 61; refine (bytes_any _ _).mono ?_; rintro e w' ⟨rfl, rfl⟩; rw [HK.out]; have hcv := run_str_sl (w2.alloc (.cells (bv k).toArray 5)) (w2.heap.size + 1) (some ⟨w2.heap.size, 0, none⟩) k.length k.length k (Sl.new _ _ _) rfl))
        go_ret2
        exact ⟨ret_str2 HSS.out, (hb1.trans (hb2.mono hb1.size)).alloc (by have := hb1.size; have := hb2.size; omega) _⟩
      · rw [if_neg h64]
        have hgt : (64 : Int) < (l.length : Int) + (k.length : Int) := by omega
        go_enter Tryd.func48, Tryd.ntmps48
        go_wp2_with (first
          | (go_at_call 35; refine (HIS.out _ HT.out).mono ?_; rintro e w1 ⟨rfl, hb1⟩)
          | (go_at_call 15; refine (mark_any _ _ (HT.out.below hb1)).mono ?_; rintro e w2 ⟨rfl, hb2⟩; rw [HM.out])
          | (go_at_call 61; refine (bytes_any _ _).mono ?_; rintro e w' ⟨rfl, rfl⟩; rw [HK.out]; have hcv := run_str_sl (w2.alloc (.cells (bv k).toArray 5)) (w2.heap.size + 1) (some ⟨w2.heap.size, 0, none⟩) k.length k.length k (Sl.new _ _ _) rfl))
        go_ret2
        exact ⟨rfl, (hb1.trans (hb2.mono hb1.size)).alloc (by have := hb1.size; have := hb2.size; omega) _⟩
end Go.Proofs.YtmgakdbcgdhpaaaDoor
