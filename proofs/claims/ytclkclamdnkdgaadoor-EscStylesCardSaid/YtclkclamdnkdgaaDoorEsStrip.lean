/-
  Walks: strings.Builder's copyCheck and WriteByte; esc's behindSequence and Strip.
-/
import Derived.Test.YtclkclamdnkdgaaDoorEsFns
import Derived.Test.YtclkclamdnkdgaaDoorRows
import Derived.Lib.Builder
import Derived.Lib.AppendStr
namespace Go.Proofs.YtclkclamdnkdgaaDoor
open Go.RowKit
set_option linter.unusedVariables false
set_option linter.unusedSimpArgs false

theorem bld_info : (Tryd.prog.info? 49).map (·.size) = some 2 := by kernel_rfl
theorem byte_info : (Tryd.prog.info? 5).map (fun i => (i.zero, i.size, i.bytes)) = some (some (.int .u8 0), 1, 1) := by kernel_rfl

set_option maxHeartbeats 1000000 in
set_option maxRecDepth 100000 in
theorem check_used (b : Nat) (w : World) (h0 : w.cell? ⟨b, 0, none⟩ = some (.pointer (some ⟨b, 0, none⟩))) :
    Calls Tryd.prog 51 #[.pointer (some ⟨b, 0, none⟩)] w fun e w' => e = .returned (.tuple #[]) ∧ w' = w := by
  obtain ⟨j, hj, _⟩ := Option.map_eq_some_iff.1 bld_info
  go_enter Tryd.func51, Tryd.ntmps51
  go_wp2
  rw [Lib.run_neq_ptr_same w _ Tryd.underlying47 hj]
  go_wp2
  go_end0
  exact ⟨rfl, rfl⟩

set_option maxHeartbeats 1000000 in
set_option maxRecDepth 100000 in
theorem check_fresh (b : Nat) (w : World) (h0 : w.cell? ⟨b, 0, none⟩ = some (.pointer none)) (hsh : w.shape? b = some (49, 2)) (hfz : w.frozen? ⟨b, 0, none⟩ = false) :
    Calls Tryd.prog 51 #[.pointer (some ⟨b, 0, none⟩)] w fun e w' => e = .returned (.tuple #[]) ∧ w' = w.setCell ⟨b, 0, none⟩ (.pointer (some ⟨b, 0, none⟩)) := by
  obtain ⟨j, hj, hjs⟩ := Option.map_eq_some_iff.1 bld_info
  go_enter Tryd.func51, Tryd.ntmps51
  go_wp2
  rw [Lib.run_to_unsafe w ⟨b, 0, none⟩ Tryd.underlying47 Tryd.underlying63 hj (by rw [hjs]; decide) hsh (Nat.zero_lt_succ 1)]
  simp only [Result.andThen]
  rw [Oper.upon_value]
  go_wp2
  rw [run_callFunc_extern Tryd.func55 (by kernel_rfl) (by kernel_rfl) (by kernel_rfl) (e := Extern.AbiNoEscape.same) (by kernel_rfl)]
  rw [Lib.run_noEscape]
  simp only [Result.andThen]
  rw [Oper.upon_value]
  go_wp2
  rw [Lib.run_from_unsafe w ⟨b, 0, none⟩ Tryd.underlying63 Tryd.underlying47 hj hsh (by kernel_rfl)]
  simp only [Result.andThen]
  rw [Oper.upon_value]
  go_wp2
  go_end0
  exact ⟨rfl, rfl⟩

theorem check_any (B b : Nat) (bs : List Value) (w : World) (h : Lib.IsBuilder 49 5 B b bs w) :
    Calls Tryd.prog 51 #[.pointer (some ⟨b, 0, none⟩)] w fun e w' => e = .returned (.tuple #[]) ∧ (Lib.BuilderAt 49 5 B b (.pointer (some ⟨b, 0, none⟩)) bs w' ∧ Below B w w') := by
  rcases h with h | h
  · refine (check_fresh b w h.cell0 h.shape h.frozen0).mono ?_
    rintro e w' ⟨rfl, rfl⟩
    exact ⟨rfl, h.used _, (Below.refl B w).setCell (p := ⟨b, 0, none⟩) h.1 _⟩
  · refine (check_used b w h.cell0).mono ?_
    rintro e w' ⟨rfl, rfl⟩
    exact ⟨rfl, h, Below.refl B _⟩


set_option maxHeartbeats 2000000 in
set_option maxRecDepth 100000 in
theorem wbyte_any (B b : Nat) (bs : List Value) (c : Int) (w : World) (h : Lib.IsBuilder 49 5 B b bs w) (hlen : bs.length ≤ 1000000) (hBw : B ≤ w.heap.size) :
    Calls Tryd.prog 42 #[.pointer (some ⟨b, 0, none⟩), .int .u8 c] w fun e w' => e = .returned .nilIface ∧ (Lib.IsBuilder 49 5 B b (bs ++ [.int .u8 c]) w' ∧ Below B w w') := by
  obtain ⟨i0, hi, hz0, hz1, hz2⟩ := info_parts byte_info
  go_enter Tryd.func42, Tryd.ntmps42
  go_wp2_with (go_at_call 51; refine (check_any B b bs _ h).mono ?_)
  rintro e w1 ⟨rfl, h1, hb1⟩
  obtain ⟨hB, v, hbk, hown, hne⟩ := h1
  have c0 : w1.cell? ⟨b, 0, none⟩ = some (.pointer (some ⟨b, 0, none⟩)) := by rw [Lib.cell_of_heap hbk]; rfl
  have c1 : w1.cell? ⟨b, 1, none⟩ = some v := by rw [Lib.cell_of_heap hbk]; rfl
  have HB1 := Lib.hid hb1
  have hs1 := hb1.size
  go_wp2_with (at_builtin; refine wpList_append_sl _ rfl _ _ 45 rfl B 5 i0 _ 1 1 Tryd.underlying45 hi hz0 hz1 hz2 rfl (by omega) v bs.length bs rfl (hown.alloc _) (w1.heap.size + 1) (some ⟨w1.heap.size, 0, none⟩) 1 1 [.int .u8 c] rfl (Sl.new w1 #[.int .u8 c] 5) rfl (fun h => by cases h) (by intro u hu; simp at hu; subst hu; rfl) (by unfold maxLen; omega) (by omega) (by simp; omega) ?_)
  intro v' w2 hown' hgrow _
  have hlt : b < w1.heap.size := by
    rcases Nat.lt_or_ge b w1.heap.size with h' | h'
    · exact h'
    · simp [Array.getElem?_eq_none h'] at hbk
  have hb2 : w2.heap[b]? = some (.cells #[.pointer (some ⟨b, 0, none⟩), v] 49 (0, 0)) := by
    rw [hgrow.block b (by simp; omega) (fun e => hne e.symm), Lib.alloc_old _ _ _ hlt]
    exact hbk
  have d0 : w2.cell? ⟨b, 0, none⟩ = some (.pointer (some ⟨b, 0, none⟩)) := by rw [Lib.cell_of_heap hb2]; rfl
  have d1 : w2.cell? ⟨b, 1, none⟩ = some v := by rw [Lib.cell_of_heap hb2]; rfl
  have f1 : w2.frozen? ⟨b, 1, none⟩ = false := Lib.frozen_of_heap hb2 1
  obtain ⟨ao, n', cap, rfl⟩ : ∃ ao n' cap, v' = .slice ao n' cap := by
    rcases hown'.2 with ⟨hv, _⟩ | ⟨g, cap, cur, hv, _⟩
    · exact ⟨_, _, _, hv⟩
    · exact ⟨_, _, _, hv⟩
  go_wp2
  go_ret
  refine ⟨rfl, .inr ?_, ?_⟩
  · exact Lib.BuilderAt.put (T := 49) (e := 5) hB hb2 (bs' := bs ++ [.int .u8 c]) (by simpa using hown') (by decide)
  · exact ((HB1.out.alloc (by omega) _).grown hgrow (by simp; omega) (fun k hk => (hown.lt k hk).1)).setCell (p := ⟨b, 1, none⟩) hB _

theorem IsB.bel {T e : TypeId} {B b : Nat} {bs : List Value} {w w' : World} (h : Lib.IsBuilder T e B b bs w) (hb : Below w.heap.size w w') : Lib.IsBuilder T e B b bs w' := by
  have one : ∀ p, Lib.BuilderAt T e B b p bs w → Lib.BuilderAt T e B b p bs w' := fun p h => by
    obtain ⟨h1, v, h2, h3, h4⟩ := h
    exact ⟨h1, v, (hb.block b (Array.getElem?_eq_some_iff.1 h2).1).trans h2, h3.kept (row := none) (grown_of_below hb) (by cases h : v.ownBlock <;> simp), h4⟩
  rcases h with h | h
  · exact .inl (one _ h)
  · exact .inr (one _ h)


theorem isF_iff (c : UInt8) : isF c ↔ 64 ≤ (c.toNat : Int) ∧ (c.toNat : Int) ≤ 126 := by
  unfold isF
  rw [UInt8.le_iff_toNat_le, UInt8.le_iff_toNat_le]
  constructor
  · rintro ⟨h1, h2⟩; exact ⟨by have : (64 : Nat) ≤ c.toNat := h1; omega, by have : c.toNat ≤ (126 : Nat) := h2; omega⟩
  · rintro ⟨h1, h2⟩; exact ⟨show (64 : Nat) ≤ c.toNat by omega, show c.toNat ≤ (126 : Nat) by omega⟩
theorem skip_no (t : List UInt8) (k : Nat) (hk : k < t.length) (h : ¬ isF t[k]) : skipB (t.drop k) = skipB (t.drop (k + 1)) := by
  rw [List.drop_eq_getElem_cons hk, skipB, if_neg h]
theorem skip_yes (t : List UInt8) (k : Nat) (hk : k < t.length) (h : isF t[k]) : skipB (t.drop k) = t.drop (k + 1) := by
  rw [List.drop_eq_getElem_cons hk, skipB, if_pos h]
theorem ext_from (l : List UInt8) (k : Nat) : (⟨l.toArray⟩ : ByteArray).extract k l.length = ⟨(l.drop k).toArray⟩ := by
  apply ByteArray.ext
  simp [ByteArray.data_extract]
  exact List.take_of_length_le (by simp)
theorem u8_bd (c : UInt8) : 0 ≤ (c.toNat : Int) ∧ (c.toNat : Int) ≤ 255 := by
  have := c.toNat_lt
  omega

set_option maxRecDepth 100000 in
set_option maxHeartbeats 4000000 in
theorem behind_any (t : List UInt8) (ht : t.length ≤ 1000000) (w : World) :
    Calls Tryd.prog 41 #[.string ⟨(27 :: 91 :: t).toArray⟩] w fun e w' => e = .returned (.string ⟨(skipB t).toArray⟩) ∧ w = w' := by
  obtain ⟨s, hs⟩ : ∃ s : ByteArray, s = ⟨(27 :: 91 :: t).toArray⟩ := ⟨_, rfl⟩
  have hsz : s.size = t.length + 2 := by rw [hs, es_size]; simp
  have HG := Lib.hid (show ∀ (k : Nat) (hk : k < t.length) (h : k + 2 < s.size), s[k + 2] = t[k] by intro k hk h; subst hs; rfl)
  have HX := Lib.hid (show ∀ k : Nat, s.extract (k + 3) s.size = ⟨(t.drop (k + 1)).toArray⟩ by intro k; rw [hsz, hs]; have := ext_from (27 :: 91 :: t) (k + 3); simpa using this)
  rw [← hs]
  clear hs
  go_enter Tryd.func41, Tryd.ntmps41
  go_wp2
  go_loop [3] (fun v3 => ∃ k : Nat, v3 = .int .i64 ((k : Int) + 2) ∧ k ≤ t.length ∧ skipB (t.drop k) = skipB t) (fun v3 => t.length + 2 - (intOf v3).toNat)
  case atStart => exact ⟨0, rfl, by omega, rfl⟩
  case round =>
    obtain ⟨k, rfl, hk, hs⟩ := hrel
    have HS := Lib.hid hs
    clear hs
    by_cases hlt : k < t.length
    · have hki : (k : Int) + 2 < (s.size : Int) := by omega
      have hg := HG.out k hlt (by omega)
      have HN := Lib.hid (skip_no t k hlt)
      have HY := Lib.hid (skip_yes t k hlt)
      have hbd := u8_bd t[k]
      have HI := Lib.hid (isF_iff t[k])
      generalize t[k] = c at hg HN HY hbd HI
      by_cases h1 : (c.toNat : Int) < 64
      · have h1' : ¬ 64 ≤ (c.toNat : Int) := by omega
        go_wp2
        go_round
        case rel => exact ⟨k + 1, by go_num, by omega, by rw [← HN.out (fun h => by have := HI.out.1 h; omega), HS.out]⟩
        case measure => simp [intOf]; omega
      · by_cases h2 : (c.toNat : Int) ≤ 126
        · have h1' : 64 ≤ (c.toNat : Int) := by omega
          have hx := HX.out k
          go_wp2
          go_ret
          refine ⟨ret_str ?_, rfl⟩
          rw [← HS.out, HY.out (HI.out.2 ⟨h1', h2⟩), ← hx, hsz]
        · have h1' : 64 ≤ (c.toNat : Int) := by omega
          go_wp2
          go_round
          case rel => exact ⟨k + 1, by go_num, by omega, by rw [← HN.out (fun h => by have := HI.out.1 h; omega), HS.out]⟩
          case measure => simp [intOf]; omega
    · have hki : ¬ (k : Int) + 2 < (s.size : Int) := by omega
      have HE := Lib.hid (show skipB t = [] by rw [← HS.out, List.drop_eq_nil_of_le (by omega)]; rfl)
      go_wp2
      go_ret
      exact ⟨ret_str (by rw [HE.out]), rfl⟩

def strLen : Value → Nat | .string s => s.size | _ => 0
def isC (l : List UInt8) : Bool := match l with | a :: b :: _ => a == 27 && b == 91 | _ => false
theorem isC_pre (l : List UInt8) : Lib.hasPrefix l [27, 91] = isC l := by
  unfold Lib.hasPrefix isC
  match l with
  | [] => rfl
  | [a] => simp [List.isPrefixOf]
  | a :: b :: t => simp [List.isPrefixOf, BEq.comm]
theorem isC_yes {l : List UInt8} (h : isC l = true) : ∃ t, l = 27 :: 91 :: t := by
  match l, h with
  | a :: b :: t, h =>
    simp [isC] at h
    exact ⟨t, by rw [h.1, h.2]⟩
theorem isC_no {c : UInt8} {t : List UInt8} (h : isC (c :: t) = false) : ¬ (c = 27 ∧ t.head? = some 91) := by
  rintro ⟨rfl, h2⟩
  match t, h2 with
  | a :: t, h2 =>
    simp at h2
    subst h2
    simp [isC] at h

theorem hpre (s : ByteArray) (d : List UInt8) (hs : s = ⟨d.toArray⟩) (w : World) :
    Calls Tryd.prog 40 #[.string s, .string ⟨#[27, 91]⟩] w fun e w' => e = .returned (.bool (isC d)) ∧ w = w' := by
  refine (sh_strings_HasPrefix s ⟨#[27, 91]⟩ w).mono ?_
  rintro e w' ⟨rfl, rfl⟩
  refine ⟨ret_bool ?_, rfl⟩
  rw [← isC_pre, hs]

set_option maxRecDepth 100000 in
set_option maxHeartbeats 8000000 in
theorem strip_any (l : List UInt8) (hl : l.length ≤ 1000000) (w : World) :
    Calls Tryd.prog 24 #[.string ⟨l.toArray⟩] w fun e w' => e = .returned (.string ⟨(stripB l).toArray⟩) ∧ Below w.heap.size w w' := by
  have HF := Lib.hid (Lib.fresh_isBuilder 49 5 w)
  have HA := Lib.hid (show Below w.heap.size w (w.alloc (.cells #[.pointer none, .slice none 0 0] 49)) from (Below.refl _ _).alloc (Nat.le_refl _) _)
  have hsl := stripB_le l
  obtain ⟨s, hs⟩ : ∃ s : ByteArray, s = ⟨l.toArray⟩ := ⟨_, rfl⟩
  rw [← hs]
  have HS0 := Lib.hid hs
  clear hs
  go_enter Tryd.func24, Tryd.ntmps24
  go_wp2_with (fail)
  go_loopw [0] (fun v0 wr => ∃ (s : ByteArray) (d acc : List UInt8), v0 = .string s ∧ s = ⟨d.toArray⟩ ∧ d.length ≤ l.length ∧ acc ++ stripB d = stripB l ∧ Lib.IsBuilder 49 5 w.heap.size w.heap.size (Lib.byteCells acc) wr ∧ Below w.heap.size w wr ∧ w.heap.size + 1 ≤ wr.heap.size) (fun v0 _ => strLen v0)
  case atStart => exact ⟨s, l, [], rfl, HS0.out, Nat.le_refl _, rfl, by simpa [Lib.byteCells] using HF.out, HA.out, by simp⟩
  case round =>
    obtain ⟨s', d, acc, rfl, hs', hd, ha, hI, hb, hz⟩ := hrel
    have hsz : s'.size = d.length := by rw [hs', es_size]
    have hal : acc.length ≤ 1000000 := by
      have := congrArg List.length ha
      rw [List.length_append] at this
      omega
    have HI := Lib.hid hI
    have HB := Lib.hid hb
    have HA1 := Lib.hid ha
    clear hI hb ha
    rcases d with _ | ⟨c, t⟩
    · subst hs'
      have HI2 := Lib.hid (show acc = stripB l by have := HA1.out; rw [stripB_nil, List.append_nil] at this; exact this)
      go_wp2_with (go_at_call 43; refine (sh_Builder_String_any w.heap.size w.heap.size acc wr HI.out HB.out.size).mono ?_; rintro e w4 ⟨rfl, hb4⟩)
      go_ret
      exact ⟨ret_str (by rw [HI2.out]), HB.out.trans hb4⟩
    · have hsz1 : s'.size = t.length + 1 := by rw [hsz]; rfl
      have hd1 : t.length + 1 ≤ l.length := by simpa using hd
      have hE : s'.toList = c :: t := by rw [hs', Lib.toList_data]
      have hE1 : s'.toList.isEmpty = false := by rw [hE]; rfl
      have hE2 : ¬ s'.toList = [] := by rw [hE]; simp
      have HP := Lib.hid (fun w => hpre s' (c :: t) hs' w)
      have hg : s'[0]'(by omega) = c := by subst hs'; rfl
      have hx : s'.extract 1 (t.length + 1) = ⟨t.toArray⟩ := by rw [hs']; have := ext_from (c :: t) 1; simpa using this
      have HS' := Lib.hid hs'
      have hbd := u8_bd c
      clear hs' hE hsz hd
      by_cases hC : isC (c :: t) = true
      · obtain ⟨t2, ht2⟩ := isC_yes hC
        obtain ⟨rfl, rfl⟩ : c = 27 ∧ t = 91 :: t2 := by injection ht2 with h1 h2; exact ⟨h1, h2⟩
        have HB2 := Lib.hid (behind_any t2 (by simp at hd1; omega))
        have hse : s' = ⟨(27 :: 91 :: t2).toArray⟩ := HS'.out
        rw [← hse] at HB2
        have HA2 := Lib.hid (show acc ++ stripB (skipB t2) = stripB l by rw [← HA1.out, stripB_seq])
        have hk := skipB_le t2
        have HK := Lib.hid hk
        clear hse hk hg hx hbd
        rw [hC] at HP
        go_wp2_with (first
          | (go_at_call 40; refine (HP.out _).mono ?_; rintro e w' ⟨rfl, rfl⟩)
          | (go_at_call 41; refine (HB2.out _).mono ?_; rintro e w' ⟨rfl, rfl⟩))
        go_roundw
        case rel => exact ⟨_, skipB t2, acc, rfl, rfl, by have := HK.out; simp at hd1; omega, HA2.out, HI.out, HB.out, hz⟩
        case measure => have := HK.out; simp [strLen, es_size]; simp at hsz1; omega
      · have hC' : isC (c :: t) = false := by simpa using hC
        have HS1 := Lib.hid (stripB_one c t (isC_no hC'))
        rw [hC'] at HP
        clear hC hC'
        by_cases h32 : 32 ≤ (c.toNat : Int)
        · have HA2 := Lib.hid (show (acc ++ [c]) ++ stripB t = stripB l by rw [← HA1.out, HS1.out, if_pos (show (32 : UInt8) ≤ c from show (32 : Nat) ≤ c.toNat by omega), List.append_assoc])
          go_wp2_with (first
            | (go_at_call 40; refine (HP.out _).mono ?_; rintro e w' ⟨rfl, rfl⟩)
            | (go_at_call 42; refine (wbyte_any w.heap.size w.heap.size _ (c.toNat : Int) wr HI.out (by simpa [Lib.byteCells] using hal) HB.out.size).mono ?_; rintro e w4 ⟨rfl, hI4, hb4⟩; have HI4 := Lib.hid hI4; have HB4 := Lib.hid hb4; clear hI4 hb4))
          go_roundw
          case rel => exact ⟨_, t, acc ++ [c], rfl, rfl, by omega, HA2.out, by have := HI4.out; simpa [Lib.byteCells] using this, HB.out.trans HB4.out, by have := HB4.out.size; omega⟩
          case measure => simp [strLen, es_size]; omega
        · have HA2 := Lib.hid (show acc ++ stripB t = stripB l by rw [← HA1.out, HS1.out, if_neg (show ¬ (32 : UInt8) ≤ c from fun h => h32 (by have : (32 : Nat) ≤ c.toNat := h; omega)), List.nil_append])
          go_wp2_with (go_at_call 40; refine (HP.out _).mono ?_; rintro e w' ⟨rfl, rfl⟩)
          go_roundw
          case rel => exact ⟨_, t, acc, rfl, rfl, by omega, HA2.out, HI.out, HB.out, hz⟩
          case measure => simp [strLen, es_size]; omega
end Go.Proofs.YtclkclamdnkdgaaDoor
