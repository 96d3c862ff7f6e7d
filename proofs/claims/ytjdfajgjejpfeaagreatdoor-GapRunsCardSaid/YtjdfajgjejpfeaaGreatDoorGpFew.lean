/-
  Walks: few, stand.
-/
import Derived.Test.YtjdfajgjejpfeaaGreatDoorGpFilled
namespace Go.Proofs.YtjdfajgjejpfeaaGreatDoor
open Go.RowKit
set_option linter.unusedVariables false
set_option linter.unusedSimpArgs false

/-- the texts that the laws look at -/
def fewL (l : List (List UInt8)) : List (List UInt8) := (l.take 12).map fun s => s.take 80
theorem fewL_length (l : List (List UInt8)) : (fewL l).length = min 12 l.length := by simp [fewL]
theorem fewL_take (l : List (List UInt8)) (k : Nat) (hk : k < l.length) (h12 : k < 12) : fewL (l.take (k + 1)) = fewL (l.take k) ++ [(l[k]).take 80] := by
  unfold fewL
  rw [List.take_of_length_le (l := l.take (k + 1)) (by rw [List.length_take]; omega), List.take_of_length_le (l := l.take k) (by rw [List.length_take]; omega), List.take_succ_eq_append_getElem hk, List.map_append]
  rfl
theorem fewL_end (l : List (List UInt8)) (k : Nat) (h : k = l.length ∨ k = 12) : fewL (l.take k) = fewL l := by
  unfold fewL
  rcases h with rfl | rfl
  · rw [List.take_length]
  · rw [List.take_take]; rfl
theorem fewL_len (l : List (List UInt8)) : ∀ c ∈ fewL l, c.length ≤ 80 := fun c hc => by
  obtain ⟨d, _, rfl⟩ := List.mem_map.1 hc
  rw [List.length_take]; omega

set_option maxRecDepth 100000 in
set_option maxHeartbeats 4000000 in
theorem few_any (l : List (List UInt8)) (X : Option Addr) (m d : Nat) (hm : m = l.length) (hmx : m ≤ maxLen) (w : World) (hX : Sl w w.heap.size X (sv l)) (hlen : ∀ s ∈ l, s.length ≤ maxLen) :
    Calls Tryz.prog 18 #[.slice X m d] w (CatP w (fewL l).length (sv (fewL l))) := by
  unfold maxLen at hmx
  have HM := Lib.hid hm
  have HX := Lib.hid hX
  have HLEN := Lib.hid hlen
  have HS : Hid (∀ c : List UInt8, (⟨c.toArray⟩ : ByteArray).size = c.length) := Lib.hid size_of
  have HEX : Hid (∀ c : List UInt8, (⟨c.toArray⟩ : ByteArray).extract 0 80 = ⟨(c.take 80).toArray⟩) := Lib.hid (fun c => gex_take ⟨c.toArray⟩ 80)
  clear hm hX hlen
  unfold CatP
  go_enter Tryz.func18, Tryz.ntmps18
  go_wp2_with (fail)
  go_loopw [3, 4] (fun v3 v4 wr => ∃ (k : Nat) (A : Option Addr) (c : Nat), v4 = .int .i64 k ∧ k ≤ m ∧ k ≤ 12 ∧ v3 = .slice A k c ∧ OR wr w.heap.size 9 A k c (sv (fewL (l.take k))) ∧ Below w.heap.size w wr) (fun _ v _ => m - (intOf v).toNat)
  case atStart => exact ⟨0, none, 0, rfl, by omega, by omega, rfl, OR.none_ _ _ _, Below.refl _ _⟩
  case round =>
    obtain ⟨k, A, c, rfl, hkm, hk12, rfl, hor, hb⟩ := hrel
    have HOR := Lib.hid hor
    have HB := Lib.hid hb
    clear hor hb
    by_cases hlt : k < m
    · by_cases hl12 : k < 12
      · have hki : (k : Int) < m := by omega
        have hki2 : (k : Int) < 12 := by omega
        have hkl : k < l.length := by have := HM.out; omega
        obtain ⟨b, off, rfl, hbb, hcell⟩ := sv_at HX.out hkl
        have hcr := (HB.out.cell (p := ⟨b, off + k, none⟩) hbb).trans hcell
        have hft := fewL_take l k hkl hl12
        have hlc := HLEN.out _ (List.getElem_mem hkl)
        generalize l[k] = s at hcr hft hlc
        have HFT := Lib.hid hft
        have hsz := HS.out s
        have hszi : ((⟨s.toArray⟩ : ByteArray).size : Int) = s.length := by omega
        have hap : ∀ (s2 : List UInt8), s2 = s.take 80 → ∀ (W1 : World) (ty : TypeId), W1 = wr.alloc (.cells #[.string ⟨s2.toArray⟩] 9) → ∃ A' c' w', (Builtin.append_ #[27, 27] ty #[.slice A k c, .slice (some ⟨wr.heap.size, 0, none⟩) 1 1]).run Tryz.prog W1 = .ok (.slice A' (k + 1) c') w' ∧ OR w' w.heap.size 9 A' (k + 1) c' (sv (fewL (l.take (k + 1)))) ∧ Below w.heap.size w w' := by
          intro s2 hs2 W1 ty hW1
          obtain ⟨A', c', w', hr, ho, hg, hat⟩ := run_app Tryz.underlying27 str_info rfl (by omega) W1 ty w.heap.size A k c _ (by rw [hW1]; exact HOR.out.alloc _) (some ⟨wr.heap.size, 0, none⟩) 1 1 [.string ⟨s2.toArray⟩] (wr.heap.size + 1) (by rw [hW1]; exact Sl.new wr #[.string ⟨s2.toArray⟩] 9) rfl (fun e => by cases e) (by intro u hu; simp at hu; subst hu; rfl) (k + 1) rfl (by omega) (by rw [hW1]; have := HB.out.size; simp; omega)
          refine ⟨A', c', w', hr, ?_, ?_⟩
          · rw [HFT.out, sv_snoc, ← hs2]; exact ho
          · have h1 : Below w.heap.size w W1 := by rw [hW1]; exact HB.out.alloc HB.out.size _
            exact h1.grown hg h1.size (fun j hj => by
              have h2 : OR W1 w.heap.size 9 A k c (sv (fewL (l.take k))) := by rw [hW1]; exact HOR.out.alloc _
              exact (h2.blk_lt j hj).1)
        have HAP := Lib.hid hap
        clear hap hft hcell
        by_cases h80 : s.length ≤ 80
        · have h80i : ¬ ((s.length : Int) > 80) := by omega
          have h80j : ¬ ((⟨s.toArray⟩ : ByteArray).size : Int) > 80 := by omega
          obtain ⟨A', c', w5, hr, ho, hb5⟩ := HAP.out s (List.take_of_length_le h80).symm _ 27 rfl
          have HR := Lib.hid hr
          have HO := Lib.hid ho
          have HB5 := Lib.hid hb5
          clear hr ho hb5 hsz hszi h80
          go_wp2_with (at_builtin; refine wpList_run 27 27 rfl (.tmp 25) (.tmp 27) rfl _ _ _ _ rfl rfl HR.out ?_)
          go_roundw
          case rel => exact ⟨k + 1, A', c', by go_num, by omega, by omega, rfl, HO.out, HB5.out⟩
          case measure => simp [intOf]; omega
        · have h80i : ((s.length : Int) > 80) := by omega
          have h80j : ((⟨s.toArray⟩ : ByteArray).size : Int) > 80 := by omega
          obtain ⟨A', c', w5, hr, ho, hb5⟩ := HAP.out (s.take 80) rfl _ 27 rfl
          have hex := HEX.out s
          have HR := Lib.hid hr
          have HO := Lib.hid ho
          have HB5 := Lib.hid hb5
          clear hr ho hb5 hsz hszi h80
          go_wp2_with (at_builtin; refine wpList_run 27 27 rfl (.tmp 25) (.tmp 27) rfl _ _ _ _ rfl rfl HR.out ?_)
          go_roundw
          case rel => exact ⟨k + 1, A', c', by go_num, by omega, by omega, rfl, HO.out, HB5.out⟩
          case measure => simp [intOf]; omega
      · have hk : k = 12 := by omega
        have hki : (k : Int) < m := by omega
        have hki2 : ¬ (k : Int) < 12 := by omega
        have he := fewL_end l k (.inr hk)
        have hl2 := fewL_length l
        have HE := Lib.hid he
        have hlk : (fewL l).length = k := by have := HM.out; omega
        have HLK := Lib.hid hlk
        clear he hl2 hk hlk
        go_wp2_with (fail)
        go_ret
        exact ⟨A, c, by rw [HLK.out]; rfl, by rw [HLK.out, ← HE.out]; exact HOR.out, HB.out⟩
    · have hki : ¬ (k : Int) < m := by omega
      have he := fewL_end l k (.inl (by have := HM.out; omega))
      have hl2 := fewL_length l
      have HE := Lib.hid he
      have hlk : (fewL l).length = k := by have := HM.out; omega
      have HLK := Lib.hid hlk
      clear he hl2 hlk
      go_wp2_with (fail)
      go_ret
      exact ⟨A, c, by rw [HLK.out]; rfl, by rw [HLK.out, ← HE.out]; exact HOR.out, HB.out⟩
end Go.Proofs.YtjdfajgjejpfeaaGreatDoor
