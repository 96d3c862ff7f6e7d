/-
  Walks: Line and Column of the program.
-/
import Derived.Test.YthkdedoambmfkaaWnFit
import Derived.Test.YthkdedoambmfkaaWnRef
namespace Go.Proofs.Ythkdedoambmfkaa
open Go.RowKit Go.Shelf Go.Sort
set_option linter.unusedVariables false
set_option linter.unusedSimpArgs false
set_option maxRecDepth 100000

theorem ints_elem : Try.prog.underlying 22 = some (.slice (Try.prog.elem 22)) := by kernel_rfl
theorem ints_esize (w : World) : (sizeOf (Try.prog.elem 22)).run Try.prog w = .ok 1 w := by kernel_rfl
/-- where a slice from lo on lies -/
def bhI (A : Option Addr) (C lo : Nat) : Option Addr := if C = lo then A else A.map (·.add lo)
theorem isl_h (A : Option Addr) (n C hi : Nat) (h2 : hi ≤ C) (w : World) :
    (Instr.slice 22 (.slice A n C) none (some (.int .i64 hi)) none).run Try.prog w = .ok (.slice A hi C) w := by
  rw [run_slice_h w 22 A n C ints_elem .i64 hi (by omega) (by omega), ints_esize]
  cases A <;> simp [Result.andThen, sliced, Addr.add]
theorem isl_lh (A : Option Addr) (n C lo hi : Nat) (h1 : lo ≤ hi) (h2 : hi ≤ C) (w : World) :
    (Instr.slice 22 (.slice A n C) (some (.int .i64 lo)) (some (.int .i64 hi)) none).run Try.prog w = .ok (.slice (bhI A C lo) (hi - lo) (C - lo)) w := by
  rw [run_slice_lh w 22 A n C ints_elem .i64 .i64 lo hi (by omega) (by omega) (by omega), ints_esize]
  simp [Result.andThen, sliced, bhI]
theorem isl_l (A : Option Addr) (n C lo : Nat) (h1 : lo ≤ n) (w : World) :
    (Instr.slice 22 (.slice A n C) (some (.int .i64 lo)) none none).run Try.prog w = .ok (.slice (bhI A C lo) (n - lo) (C - lo)) w := by
  rw [run_slice_l w 22 A n C ints_elem .i64 lo (by omega) (by omega), ints_esize]
  simp [Result.andThen, sliced, bhI]
theorem zi_take (L : List Int) (k : Nat) : (zi L).take k = zi (L.take k) := by simp [zi, List.map_take]
theorem zi_drop (L : List Int) (k : Nat) : (zi L).drop k = zi (L.drop k) := by simp [zi, List.map_drop]
theorem sl_bhI {w : World} {B : Nat} {A : Option Addr} {L : List Int} (h : Sl w B A (zi L)) (c k : Nat) (hc : L.length ≤ c) : Sl w B (bhI A c k) (zi (L.drop k)) := by
  have h1 := h.drop (k := k) (cap := c) (by rw [zi_length]; exact hc)
  rw [zi_drop] at h1
  exact h1

set_option maxHeartbeats 2000000 in
theorem wcolumn_any (cur fr : Int) (L : List Int) (A : Option Addr) (n c : Nat) (w : World) (hn : n = L.length) (hnc : n ≤ c) (h4 : n ≤ 200) (hS : Sl w w.heap.size A (zi L)) :
    Calls Try.prog 7 #[.int .i64 cur, .int .i64 fr, .slice A n c] w fun e w' => e = .returned (.int .i64 (colW L (clampN cur n) fr)) ∧ w = w' := by
  have hk := clampN_le cur n
  generalize hkk : clampN cur n = k at *
  have hrat := wclamp_len cur n w
  rw [hkk] at hrat
  have HRAT := Lib.hid hrat
  clear hrat hkk
  by_cases h : fr < 0 ∨ fr > k
  · have e : colW L k fr = 0 := by unfold colW; rw [if_pos h]
    rw [e]
    clear e hS hn
    by_cases h1 : fr < 0
    · go_enter Try.func7, Try.ntmps7
      go_wp2_with (refine HRAT.out.mono ?_; rintro e w' ⟨rfl, rfl⟩)
      go_ret
      exact ⟨rfl, rfl⟩
    · have h2 : (k : Int) < fr := by omega
      clear h
      go_enter Try.func7, Try.ntmps7
      go_wp2_with (refine HRAT.out.mono ?_; rintro e w' ⟨rfl, rfl⟩)
      go_ret
      exact ⟨rfl, rfl⟩
  · obtain ⟨f, rfl⟩ : ∃ f : Nat, fr = f := ⟨fr.toNat, by omega⟩
    have e : colW L k f = smR L f k := by unfold colW; rw [if_neg h]; simp
    rw [e]
    have hs1 : Sl w w.heap.size (bhI A c f) (zi ((L.take k).drop f)) := by
      have h1 := hS.take k
      rw [zi_take] at h1
      exact sl_bhI h1 c f (by simp; omega)
    have HSUM := Lib.hid (wsum_any ((L.take k).drop f) (bhI A c f) (k - f) (c - f) w (by simp; omega) (by omega) hs1)
    have E := fun V => isl_lh A n c f k (by omega) (by omega) V
    have h1 : ¬ (f : Int) < 0 := by omega
    have h2 : ¬ (k : Int) < f := by omega
    have hfk : (f : Int) ≤ k := by omega
    have hkc : (k : Int) ≤ c := by omega
    clear e hS hn h hs1
    go_enter Try.func7, Try.ntmps7
    go_wp2_with (first
      | (go_at_call 10; refine HRAT.out.mono ?_; rintro e w' ⟨rfl, rfl⟩)
      | (go_at_call 18; refine HSUM.out.mono ?_; rintro e w' ⟨rfl, rfl⟩))
    go_ret
    exact ⟨rfl, rfl⟩

theorem wsn_rev (L : List Int) : wsn (lnsI L).reverse = L.reverse := by
  show List.map (·.2) (lnsI L).reverse = _
  rw [List.map_reverse, lnsI_snd]
theorem wsn_lns (L : List Int) : wsn (lnsI L) = L := lnsI_snd L
/-- fitting over a row of the caller's, backward -/
theorem fit_back (R : Int) (hR0 : -10 ≤ R) (hR1 : R ≤ 9223372036854775807) (L : List Int) (n c bd : Nat) (A : Option Addr) (w : World) (hn : L.length = n) (h4 : n ≤ 1000) (hS : Sl w w.heap.size A (zi L)) (hbd : Boxed w bd 22 (.slice A n c)) :
    Calls Try.prog 11 #[.int .i64 R, .func (.func 23) #[] #[.pointer (some ⟨bd, 0, none⟩)]] w fun e w' => e = .returned (.int .i64 (fitN R L.reverse)) ∧ Below w.heap.size w w' := by
  have h := fitting_seq R hR0 hR1 23 #[.pointer (some ⟨bd, 0, none⟩)] w (fun j => j = bd ∨ (blk A = some j ∧ 0 < n)) (lnsI L).reverse n (by omega) (fun x => L[x.1]? = some x.2)
    (fun k hk => by
      rcases hk with rfl | ⟨hk, h0⟩
      · exact hbd.lt
      · obtain ⟨b, off, hA, hb, _⟩ := zi_at hS (List.getElem?_eq_getElem (show 0 < L.length by omega))
        rw [hA] at hk; injection hk with hk; have hk2 : b = k := hk; omega)
    (enters_of Try.func23 (by kernel_rfl) rfl)
    (fun W hW => iback_stops L n c A 6 bd W hn (by omega) ((hS.below hW).more hW.size) ((hW.block _ hbd.lt).trans hbd) _ (.inl rfl) (fun k hk h0 => .inr ⟨hk, h0⟩))
  rw [wsn_rev] at h
  exact h
/-- and forward -/
theorem fit_forth (R : Int) (hR0 : -10 ≤ R) (hR1 : R ≤ 9223372036854775807) (L : List Int) (n c bd : Nat) (A : Option Addr) (w : World) (hn : L.length = n) (h4 : n ≤ 1000) (hS : Sl w w.heap.size A (zi L)) (hbd : Boxed w bd 22 (.slice A n c)) :
    Calls Try.prog 11 #[.int .i64 R, .func (.func 24) #[] #[.pointer (some ⟨bd, 0, none⟩)]] w fun e w' => e = .returned (.int .i64 (fitN R L)) ∧ Below w.heap.size w w' := by
  have h := fitting_seq R hR0 hR1 24 #[.pointer (some ⟨bd, 0, none⟩)] w (fun j => j = bd ∨ (blk A = some j ∧ 0 < n)) (lnsI L) n (by omega) (fun x => L[x.1]? = some x.2)
    (fun k hk => by
      rcases hk with rfl | ⟨hk, h0⟩
      · exact hbd.lt
      · obtain ⟨b, off, hA, hb, _⟩ := zi_at hS (List.getElem?_eq_getElem (show 0 < L.length by omega))
        rw [hA] at hk; injection hk with hk; have hk2 : b = k := hk; omega)
    (enters_of Try.func24 (by kernel_rfl) rfl)
    (fun W hW => iall_stops L n c A 6 bd W hn (by omega) ((hS.below hW).more hW.size) ((hW.block _ hbd.lt).trans hbd) _ (.inl rfl) (fun k hk h0 => .inr ⟨hk, h0⟩))
  rw [wsn_lns] at h
  exact h

set_option maxHeartbeats 4000000 in
theorem wline_any (cur room : Int) (hrm : room ≤ 9223372036854775807) (L : List Int) (A : Option Addr) (n c : Nat) (w : World) (hn : n = L.length) (hnc : n ≤ c) (h4 : n ≤ 200) (hS : Sl w w.heap.size A (zi L)) :
    Calls Try.prog 5 #[.int .i64 cur, .int .i64 room, .slice A n c] w fun e w' => e = .returned (.tuple #[.int .i64 (lnA L (clampN cur n) room), .int .i64 (lnB L (clampN cur n) room)]) ∧ Below w.heap.size w w' := by
  have hk := clampN_le cur n
  generalize hkk : clampN cur n = k at *
  have hrat := wclamp_len cur n w
  rw [hkk] at hrat
  have HRAT := Lib.hid hrat
  clear hrat hkk
  by_cases hr : room < 1
  · have ea : lnA L k room = k := by unfold lnA; rw [if_pos hr]
    have eb : lnB L k room = k := by unfold lnB; rw [if_pos hr]
    rw [ea, eb]
    clear ea eb hS hn
    go_enter Try.func5, Try.ntmps5
    go_wp2_with (refine HRAT.out.mono ?_; rintro e w' ⟨rfl, rfl⟩)
    go_ret2
    exact ⟨rfl, Below.refl _ _⟩
  · have ea : lnA L k room = k - fitN (room - tkW L k) (L.take k).reverse := by unfold lnA; rw [if_neg hr]
    have eb : lnB L k room = lnA L k room + fitN room (L.drop (lnA L k room)) := by unfold lnB; rw [if_neg hr]
    have hlA := lnA_le L k room
    rw [eb]
    have htk := tkW_bd L k
    have hwat := Lib.hid (wat_any k L A n c w.drew hn hk hS)
    have hf1 := fit_le (room - tkW L k) (L.take k).reverse
    simp only [List.length_reverse, List.length_take] at hf1
    have hf2 := fit_le room (L.drop (lnA L k room))
    simp only [List.length_drop] at hf2
    generalize lnA L k room = a at *
    have hst : Sl w w.heap.size A (zi (L.take k)) := by
      have h1 := hS.take k
      rwa [zi_take] at h1
    have hsd : Sl w w.heap.size (bhI A c a) (zi (L.drop a)) := sl_bhI hS c a (by omega)
    have P1 : Hid (∀ W, Below w.heap.size w W → Boxed W w.heap.size 22 (.slice A k c) → Calls Try.prog 11 #[.int .i64 (room - tkW L k), .func (.func 23) #[] #[.pointer (some ⟨w.heap.size, 0, none⟩)]] W fun e w' => e = .returned (.int .i64 (fitN (room - tkW L k) (L.take k).reverse)) ∧ Below W.heap.size W w') :=
      Lib.hid (fun W hW hbx => fit_back (room - tkW L k) (by omega) (by omega) (L.take k) k c w.heap.size A W (by simp; omega) (by omega) ((hst.below hW).more hW.size) hbx)
    have P2 : Hid (∀ W, Below w.heap.size w W → Calls Try.prog 11 #[.int .i64 room, .func (.func 24) #[] #[.pointer (some ⟨W.heap.size, 0, none⟩)]] (W.alloc (.cells #[.slice (bhI A c a) (n - a) (c - a)] 22)) fun e w' => e = .returned (.int .i64 (fitN room (L.drop a))) ∧ Below W.heap.size W w') :=
      Lib.hid (fun W hW => (fit_forth room (by omega) (by omega) (L.drop a) (n - a) (c - a) W.heap.size (bhI A c a) _ (by simp; omega) (by omega) (((hsd.below hW).more hW.size).alloc (Nat.le_refl _) _ |>.more (by simp)) (Boxed.new _ _ _)).mono (by rintro e w' ⟨rfl, h⟩; exact ⟨rfl, ((Below.refl _ _).alloc (Nat.le_refl _) _).trans (h.mono (by simp))⟩))
    obtain ⟨t, ht⟩ : ∃ t, tkW L k = t := ⟨_, rfl⟩
    rw [ht] at ea hwat htk hf1 P1
    obtain ⟨F, hF⟩ : ∃ F, fitN (room - t) (L.take k).reverse = F := ⟨_, rfl⟩
    rw [hF] at ea hf1 P1
    obtain ⟨G, hG⟩ : ∃ G, fitN room (L.drop a) = G := ⟨_, rfl⟩
    rw [hG] at hf2 P2
    rw [hG]
    have hkF : (k : Int) - F = a := by omega
    have HKF := Lib.hid hkF
    have E := fun V => isl_h A n c k (by omega) V
    have E2 := fun V => isl_l A n c a (by omega) V
    have hFk : F ≤ k := by omega
    have hGn : a + G ≤ n := by omega
    have hw1 : IntKind.i64.wrap (room - t) = room - t := IntWalk.i64_in _ (by omega)
    have hw2 : IntKind.i64.wrap ((k : Int) - F) = a := by rw [HKF.out]; exact IntWalk.i64_in _ (by omega)
    have hkc : (k : Int) ≤ c := by omega
    clear hst hsd ht hF hG ea eb hkF hf1 hf2 hS hn
    go_enter Try.func5, Try.ntmps5
    go_wp2_with (refine HRAT.out.mono ?_; rintro e w' ⟨rfl, rfl⟩)
    go_region_with (first
      | (go_at_call 12; refine hwat.out.mono ?_; rintro e w' ⟨rfl, rfl⟩)
      | (go_at_call 13; refine (iback_any _ _ _ _).mono ?_; rintro e w' ⟨rfl, rfl⟩)
      | (go_at_call 11; refine (P1.out _ (((Below.refl _ w).alloc (Nat.le_refl _) _).drew) (Boxed.new w _ _)).mono ?_; rintro e w' ⟨rfl, hb1⟩))
    all_goals
      have HB1 := Lib.hid (Below.trans (((Below.refl _ w).alloc (Nat.le_refl _) _).drew) (hb1.mono (by simp)))
      clear hb1
      simp only [Act.put]
      go_simp
      clear hw1 hw2
      have haw : (a : Int) ≤ n := by omega
      have hsum : (a : Int) + G ≤ 200 := by omega
      go_wp2_with (first
        | (go_at_call 14; refine (iall_any _ _ _ _).mono ?_; rintro e w2 ⟨rfl, rfl⟩)
        | (go_at_call 11; refine (P2.out _ HB1.out).mono ?_; rintro e w3 ⟨rfl, hb3⟩))
      go_ret2
      exact ⟨rfl, HB1.out.trans (hb3.mono HB1.out.size)⟩
end Go.Proofs.Ythkdedoambmfkaa
