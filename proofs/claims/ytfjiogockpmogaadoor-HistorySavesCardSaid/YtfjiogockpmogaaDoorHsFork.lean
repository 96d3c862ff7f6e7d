/-
  Walks: Clone of a row of texts; Fork of a history.
-/
import Derived.Test.YtfjiogockpmogaaDoorHsSave
namespace Go.Proofs.YtfjiogockpmogaaDoor
open Go.RowKit Go.Shelf
set_option linter.unusedVariables false
set_option linter.unusedSimpArgs false

theorem heql_strs0 (w : World) : Sem.run Tryd.prog (binOp .eql 27 (.slice none 0 0) (.slice none 0 0)) w = .ok (.bool true) w := by
  have h : ∀ d : Nat, (Op.equalIn (d + 1) 27 (.slice none 0 0) (.slice none 0 0)).run Tryd.prog w = .ok true w := fun d => by
    simp [Op.equalIn, run_underlying Tryd.underlying27]
  simp only [binOp]
  simp [Op.equal, Op.maxDepth, h 9999]
theorem heql_strs (a : Addr) (m c : Nat) (w : World) : Sem.run Tryd.prog (binOp .eql 27 (.slice (some a) m c) (.slice none 0 0)) w = .ok (.bool false) w := by
  have h : ∀ d : Nat, (Op.equalIn (d + 1) 27 (.slice (some a) m c) (.slice none 0 0)).run Tryd.prog w = .ok false w := fun d => by
    simp [Op.equalIn, run_underlying Tryd.underlying27]
  simp only [binOp]
  simp [Op.equal, Op.maxDepth, h 9999]
theorem hsv_one (l : List (List UInt8)) : ∀ v ∈ sv l, v.oneCell' = true := by
  intro v hv
  obtain ⟨c, _, rfl⟩ := List.mem_map.1 hv
  rfl
set_option maxRecDepth 100000 in
set_option maxHeartbeats 4000000 in
theorem hclone_any (L : List (List UInt8)) (A : Option Addr) (c : Nat) (hl : L.length ≤ 100000) (hnn : L = [] → A = none) (hA : A = none → c = 0) (hlc : L.length ≤ c) (w : World) (hS : Sl w w.heap.size A (sv L)) :
    Calls Tryd.prog 51 #[.slice A L.length c] w fun e w' => ∃ A' c', e = .returned (.slice A' L.length c') ∧ OR w' w.heap.size 9 A' L.length c' (sv L) ∧ (L = [] → A' = none) ∧ Below w.heap.size w w' := by
  by_cases hL : L = []
  · subst hL
    obtain rfl := hnn rfl
    obtain rfl := hA rfl
    have he := heql_strs0
    simp only [List.length_nil]
    go_enter Tryd.func51, Tryd.ntmps51
    go_wp2
    go_ret
    exact ⟨none, 0, rfl, OR.none_ _ _ _, by simp, Below.refl _ _⟩
  · obtain ⟨b, off, rfl, _, _⟩ := hS.open_ (by rw [sv_length]; exact List.length_pos_iff.2 hL)
    obtain ⟨i0, hi0, hz0, hz1, hz2⟩ := info_parts str_info
    have HI0 := Lib.hid hi0
    have HZ0 := Lib.hid hz0
    have HZ1 := Lib.hid hz1
    have HZ2 := Lib.hid hz2
    have HS := Lib.hid hS
    have HM := Lib.hid (sv_length L)
    have HC := Lib.hid (hsv_one L)
    have HL := Lib.hid hL
    obtain ⟨m, hm⟩ : ∃ m, m = L.length := ⟨_, rfl⟩
    rw [← hm] at HM hl ⊢
    clear hi0 hz0 hz1 hz2 hS hm hnn hA hlc hL
    have he := heql_strs ⟨b, off, none⟩ m c
    go_enter Tryd.func51, Tryd.ntmps51
    go_wp2_with (at_builtin; go_loud (refine wpList_append_sl _ rfl (.tmp 5) (.tmp 6) _ rfl w.heap.size 9 i0 _ 1 16 Tryd.underlying27 HI0.out HZ0.out HZ1.out HZ2.out rfl (by omega) (.slice (some ⟨w.heap.size, 0, none⟩) 0 0) 0 [] rfl (by have := World.ownsRow_lit (base := w.heap.size) (e := 9) (size := 1) w #[] 0 (Nat.le_refl _) (by simp only [maxLen]; omega) (by simp); simpa using this) w.heap.size (some ⟨b, off, none⟩) m c (sv L) rfl (HS.out.alloc (Nat.le_refl _) _) (by rw [HM.out, Nat.mul_one]) (fun h => by cases h) HC.out (by simp only [maxLen]; omega) (by omega) (by simp) ?_); intro v' w2 ho hg hat)
    obtain ⟨A', c', hv', hn', _⟩ := own_of ho
    rw [Nat.zero_add, List.nil_append] at ho
    rw [Nat.zero_add] at hv'
    subst hv'
    go_wp2
    go_ret
    exact ⟨A', c', rfl, ⟨ho, hn'⟩, fun e => absurd e HL.out, ((Below.refl _ _).alloc (Nat.le_refl _) _).grown hg (by simp) (fun k hk => by simp [Value.ownBlock] at hk; omega)⟩

/-- what a fork is -/
def HForkP (w : World) (lo most : Nat) (L : List (List UInt8)) (K : Option HW) (e : Ending) (w' : World) : Prop :=
  ∃ h' A' c', e = .returned (.pointer (some ⟨h', 0, none⟩)) ∧ HsAt w' lo h' A' c' most L K ∧ w.heap.size ≤ h' ∧ (∀ k, blk A' = some k → w.heap.size ≤ k) ∧ Below w.heap.size w w'
set_option maxRecDepth 100000 in
set_option maxHeartbeats 8000000 in
theorem hfork_any {w : World} {lo h c most : Nat} {A : Option Addr} {L : List (List UInt8)} {K : Option HW} (q : HsAt w lo h A c most L K) (hlw : lo ≤ w.heap.size) :
    Calls Tryd.prog 26 #[.pointer (some ⟨h, 0, none⟩)] w (HForkP w lo most L K) := by
  have c0 := q.c0
  have Q := Lib.hid q
  have PC : Hid (∀ W, Below w.heap.size w W → Calls Tryd.prog 51 #[.slice A L.length c] W fun e w' => ∃ A' c', e = .returned (.slice A' L.length c') ∧ OR w' w.heap.size 9 A' L.length c' (sv L) ∧ (L = [] → A' = none) ∧ Below w.heap.size w w') := Lib.hid (fun W hW => (hclone_any L A c (by have := q.len4; omega) q.nn q.lc.2.2 q.lc.1 W ((q.row.below hW).more hW.size)).mono (by
    rintro e w' ⟨A', c', rfl, ho, hnn, hb⟩
    exact ⟨A', c', rfl, ho.weaken hW.size, hnn, hW.trans (hb.mono hW.size)⟩))
  have PW : Hid (∀ W, Below w.heap.size w W → ∀ A' c', Calls Tryd.prog 22 #[.int .i64 most, .slice A' L.length c', .agg (wkC K).toArray] W fun e w' => ∃ h', e = .returned (.pointer (some ⟨h', 0, none⟩)) ∧
      Blk w' h' 71 (.pointer (some ⟨h', 0, none⟩) :: .int .i64 most :: .slice A' L.length c' :: wkC K) ∧ W.heap.size ≤ h' ∧ Below W.heap.size W w' ∧ Below w.heap.size w w') := Lib.hid (fun W hW A' c' => (hwith_any most L A' c' K W).mono (by
    rintro e w' ⟨h', rfl, hbk, hlo, hb⟩
    exact ⟨h', rfl, hbk, hlo, hb, hW.trans (hb.mono hW.size)⟩))
  obtain ⟨v3, v4, v5, hwc⟩ : ∃ v3 v4 v5, wkC K = [v3, v4, v5] := by cases K <;> exact ⟨_, _, _, rfl⟩
  have hhd := q.head
  rw [hwc] at PW hhd
  have HK : Hid (∀ W, Below w.heap.size w W → Below w.heap.size w W ∧ W.cell? ⟨h, 1, none⟩ = some (.int .i64 most) ∧ W.cell? ⟨h, 2, none⟩ = some (.slice A L.length c) ∧ W.cell? ⟨h, 3, none⟩ = some v3 ∧ W.cell? ⟨h, 4, none⟩ = some v4 ∧ W.cell? ⟨h, 5, none⟩ = some v5) := Lib.hid (fun W hW => by
    have hb := hhd.below hW hhd.lt
    exact ⟨hW, hb.cell 1, hb.cell 2, hb.cell 3, hb.cell 4, hb.cell 5⟩)
  have HWC := Lib.hid hwc
  have HDR := Lib.hid ((Below.refl w.heap.size w).drew)
  have s1 := (HK.out w (Below.refl _ _)).2
  obtain ⟨s1, s2, s3, s4, s5⟩ := s1
  clear q hhd hwc
  go_enter Tryd.func26, Tryd.ntmps26
  go_wp2_with (go_at_call 35; refine (hmade_yes h _ c0).mono ?_; rintro e w1 ⟨rfl, rfl⟩)
  go_region_held3 (fun w' => Below w.heap.size w w' ∧ w'.cell? ⟨h, 1, none⟩ = some (.int .i64 most) ∧ w'.cell? ⟨h, 2, none⟩ = some (.slice A L.length c) ∧ w'.cell? ⟨h, 3, none⟩ = some v3 ∧ w'.cell? ⟨h, 4, none⟩ = some v4 ∧ w'.cell? ⟨h, 5, none⟩ = some v5)
    (first | exact HK.out _ hbx | exact HK.out _ HDR.out)
    (first
      | (go_at_call 51; refine (PC.out _ (by first | assumption | exact And.left (by assumption))).mono ?_; rintro e wx ⟨A', c', rfl, ho, hnn, hbx⟩; have HO := Lib.hid ho; have HNN := Lib.hid hnn; clear ho hnn)
      | (go_at_call 22; refine (PW.out _ hbx A' c').mono ?_; rintro e wx ⟨h', rfl, hbk, hlo, hbw, hbx⟩; have HBK := Lib.hid hbk; have HLO := Lib.hid (Nat.le_trans (by first | exact HB0.out | exact Below.size (by assumption)) hlo); have HO2 := Lib.hid (HO.out.on hbw); clear hbk hlo hbw))
  all_goals
    go_wp2_with (fail)
    go_ret
    have q := Q.out
    have hbk := HBK.out
    rw [← HWC.out] at hbk
    have ho := HO2.out
    have hlo : w.heap.size ≤ h' := by assumption
    refine ⟨h', A', c', rfl, ⟨hbk, ho.sl, fun g hg => ?_, ⟨ho.capH.1, ho.capH.2, ho.2⟩, fun k hk => ?_, q.le, q.m1, q.m4, by omega, q.ok, HNN.out⟩, hlo, fun k hk => (ho.blk_lt k hk).1, hbx⟩
    · have h1 := ho.blk_lt g hg
      refine ⟨by omega, fun e => ?_, h1.2⟩
      subst e
      obtain ⟨_, ⟨hv, hz⟩ | ⟨g2, cap, cur, hv, hbg, hg2, _⟩⟩ := ho.1
      · injection hv with hA; subst hA; cases hg
      · injection hv with hA; subst hA
        have : g2 = g := by simpa [blk] using hg
        subst this
        unfold Blk at hbk
        rw [hg2] at hbk
        injection hbk with hbk
        injection hbk with _ hbk _
        revert hbk; decide
    · have h1 := q.wk k hk
      exact ⟨⟨(hbx.block _ h1.1.bd.lt).trans h1.1.bd, (hbx.block _ h1.1.bb.lt).trans h1.1.bb, h1.1.dl, h1.1.bl⟩, h1.2⟩
end Go.Proofs.YtfjiogockpmogaaDoor
