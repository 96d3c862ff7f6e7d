/-
  Walks: Find of a history; has and Find of the document's.
-/
import Derived.Test.YtfjiogockpmogaaDoorHsNob
import Derived.Test.YtfjiogockpmogaaDoorHsRef
import Derived.Test.YtfjiogockpmogaaDoorHsShelf
import Derived.Lib.IndexMore
namespace Go.Proofs.YtfjiogockpmogaaDoor
open Go.RowKit Go.Shelf Go.Sort
attribute [local go_sem] Oper.semAt_some
set_option linter.unusedVariables false
set_option linter.unusedSimpArgs false

set_option maxRecDepth 100000 in
set_option maxHeartbeats 8000000 in
theorem hfind_seqM (p : Option Addr) (t : ByteArray) (a : Int) (P : List UInt8 → Bool) (w : World) (f0 : Nat → Prop) (T : List (Nat × List UInt8)) (N : Nat) (El : Nat × List UInt8 → Prop) (hf : ∀ k, f0 k → k < w.heap.size ∨ k = w.heap.size + 3 ∨ k = w.heap.size + 4)
    (hseq : ∀ W, Below w.heap.size w W → Boxed W (w.heap.size + 3) 23 (.pointer p) → Boxed W (w.heap.size + 4) 3 (.int .i64 (max a 0)) → SeqP Fence.wide 8 Tryd.prog 54 #[.pointer (some ⟨w.heap.size + 3, 0, none⟩), .pointer (some ⟨w.heap.size + 4, 0, none⟩)] encH f0 El (fun ys => ys = T) (fun pre => pre <+: T) N W)
    (hP : ∀ x, El x → ∀ W, Below w.heap.size w W → Calls Tryd.prog 38 #[.string ⟨x.2.toArray⟩, .string t] W fun e w' => e = .returned (.bool (P x.2)) ∧ W = w') :
    Calls Tryd.prog 17 #[.pointer p, .string t, .int .i64 a] w fun e w' => e = .returned (.tuple #[.int .i64 (findR P T).1, .bool (findR P T).2]) ∧ Below w.heap.size w w' := by
  have z1 := ((Boxed.new w 9 (.string t)).alloc (.cells #[.int .i64 0] 3)).alloc (.cells #[.bool false] 4)
  have z2 := (Boxed.new (w.alloc (.cells #[.string t] 9)) 3 (.int .i64 0)).alloc (.cells #[.bool false] 4)
  have z3 := Boxed.new ((w.alloc (.cells #[.string t] 9)).alloc (.cells #[.int .i64 0] 3)) 4 (.bool false)
  simp only [World.size_alloc] at z2 z3
  have hb : Below w.heap.size w (((w.alloc (.cells #[.string t] 9)).alloc (.cells #[.int .i64 0] 3)).alloc (.cells #[.bool false] 4)) := (((Below.refl _ w).alloc (Nat.le_refl _) _).alloc (by simp) _).alloc (by simp; omega) _
  have hsz : (((w.alloc (.cells #[.string t] 9)).alloc (.cells #[.int .i64 0] 3)).alloc (.cells #[.bool false] 4)).heap.size = w.heap.size + 3 := by simp
  have HSEQ := Lib.hid hseq
  have HF := Lib.hid hf
  have HP := Lib.hid hP
  have HB := Lib.hid hb
  have HZ1 := Lib.hid z1
  have HZ2 := Lib.hid z2
  have HZ3 := Lib.hid z3
  have HSZ := Lib.hid hsz
  clear hseq hf hP hb hsz z1 z2 z3
  obtain ⟨ma, hma⟩ : ∃ ma, max a 0 = ma := ⟨_, rfl⟩
  rw [hma] at HSEQ
  refine (callsIn_wide (n := 9)).1 ?_
  refine callsIn_of_wp_marks Tryd.func17 rfl trivial ?_ rfl
  simp only [Tryd.ntmps17, List.size_toArray, List.length_cons, List.length_nil, Nat.reduceAdd, Nat.reduceSub, Array.replicate_succ, Array.replicate_zero, List.push_toArray, List.append_toArray, List.nil_append, List.cons_append]
  refine wpIn_wide.2 ?_
  go_upto_region 1 with (fail)
  generalize ((w.alloc (.cells #[.string t] 9)).alloc (.cells #[.int .i64 0] 3)).alloc (.cells #[.bool false] 4) = w1 at *
  go_wp2_with (go_at_call 37; refine (hfrom_any _ _ _).mono ?_; rintro e w' ⟨rfl, rfl⟩)
  clear hma
  rw [HSZ.out]
  obtain ⟨X1, hX1⟩ : ∃ X1, X1 = (w1.alloc (.cells #[.pointer p] 23)).alloc (.cells #[.int .i64 ma] 3) := ⟨_, rfl⟩
  have hb1X : Below w1.heap.size w1 X1 := by rw [hX1]; exact ((Below.refl _ _).alloc (Nat.le_refl _) _).alloc (by simp) _
  have y0 : Boxed X1 (w.heap.size + 3) 23 (.pointer p) := by rw [hX1, ← HSZ.out]; exact (Boxed.new _ _ _).alloc _
  have y1 : Boxed X1 (w.heap.size + 4) 3 (.int .i64 ma) := by
    have := Boxed.new (w1.alloc (.cells #[.pointer p] 23)) 3 (.int .i64 ma)
    rw [World.size_alloc, HSZ.out] at this
    rw [hX1]; exact this
  have hszX : X1.heap.size = w.heap.size + 5 := by rw [hX1]; simp [HSZ.out]
  have hbX : Below w.heap.size w X1 := HB.out.trans (hb1X.mono HB.out.size)
  have HY1 : Hid (Boxed X1 w.heap.size 9 (.string t)) := Lib.hid ((hb1X.block _ (Boxed.lt HZ1.out)).trans HZ1.out)
  have HY2 : Hid (Boxed X1 (w.heap.size + 1) 3 (.int .i64 0)) := Lib.hid ((hb1X.block _ (Boxed.lt HZ2.out)).trans HZ2.out)
  have HY3 : Hid (Boxed X1 (w.heap.size + 1 + 1) 4 (.bool false)) := Lib.hid ((hb1X.block _ (Boxed.lt HZ3.out)).trans HZ3.out)
  have HBX := Lib.hid hbX
  have hxs : w.heap.size + 5 ≤ X1.heap.size := by omega
  rw [← hX1]
  have HSX := Lib.hid hszX
  clear hX1 hb1X hszX
  refine (wpIn_wide (n := 9)).1 ?_
  refine range_priv rfl (by omega) (gf := 54) (lb := #[.pointer (some ⟨w.heap.size + 3, 0, none⟩), .pointer (some ⟨w.heap.size + 4, 0, none⟩)]) rfl trivial (enters_of Tryd.func54 (by kernel_rfl) rfl)
    (HSEQ.out X1 hbX y0 y1)
    (Nat.le_refl _) (fun k hk => ⟨by have := HF.out k hk; omega, rfl⟩) (fun _ => rfl)
    (fun pre f W => (∀ y ∈ pre, P y.2 = false) ∧ Below X1.heap.size X1 W)
    (FindX w P)
    (AbP.and (AbP.pure _) (AbP.below (Nat.le_refl _) (Nat.le_refl _)))
    (FindX.ab (by omega) (by omega) (by omega))
    ⟨by simp, Below.refl _ _⟩
    ?a1 ?assign ?body ?done ?stop
  case assign =>
    intro l x W K hK
    simp only [encH]
    rw [put_two]
    gi_wp2
    exact hK
  case body =>
    rintro lo' pre x f W hff hz ⟨hno, hbW⟩ hlen hel
    have k1 : W.cell? ⟨w.heap.size, 0, none⟩ = some (.string t) := Boxed.cell (t := 9) ((hbW.block _ (Boxed.lt HY1.out)).trans HY1.out)
    have z2 : Boxed W (w.heap.size + 1) 3 (.int .i64 0) := (hbW.block _ (Boxed.lt HY2.out)).trans HY2.out
    have z3 : Boxed W (w.heap.size + 1 + 1) 4 (.bool false) := (hbW.block _ (Boxed.lt HY3.out)).trans HY3.out
    have r1 := z2.cell
    have fr1 := z2.frozen
    have r2 := z3.cell
    have fr2 := z3.frozen
    have HC := Lib.hid (HP.out x hel W (HBX.out.trans (hbW.mono HBX.out.size)))
    have HNO := Lib.hid hno
    have HBW := Lib.hid hbW
    have HZ2' := Lib.hid z2
    have HZ3' := Lib.hid z3
    by_cases hv : P x.2 = true
    · rw [hv] at HC
      have HV := Lib.hid hv
      clear hno hbW hv hel hlen hff z2 z3 y0 y1 hbX
      gi_wp2_with (fail)
      refine ⟨trivial, ?_⟩
      refine (CallsIn.inRound lo' (callsIn_wide.2 HC.out)).mono ?_
      rintro e w' ⟨rfl, rfl⟩
      gi_wp2
      refine ⟨((KeepsOthers.setCell W ⟨w.heap.size + 1, 0, none⟩ (.int .i64 x.1)).trans (KeepsOthers.setCell _ ⟨w.heap.size + 1 + 1, 0, none⟩ (.bool true))).from _, rfl, pre, x, rfl, HNO.out, HV.out, Boxed.setO (Boxed.set _ HZ2'.out) (k := w.heap.size + 1 + 1) (by omega) 0 _, Boxed.set _ (Boxed.setO HZ3'.out (k := w.heap.size + 1) (by omega) 0 _), ?_⟩
      exact ((HBX.out.trans (HBW.out.mono (by omega))).setCell (p := ⟨w.heap.size + 1, 0, none⟩) (by simp) _).setCell (p := ⟨w.heap.size + 1 + 1, 0, none⟩) (by simp; omega) _
    · have hv' : P x.2 = false := by simpa using hv
      rw [hv'] at HC
      have HV := Lib.hid hv'
      clear hno hbW hv hv' hel hlen hff z2 z3 y0 y1 hbX
      gi_wp2_with (fail)
      refine ⟨trivial, ?_⟩
      refine (CallsIn.inRound lo' (callsIn_wide.2 HC.out)).mono ?_
      rintro e w' ⟨rfl, rfl⟩
      gi_wp2
      exact ⟨Rk.refl _ _ _, (fun y hy => by
        rcases List.mem_append.1 hy with hy | hy
        · exact HNO.out y hy
        · simp only [List.mem_cons, List.not_mem_nil, or_false] at hy
          rw [hy]; exact HV.out), HBW.out⟩
  case done =>
    rintro D ys f W hD hys ⟨hno, hbW⟩ hK
    have hnone : findR P T = (0, false) := by
      unfold findR
      rw [← hys, find_nowhere hno]
    have z2 : Boxed W (w.heap.size + 1) 3 (.int .i64 0) := (hbW.block _ (Boxed.lt HY2.out)).trans HY2.out
    have z3 : Boxed W (w.heap.size + 1 + 1) 4 (.bool false) := (hbW.block _ (Boxed.lt HY3.out)).trans HY3.out
    have r1 := z2.cell
    have fr1 := z2.frozen
    have r2 := z3.cell
    have fr2 := z3.frozen
    have HN := Lib.hid hnone
    have HB2 := Lib.hid (HBX.out.trans (hbW.mono (by omega)))
    have HZ2' := Lib.hid z2
    have HZ3' := Lib.hid z3
    clear hno hbW hys hnone z2 z3 y0 y1 hbX
    go_wp2
    have hK' := ((KeepsOthers.setCell W ⟨w.heap.size + 1, 0, none⟩ (.int .i64 0)).trans (KeepsOthers.setCell _ ⟨w.heap.size + 1 + 1, 0, none⟩ (.bool false))).same D _ hK rfl
    refine ⟨by simp, .inl ⟨_, _, rfl, run_takeDeferred hK', ?_⟩⟩
    have z2 := Boxed.setO (Boxed.set (.int .i64 0) HZ2'.out) (k := w.heap.size + 1 + 1) (by omega) 0 (.bool false)
    have z3 := Boxed.set (.bool false) (Boxed.setO HZ3'.out (k := w.heap.size + 1) (by omega) 0 (.int .i64 0))
    have hend := find_end hK' z2 z3 ((HB2.out.setCell (p := ⟨w.heap.size + 1, 0, none⟩) (by simp) _).setCell (p := ⟨w.heap.size + 1 + 1, 0, none⟩) (by simp; omega) _) (by omega)
    have c2 := hend.1
    have c3 := hend.2.1
    have HE := Lib.hid hend.2.2
    clear hend
    refine ⟨.tuple #[.int .i64 0, .bool false], by simp [results, Tryd.f17, go_sem, c2, c3], ?_⟩
    exact ⟨by rw [HN.out]; rfl, HE.out⟩
  case stop =>
    rintro D co pre f W hD hpre ⟨rfl, p', x, hp, hno, hv, z2, z3, hb2⟩ hK
    rw [hp] at hpre
    have hsome : findR P T = (x.1, true) := by
      unfold findR
      rw [find_here hno hv hpre]
    have hend := find_end hK z2 z3 hb2 (by omega)
    have c2 := hend.1
    have c3 := hend.2.1
    have HE := Lib.hid hend.2.2
    have HN := Lib.hid hsome
    clear hend hsome hpre hp hno hv z2 z3 hb2 y0 y1 hbX
    gi_wp2
    refine ⟨by simp, .inl ⟨_, _, rfl, run_takeDeferred hK, ?_⟩⟩
    refine ⟨.tuple #[.int .i64 x.1, .bool true], by simp [results, Tryd.f17, go_sem, c2, c3], ?_⟩
    exact ⟨by rw [HN.out], HE.out⟩


/-- the variable of the library that Contains reads holds some int -/
def MaxL (w : World) (m : Int) : Prop := w.cell? ⟨0, 0, none⟩ = some (.int .i64 m) ∧ 0 < w.heap.size
theorem MaxL.below {w W : World} {m : Int} (h : MaxL w m) (hb : Below w.heap.size w W) : MaxL W m :=
  ⟨(hb.cell (p := ⟨0, 0, none⟩) h.2).trans h.1, Nat.lt_of_lt_of_le h.2 hb.size⟩
theorem maxl_of {W : World} (h : W.ShapedOpen Tryd.prog) : ∃ m, MaxL W m :=
  let ⟨m, hm⟩ := sh_laysM144.s1_3 W h
  ⟨m, hm, World.block_lt_of_cell? W _ hm⟩
theorem hcontains_any {w : World} {m : Int} (h : MaxL w m) (s t : List UInt8) (hs : s.length ≤ 1000000) :
    Calls Tryd.prog 38 #[.string ⟨s.toArray⟩, .string ⟨t.toArray⟩] w fun e w' => e = .returned (.bool (Lib.contains s t)) ∧ w = w' :=
  (sh_strings_Contains ⟨s.toArray⟩ ⟨t.toArray⟩ m w (by simp [ByteArray.size]; omega) h.1).mono (by rintro e w' ⟨rfl, rfl⟩; exact ⟨rfl, rfl⟩)
theorem hfind_yes {w : World} {lo h c most : Nat} {A : Option Addr} {L : List (List UInt8)} {K : Option HW} (q : HsAt w lo h A c most L K) (t : List UInt8) (a : Int) (ha : a ≤ 9223372036854775807) {m : Int} (hm : MaxL w m) :
    Calls Tryd.prog 17 #[.pointer (some ⟨h, 0, none⟩), .string ⟨t.toArray⟩, .int .i64 a] w fun e w' => e = .returned (.tuple #[.int .i64 (findR (fun l => Lib.contains l t) ((hats L).drop (max a 0).toNat)).1, .bool (findR (fun l => Lib.contains l t) ((hats L).drop (max a 0).toNat)).2]) ∧ Below w.heap.size w w' := by
  refine hfind_seqM (some ⟨h, 0, none⟩) ⟨t.toArray⟩ a (fun l => Lib.contains l t) w (fun k => HsAt.Own h A K k ∨ k = w.heap.size + 3 ∨ k = w.heap.size + 4) ((hats L).drop (max a 0).toNat) L.length (fun x => L[x.1]? = some x.2)
    (fun k hk => by
      rcases hk with hk | hk | hk
      · exact .inl (q.own_lt k hk).2
      · exact .inr (.inl hk)
      · exact .inr (.inr hk))
    (fun W hW z1 z2 => ?_)
    (fun x hx W hW => hcontains_any (hm.below hW) x.2 t (by have := (q.ok x.2 (List.mem_of_getElem? hx)).2; omega))
  have e : ((max a 0).toNat : Int) = max a 0 := by omega
  exact hfrom_stops (q.below hW) (w.heap.size + 3) (w.heap.size + 4) (max a 0).toNat (by omega) z1 (by rw [e]; exact z2) _ (.inr (.inl rfl)) (.inr (.inr rfl)) (fun k hk => .inl hk) 6
/-! The document's. -/
theorem contains_yes {s t : List UInt8} {i : Nat} (hi : i ≤ s.length) (h : Lib.occAt s t i = true) : Lib.contains s t = true := by
  unfold Lib.contains
  rcases Lib.index_spec s t with ⟨_, h2⟩ | ⟨j, h2, _⟩
  · rw [h2 i hi] at h; cases h
  · rw [h2]; simp
theorem contains_no {s t : List UInt8} (h : ∀ j, j ≤ s.length → Lib.occAt s t j = false) : Lib.contains s t = false := by
  unfold Lib.contains
  rw [Lib.index_none h]; rfl
theorem occ_long {s t : List UInt8} {i : Nat} (h : s.length < i + t.length) (hi : i ≤ s.length) : Lib.occAt s t i = false := by
  unfold Lib.occAt
  cases hp : t.isPrefixOf (s.drop i) with
  | false => rfl
  | true =>
    have h1 := (List.isPrefixOf_iff_prefix.1 hp).length_le
    rw [List.length_drop] at h1
    omega
theorem occ_take {s t : List UInt8} {i : Nat} : Lib.occAt s t i = ((s.drop i).take t.length == t) := by
  unfold Lib.occAt
  rw [Bool.eq_iff_iff, List.isPrefixOf_iff_prefix, List.prefix_iff_eq_take]
  simp only [beq_iff_eq]
  exact eq_comm
set_option maxRecDepth 100000 in
set_option maxHeartbeats 4000000 in
theorem rhas14_any (s t : List UInt8) (hs : s.length ≤ 1000000) (ht : t.length ≤ 1000000) (w : World) :
    Calls Tryd.prog 39 #[.string ⟨s.toArray⟩, .string ⟨t.toArray⟩] w fun e w' => e = .returned (.bool (Lib.contains s t)) ∧ w = w' := by
  obtain ⟨q, hq⟩ : ∃ q : ByteArray, q = ⟨s.toArray⟩ := ⟨_, rfl⟩
  obtain ⟨r, hr⟩ : ∃ r : ByteArray, r = ⟨t.toArray⟩ := ⟨_, rfl⟩
  have hqs : q.size = s.length := by rw [hq]; simp [ByteArray.size]
  have hrs : r.size = t.length := by rw [hr]; simp [ByteArray.size]
  obtain ⟨v, hv⟩ : ∃ v, Lib.contains s t = v := ⟨_, rfl⟩
  rw [← hq, ← hr, hv]
  have hx : ∀ i : Nat, ((q.extract i (i + r.size)).toList == r.toList) = Lib.occAt s t i := fun i => by
    rw [occ_take, Lib.toList_data, Lib.toList_data, Lib.extract_data, hr, hq]
    simp [ByteArray.size]
  have HX := Lib.hid hx
  have HV := Lib.hid hv
  have HQS := Lib.hid hqs
  have HRS := Lib.hid hrs
  have hq1 : q.size ≤ 1000000 := by omega
  have hr1 : r.size ≤ 1000000 := by omega
  clear hx hv hq hr hqs hrs
  go_enter Tryd.func39, Tryd.ntmps39
  go_wp2_with (fail)
  go_loop [5] (fun u => ∃ k : Nat, u = .int .i64 k ∧ k ≤ q.size + 1 ∧ (∀ j, j < k → Lib.occAt s t j = false)) (fun u => q.size + 1 - (intOf u).toNat)
  case atStart => exact ⟨0, rfl, by omega, fun j hj => by omega⟩
  case round =>
    obtain ⟨k, rfl, hk, hno⟩ := hrel
    have HNO := Lib.hid hno
    clear hno
    by_cases hlt : k + r.size ≤ q.size
    · have h1 : (r.size : Int) ≤ (q.size : Int) - k := by omega
      have h2 : (k : Int) + r.size ≤ q.size := by omega
      have h3 : (k : Int) ≤ (k : Int) + r.size := by omega
      have hxk := HX.out k
      cases ho : Lib.occAt s t k with
      | true =>
        rw [ho] at hxk
        have hv1 : v = true := by rw [← HV.out]; exact contains_yes (by have := HQS.out; omega) ho
        subst hv1
        clear ho
        go_wp2_with (fail)
        go_ret
        exact ⟨rfl, rfl⟩
      | false =>
        rw [ho] at hxk
        have HO := Lib.hid ho
        clear ho
        go_wp2_with (fail)
        go_round
        case rel => exact ⟨k + 1, by go_num, by omega, fun j hj => by
          rcases Nat.lt_succ_iff_lt_or_eq.1 hj with h | h
          · exact HNO.out j h
          · subst h; exact HO.out⟩
        case measure => simp [intOf]; omega
    · have h1 : ¬ (r.size : Int) ≤ (q.size : Int) - k := by omega
      have hv1 : v = false := by
        rw [← HV.out]
        refine contains_no (fun j hj => ?_)
        rcases Nat.lt_or_ge j k with h | h
        · exact HNO.out j h
        · exact occ_long (by have := HQS.out; have := HRS.out; omega) hj
      subst hv1
      go_wp2_with (fail)
      go_ret
      exact ⟨rfl, rfl⟩
theorem findR_at {P : List UInt8 → Bool} {L : List (List UInt8)} {a k : Nat} {x : List UInt8} (hx : L[k]? = some x) (ha : a ≤ k) (hno : ∀ j, a ≤ j → j < k → ∀ y, L[j]? = some y → P y = false) (hp : P x = true) : findR P ((hats L).drop a) = (k, true) := by
  have hk : k < L.length := (List.getElem?_eq_some_iff.1 hx).1
  have hg : ((hats L).drop a)[k - a]? = some (k, x) := by
    rw [List.getElem?_drop, show a + (k - a) = k by omega, hats_get hk]
    rw [List.getElem?_eq_getElem hk] at hx
    injection hx with hx
    rw [hx]
  have hpre : ((hats L).drop a).take (k - a) ++ [(k, x)] <+: (hats L).drop a := by
    have h1 : ((hats L).drop a).take (k - a + 1) = ((hats L).drop a).take (k - a) ++ [(k, x)] := by rw [List.take_add_one, hg]; rfl
    rw [← h1]; exact List.take_prefix _ _
  have hf := find_here (P := fun x : Nat × List UInt8 => P x.2) (pre := ((hats L).drop a).take (k - a)) (x := (k, x)) (fun y hy => by
    obtain ⟨j, hj⟩ := List.mem_iff_getElem?.1 hy
    rw [List.getElem?_take] at hj
    split at hj
    · next hjk =>
      rw [List.getElem?_drop] at hj
      have hjl : a + j < L.length := by omega
      rw [hats_get hjl] at hj
      injection hj with hj
      rw [← hj]
      exact hno (a + j) (by omega) (by omega) _ (List.getElem?_eq_getElem hjl)
    · cases hj) hp hpre
  unfold findR
  rw [hf]
theorem findR_no {P : List UInt8 → Bool} {L : List (List UInt8)} {a : Nat} (hno : ∀ j, a ≤ j → ∀ y, L[j]? = some y → P y = false) : findR P ((hats L).drop a) = (0, false) := by
  have hf := find_nowhere (P := fun x : Nat × List UInt8 => P x.2) (T := (hats L).drop a) (fun y hy => by
    obtain ⟨j, hj⟩ := List.mem_iff_getElem?.1 hy
    rw [List.getElem?_drop] at hj
    have hjl : a + j < L.length := by
      have := (List.getElem?_eq_some_iff.1 hj).1
      rwa [hats_length] at this
    rw [hats_get hjl] at hj
    injection hj with hj
    rw [← hj]
    exact hno (a + j) (by omega) _ (List.getElem?_eq_getElem hjl))
  unfold findR
  rw [hf]
set_option maxRecDepth 100000 in
set_option maxHeartbeats 4000000 in
theorem rfind14_any (L : List (List UInt8)) (hok : ∀ l ∈ L, l.length ≤ 3000) (A : Option Addr) (n c : Nat) (t : List UInt8) (ht : t.length ≤ 1000) (a : Int) (w : World) (hn : n = L.length) (hl4 : n ≤ 256) (hS : Sl w w.heap.size A (sv L)) :
    Calls Tryd.prog 18 #[.agg #[.int .i64 0, .slice A n c, .bool false, .string ⟨#[]⟩, .string ⟨#[]⟩, .int .i64 0], .string ⟨t.toArray⟩, .int .i64 a] w fun e w' => e = .returned (.tuple #[.int .i64 (findR (fun l => Lib.contains l t) ((hats L).drop (max a 0).toNat)).1, .bool (findR (fun l => Lib.contains l t) ((hats L).drop (max a 0).toNat)).2]) ∧ Below w.heap.size w w' := by
  have hb := (Below.refl w.heap.size w).alloc (Nat.le_refl _) (.cells #[.int .i64 0, .slice A n c, .bool false, .string ⟨#[]⟩, .string ⟨#[]⟩, .int .i64 0] 29)
  have hB := Blk.new w 29 [.int .i64 0, .slice A n c, .bool false, .string ⟨#[]⟩, .string ⟨#[]⟩, .int .i64 0]
  obtain ⟨z, hz⟩ : ∃ z : Nat, max a 0 = z := ⟨(max a 0).toNat, by omega⟩
  have hz2 : max 0 a = (z : Int) := by omega
  have ez : (max a 0).toNat = z := by omega
  rw [ez]
  obtain ⟨r, hr⟩ : ∃ r, findR (fun l => Lib.contains l t) ((hats L).drop z) = r := ⟨_, rfl⟩
  rw [hr]
  have HR := Lib.hid hr
  have HS := Lib.hid ((hS.below hb).more hb.size)
  have HN := Lib.hid hn
  have HOK := Lib.hid hok
  have HB := Lib.hid hb
  clear hz ez hr hS hn hok hb
  go_enter Tryd.func18, Tryd.ntmps18
  go_upto_region 1 with (fail)
  have e1 : (w.alloc (.cells #[.int .i64 0, .slice A n c, .bool false, .string ⟨#[]⟩, .string ⟨#[]⟩, .int .i64 0] 29)).cell? ⟨w.heap.size, 1, none⟩ = some (.slice A n c) := hB.cell 1
  clear hB
  generalize w.alloc (.cells #[.int .i64 0, .slice A n c, .bool false, .string ⟨#[]⟩, .string ⟨#[]⟩, .int .i64 0] 29) = W at *
  go_wp2_with (fail)
  go_loop [8] (fun u => ∃ k : Nat, u = .int .i64 k ∧ z ≤ k ∧ (k ≤ n ∨ k = z) ∧ (∀ j, z ≤ j → j < k → ∀ y, L[j]? = some y → Lib.contains y t = false)) (fun u => n - (intOf u).toNat)
  case atStart => exact ⟨z, by first | rfl | rw [hz2], Nat.le_refl _, .inr rfl, fun j h1 h2 => by omega⟩
  case round =>
    obtain ⟨k, rfl, hzk, hk, hno⟩ := hrel
    have HNO := Lib.hid hno
    clear hno hz2
    by_cases hlt : k < n
    · have hki : (k : Int) < n := by omega
      have hkl : k < L.length := by have := HN.out; omega
      obtain ⟨b, off, hA, _, hcell⟩ := hs_at HS.out (List.getElem?_eq_getElem hkl)
      subst hA
      have hget := List.getElem?_eq_getElem hkl
      have hxl := HOK.out L[k] (List.getElem_mem hkl)
      generalize L[k] = x at hcell hget hxl
      have HG := Lib.hid hget
      have HH := Lib.hid (rhas14_any x t (by omega) (by omega) W)
      clear hget hxl
      cases hc : Lib.contains x t with
      | true =>
        rw [hc] at HH
        have HRR : Hid (r = (k, true)) := Lib.hid (by rw [← HR.out]; exact findR_at HG.out hzk HNO.out hc)
        clear hc
        go_wp2_with (refine HH.out.mono ?_; rintro e w' ⟨rfl, rfl⟩)
        go_ret2
        exact ⟨by rw [HRR.out]; rfl, HB.out⟩
      | false =>
        rw [hc] at HH
        have HC := Lib.hid hc
        clear hc
        go_wp2_with (refine HH.out.mono ?_; rintro e w' ⟨rfl, rfl⟩)
        go_round
        case rel => exact ⟨k + 1, by go_num, by omega, .inl (by omega), fun j h1 h2 y hy => by
          rcases Nat.lt_succ_iff_lt_or_eq.1 h2 with h | h
          · exact HNO.out j h1 h y hy
          · subst h; rw [HG.out] at hy; injection hy with hy; rw [← hy]; exact HC.out⟩
        case measure => simp [intOf]; omega
    · have hki : ¬ (k : Int) < n := by omega
      have HRR : Hid (r = (0, false)) := Lib.hid (by
        rw [← HR.out]
        exact findR_no (fun j h1 y hy => HNO.out j h1 (by have := (List.getElem?_eq_some_iff.1 hy).1; have := HN.out; omega) y hy))
      go_wp2_with (fail)
      go_ret2
      exact ⟨by rw [HRR.out]; rfl, HB.out⟩
end Go.Proofs.YtfjiogockpmogaaDoor
