/-
  Walks: the reference's sequence.
-/
import Derived.Test.YtfmkeeaenjeneaaGreatDoorRtObey2
import Derived.Test.YtfmkeeaenjeneaaGreatDoorQuietL
import Derived.Test.YtfmkeeaenjeneaaGreatDoorRegK
import Derived.Test.YtfmkeeaenjeneaaGreatDoorGfA
namespace Go.Proofs.YtfmkeeaenjeneaaGreatDoor
open Go.RowKit Go.Sort
set_option linter.unusedVariables false
set_option linter.unusedSimpArgs false

theorem rspan_at {p : UInt8 → Bool} : ∀ (l : List UInt8) (j : Nat), j < spanN p l → ∃ h : j < l.length, p l[j] = true := by
  intro l
  induction l with
  | nil => intro j h; simp [spanN] at h
  | cons x t ih =>
    intro j h
    unfold spanN at h
    rw [List.takeWhile_cons] at h
    by_cases hx : p x = true
    · rw [if_pos hx, List.length_cons] at h
      cases j with
      | zero => exact ⟨by simp, hx⟩
      | succ j => obtain ⟨h1, h2⟩ := ih j (by unfold spanN; omega); exact ⟨by simp; omega, by simpa using h2⟩
    · rw [if_neg hx] at h; simp at h
theorem rspan_end {p : UInt8 → Bool} : ∀ (l : List UInt8) (h : spanN p l < l.length), p l[spanN p l] = false := by
  intro l
  induction l with
  | nil => intro h; simp [spanN] at h
  | cons x t ih =>
    intro h
    by_cases hx : p x = true
    · have e : spanN p (x :: t) = spanN p t + 1 := by unfold spanN; rw [List.takeWhile_cons, if_pos hx]; rfl
      have h' : spanN p t < t.length := by rw [e] at h; simpa using h
      have := ih h'
      simp only [e, List.getElem_cons_succ]
      exact this
    · have e : spanN p (x :: t) = 0 := by unfold spanN; rw [List.takeWhile_cons, if_neg hx]; rfl
      simp only [e, List.getElem_cons_zero]
      simpa using hx
theorem par_at {B : List UInt8} {j : Nat} (h2 : 2 ≤ j) (hj : j < parN B) : ∃ h : j < B.length, isPar B[j] = true := by
  unfold parN at hj
  obtain ⟨h, hp⟩ := rspan_at (p := isPar) (B.drop 2) (j - 2) (by omega)
  rw [List.length_drop] at h
  refine ⟨by omega, ?_⟩
  rw [List.getElem_drop] at hp
  have e : 2 + (j - 2) = j := by omega
  simpa [e] using hp
theorem par_end {B : List UInt8} (h2 : 2 ≤ B.length) (h : parN B < B.length) : isPar (B[parN B]'h) = false := by
  have h' : spanN isPar (B.drop 2) < (B.drop 2).length := by rw [List.length_drop]; unfold parN at h; omega
  have := rspan_end (B.drop 2) h'
  rw [List.getElem_drop] at this
  exact this
theorem mid_at {B : List UInt8} {j : Nat} (h2 : parN B ≤ j) (hj : j < midN B) : ∃ h : j < B.length, isMid B[j] = true := by
  unfold midN at hj
  obtain ⟨h, hp⟩ := rspan_at (p := isMid) (B.drop (parN B)) (j - parN B) (by omega)
  rw [List.length_drop] at h
  refine ⟨by omega, ?_⟩
  rw [List.getElem_drop] at hp
  have e : parN B + (j - parN B) = j := by omega
  simpa [e] using hp
theorem mid_end {B : List UInt8} (h2 : 2 ≤ B.length) (h : midN B < B.length) : isMid (B[midN B]'h) = false := by
  have hp := parN_le h2
  have h' : spanN isMid (B.drop (parN B)) < (B.drop (parN B)).length := by rw [List.length_drop]; unfold midN at h; omega
  have := rspan_end (B.drop (parN B)) h'
  rw [List.getElem_drop] at this
  exact this
theorem isPar_iff (c : UInt8) : isPar c = (decide (48 ≤ (c.toNat : Int)) && decide ((c.toNat : Int) ≤ 63)) := by
  unfold isPar; rw [Bool.eq_iff_iff]; simp [UInt8.le_iff_toNat_le]; omega
theorem isMid_iff (c : UInt8) : isMid c = (decide (32 ≤ (c.toNat : Int)) && decide ((c.toNat : Int) ≤ 47)) := by
  unfold isMid; rw [Bool.eq_iff_iff]; simp [UInt8.le_iff_toNat_le]; omega
theorem isFin_iff (c : UInt8) : isFin c = (decide (64 ≤ (c.toNat : Int)) && decide ((c.toNat : Int) ≤ 126)) := by
  unfold isFin; rw [Bool.eq_iff_iff]; simp [UInt8.le_iff_toNat_le]; omega
/-- what a sequence does -/
def seqT (T : TS) (B : List UInt8) : TS := if (cutS B).1 = 0 then T else if (cutS B).2 = true then execT { T with joins := false } ((B.take ((cutS B).1 - 1)).drop 2) (B.getD ((cutS B).1 - 1) 0) else { T with joins := false }
/-- where something stands in the middle the numbers are none -/
theorem exec_mid (T : TS) (ps : List UInt8) (f : UInt8) (h : ∃ c ∈ ps.drop (if ps.head? = some 63 then 1 else 0), isMid c = true) : execT T ps f = T := by
  obtain ⟨c, hc, hm⟩ := h
  have hno : (c == 59 || (48 ≤ c && c ≤ 57)) = false := by
    rw [num_iff]
    rw [isMid_iff] at hm
    simp at hm ⊢
    omega
  unfold execT
  by_cases hp : ps.head? = some 63
  · rw [if_pos hp, List.drop_one] at hc
    have : areN ps.tail = false := by unfold areN; rw [List.all_eq_false]; exact ⟨c, hc, by simpa using hno⟩
    simp [hp, this]
  · rw [if_neg hp, List.drop_zero] at hc
    have : areN ps = false := by unfold areN; rw [List.all_eq_false]; exact ⟨c, hc, by simpa using hno⟩
    simp [hp, this]
/-- a struct's store as one step of a region -/
theorem step_store_blk {P : Program} {ops : Array Oper} {o : Oper} {a : Act} {w : World} {K : Act → World → Prop} {Q : Exit → Act → World → Prop} {E : Prop} (hgd : o.guard = none) (ty : TypeId) (x y : Operand) (ho : o.op = .store ty x y)
    (b p : Nat) (t : TypeId) (cs ds : List Value) (hx : a.eval x = .pointer (some ⟨b, p, none⟩)) (hy : a.eval y = .agg ds.toArray)
    (hb : Blk w b t cs) (hfit : p + ds.length ≤ cs.length) (hi : (P.info? ty).map (·.size) = some ds.length) (h1 : ∀ v ∈ ds, v.oneCell' = true)
    (h : ∀ w', Blk w' b t (splice cs p ds) → w.grownBy w' (some b) → K (a.put o.dst undef) w') : if Region.wanted o (yielded ops a.tmps) = true then Oper.wp P o a w K Q else E := by
  have hw : Region.wanted o (yielded ops a.tmps) = true := by simp [Region.wanted, hgd]
  rw [if_pos hw]
  unfold Oper.wp execOp
  simp only [ho, hx, hy, Instr.storeAt, Instr.sureAddr, Sem.run_bind, Sem.run_pure, Result.andThen_ok, run_storeVar_blk w b p ty t cs ds hb hfit hi h1]
  exact h _ (hb.row _) (grown_setRow w b _)
theorem enters_robeyed : ∀ args w, (callFunc 78 args).run Tryz.prog w = .ok (.enter 78 args) w := enters_of Tryz.func78 (by kernel_rfl) rfl
/-- something in the middle: the numbers are none -/
theorem seq_mid (T : TS) (B : List UInt8) (j i : Nat) (h2 : 2 ≤ j) (hji : j < i) (hil : i < B.length) (f : UInt8) (hm : isMid (B[j]'(by omega)) = true) : execT T ((B.take i).drop 2) f = T := by
  have hidx : ((B.take i).drop 2)[j - 2]? = some (B[j]'(by omega)) := by
    rw [List.getElem?_drop, List.getElem?_take, show 2 + (j - 2) = j by omega, if_pos hji, List.getElem?_eq_getElem (by omega)]
  refine exec_mid T _ f ⟨B[j]'(by omega), ?_, hm⟩
  by_cases hp : ((B.take i).drop 2).head? = some 63
  · rw [if_pos hp]
    have h3 : j ≠ 2 := fun e => by
      subst e
      rw [Nat.sub_self] at hidx
      rw [List.head?_eq_getElem?, hidx] at hp
      have hc := Option.some.inj hp
      rw [hc] at hm
      revert hm; decide
    refine List.mem_of_getElem? (i := j - 3) ?_
    rw [List.getElem?_drop, show 1 + (j - 3) = j - 2 by omega]
    exact hidx
  · rw [if_neg hp, List.drop_zero]
    exact List.mem_of_getElem? hidx
set_option maxRecDepth 100000 in
set_option maxHeartbeats 8000000 in
theorem rseq_ob {w : World} {D : Nat → Prop} {A : Option Addr} {c : Nat} {T : TS} {vB : Value} (h : RfAt w D A c T.L) (hk : TOk T) (hv : vB.oneCell' = true) (B : List UInt8) (h2 : 2 ≤ B.length) (hl : B.length ≤ 100000000) (b off n cb : Nat) (hn : n = B.length) (hcb : n ≤ cb) (hS : Sl w w.heap.size (some ⟨b, off, none⟩) (bv B)) (i : Nat) (hpi : parN B = i) (hmi : midN B = i) (h32 : i < 32) (hil : i < B.length) (ci : UInt8) (hci : B[i]? = some ci) (hf : isFin ci = true) :
    Calls Tryz.prog 54 #[.agg #[.int .i64 T.W, .int .i64 T.L.length, .slice A T.L.length c, .int .i64 T.row, .int .i64 T.col, .bool T.y.b, .bool T.y.u, .bool T.y.i, .int .i64 T.y.f, .int .i64 T.y.g, .bool T.pend, .bool T.seen, .bool T.mark, .int .i64 T.bells, .int .i64 T.scr, vB, .bool T.joins, .int .i64 T.lr, .int .i64 T.lc], .slice (some ⟨b, off, none⟩) n cb] w fun e w' => ∃ V, e = .returned (.tuple #[V, .int .i64 (cutS B).1]) ∧ RtV w' (fun b => D b ∨ w.heap.size ≤ b) V (seqT T B) vB ∧ Below w.heap.size w w' := by
  have HK : Hid (TOk { T with joins := false }) := Lib.hid ⟨hk.q, hk.row, hk.col⟩
  obtain ⟨b', off', hA, hbb, hcx⟩ := hS.open_ (by rw [bv_length]; omega)
  injection hA with hA
  injection hA with e1 e2
  subst e1 e2
  have hp2 : 2 ≤ i := by rw [← hpi]; unfold parN; omega
  have HPA : Hid (∀ j, 2 ≤ j → j < i → ∃ h : j < B.length, isPar B[j] = true) := Lib.hid (fun j a e => par_at (B := B) a (by omega))
  have HCB : Hid (∀ W, Below w.heap.size w W → ∀ j (hj : j < B.length), W.cell? ⟨b, off + j, none⟩ = some (.int .u8 (B[j]).toNat)) := Lib.hid (fun W hW j hj => (hW.cell (p := ⟨b, off + j, none⟩) hbb).trans (hcx j _ (bv_get hj)))
  have HCI : Hid (∀ W, Below w.heap.size w W → W.cell? ⟨b, off + i, none⟩ = some (.int .u8 ci.toNat)) := Lib.hid (fun W hW => by
    have h1 := HCB.out W hW i hil
    have h2 : B[i] = ci := by rw [List.getElem?_eq_getElem hil] at hci; exact Option.some.inj hci
    rw [h1, h2])
  have hcut : cutS B = (i + 1, true) := by
    unfold cutS
    rw [hmi, if_neg (by omega), hci]
    simp [hf]
  rw [isFin_iff] at hf
  simp only [Bool.and_eq_true, decide_eq_true_eq] at hf
  obtain ⟨f1, f2⟩ := hf
  have hc1 : ((cutS B).1 : Int) = (i : Int) + 1 := by rw [hcut]; rfl
  obtain ⟨ps, hps⟩ : ∃ ps, ps = (B.take i).drop 2 := ⟨_, rfl⟩
  have hpl : ps.length = i - 2 := by rw [hps, List.length_drop, List.length_take]; omega
  have hE : seqT T B = execT { T with joins := false } ps ci := by
    unfold seqT
    rw [hcut, if_neg (by simp), if_pos rfl]
    simp only [Nat.add_sub_cancel]
    rw [← hps, List.getD_eq_getElem?_getD, hci]
    rfl
  have hsl : Sl w w.heap.size (some ⟨b, off + 2, none⟩) (bv (ps ++ [ci])) := by
    have h1 := hS.drop (k := 2) (cap := n) (by rw [bv_length]; omega)
    rw [if_neg (by omega)] at h1
    have h3 := h1.take (i - 1)
    rw [bv_drop, bv_take] at h3
    have e : (B.drop 2).take (i - 1) = ps ++ [ci] := by
      have e1 : (B.take (i + 1)).drop 2 = (B.drop 2).take (i - 1) := by rw [List.drop_take]; congr 1
      have e2 : B[i] = ci := by rw [List.getElem?_eq_getElem hil] at hci; exact Option.some.inj hci
      rw [← e1, List.take_succ_eq_append_getElem hil, List.drop_append_of_le_length (by rw [List.length_take]; omega), ← hps, e2]
    rw [e] at h3
    exact h3
  obtain ⟨T9, hT9⟩ : ∃ T9, T9 = execT { T with joins := false } ps ci := ⟨_, rfl⟩
  rw [← hT9] at hE
  have HV := Lib.hid hv
  have HOB : Hid (∀ W A c cap, i + 1 - 2 ≤ cap → Below w.heap.size w W → RfAt W (DD w D) A c T.L → Calls Tryz.prog 78 #[.agg (rtC { T with joins := false } A c vB).toArray, .slice (some ⟨b, off + 2, none⟩) (i + 1 - 2) cap] W fun e w' => ∃ A3 c3, e = .returned (.agg (rtC T9 A3 c3 vB).toArray) ∧ RfAt w' (fun b => DD w D b ∨ W.heap.size ≤ b) A3 c3 T9.L ∧ Below W.heap.size W w') := Lib.hid (fun W A c cap hcap hW hr => by
    rw [hT9]
    refine (robey_any (T := { T with joins := false }) hr HK.out HV.out ps ci b (off + 2) (i + 1 - 2) cap (by omega) (by omega) hcap ((hsl.below hW).more hW.size)).mono ?_
    rintro e w' ⟨V, rfl, ⟨A3, c3, rfl, hr3⟩, hb⟩
    exact ⟨A3, c3, rfl, hr3, hb⟩)
  have HE := Lib.hid hE
  have HC1 := Lib.hid hc1
  have hcb2 : i + 1 - 2 ≤ cb - 2 := by omega
  have hin : i < n := by omega
  have HN := Lib.hid hn
  have hn2 : n ≤ 100000000 := by omega
  clear hcx hk hS hpi hmi hci hcut hE hc1 hps hpl hsl hT9
  obtain ⟨W0, HW0, HS0⟩ := rt_start (vB := vB) h
  go_enter Tryz.func54, Tryz.ntmps54
  go_upto_region 1 with fail
  rw [← HW0.out]
  clear HW0
  clear h hv
  go_wp2_with (fail)
  go_loop [6] (fun v6 => ∃ j : Nat, v6 = .int .i64 j ∧ 2 ≤ j ∧ j ≤ i) (fun v6 => i - (intOf v6).toNat)
  case atStart => exact ⟨2, rfl, by omega, by omega⟩
  case round =>
    obtain ⟨j, rfl, hj2, hjp⟩ := hrel
    by_cases hlt : j < i
    · obtain ⟨hjl, hpar⟩ := HPA.out j hj2 hlt
      have e0_b := HCB.out _ HS0.out.bel j hjl
      have hjn : (j : Int) < (n : Int) := by omega
      generalize B[j] = cj at hpar e0_b
      rw [isPar_iff] at hpar
      simp only [Bool.and_eq_true, decide_eq_true_eq] at hpar
      obtain ⟨q1, q2⟩ := hpar
      clear hjl
      go_wp2
      go_round
      case rel => exact ⟨j + 1, by go_num, by omega, by omega⟩
      case measure => simp [intOf]; omega
    · obtain rfl : i = j := by omega
      clear hlt
      have e0_i := HCI.out _ HS0.out.bel
      have hji : (i : Int) < (n : Int) := by omega
      have hx48 : 48 ≤ (ci.toNat : Int) := by omega
      have hx63 : ¬ ((ci.toNat : Int) ≤ 63) := by omega
      have hx32 : 32 ≤ (ci.toNat : Int) := by omega
      have hx47 : ¬ ((ci.toNat : Int) ≤ 47) := by omega
      go_wp2
      clear hx48 hx63
      go_loop [6] (fun v6 => v6 = .int .i64 i) (fun v6 => 0)
      case atStart => rfl
      case round =>
        subst hrel
        have h32i : (i : Int) < 32 := by omega
        have hie : ((i : Int) == (n : Int)) = false := by
          have : ¬ (i : Int) = (n : Int) := by omega
          simpa using this
        have hni : ¬ (i : Int) < (i : Int) := by omega
        have hwr : IntKind.i64.wrap ((i : Int) + 1) = (i : Int) + 1 := IntWalk.i64_in _ (by omega)
        have hw0 : 0 ≤ (i : Int) + 1 := by omega
        have hwc : (i : Int) + 1 ≤ (cb : Int) := by omega
        have hw2 : (2 : Int) ≤ (i : Int) + 1 := by omega
        have hwt : ((i : Int) + 1).toNat = i + 1 := by omega
        have hcb3 : cb ≠ 2 := by omega
        go_wp2_with (first
          | ((with_reducible refine at_store 58 ?_); refine wpList_store_cell rfl _ _ _ rfl rfl w.heap.size 16 _ (rtC T A c vB) (.bool false) rfl rfl HS0.out.x (by simp [rtC]) (by kernel_rfl) rfl ?_; intro w1 hn hg; have HS1 := Lib.hid (HS0.out.set (T' := { T with joins := false }) hg hn rfl); have e1_i : w1.cell? ⟨b, off + i, none⟩ = some (.int .u8 ci.toNat) := grown_cell hg (by omega) e0_i; clear hn hg))
        have HSR : Hid ((fun W : World => W.rangeAt w.heap.size 0 (rtC { T with joins := false } A c vB)) w1.drew) := Lib.hid (HS1.out.below (Below.refl w1.heap.size w1).drew).x.whole
        have HD1 : Hid (RtS w w1.drew D { T with joins := false } A c vB) := Lib.hid (HS1.out.below (Below.refl w1.heap.size w1).drew)
        refine wp_region_K (fun W : World => W.rangeAt w.heap.size 0 (rtC { T with joins := false } A c vB)) 8 (by kernel_rfl) ?_
        refine wpAnyK_take (i := 0) (v := .agg (rtC { T with joins := false } A c vB).toArray) rfl (by kernel_rfl) (by kernel_rfl) (by kernel_rfl) (by kernel_rfl) (fun _ _ _ h => h) (yieldsIf_load_mid (by rfl) _ _ rfl w.heap.size 0 rfl (rtC { T with joins := false } A c vB) _ (fun w h => h) Tryz.underlying34 rfl rt_size) HSR.out ?_
        change wpAnyK _ _ _ _ _ _ _ _ (Act.put _ (some 85) _) _
        try simp only [Act.put, List.setIfInBounds_toArray, List.set_cons_zero, List.set_cons_succ]
        refine wpAnyK_takeP (i := 1) (v := ?_) rfl (by kernel_rfl) (by kernel_rfl) (by kernel_rfl) (by kernel_rfl) (fun _ _ _ h => h) (Or.inl ⟨by rfl, ?_⟩) (.inr HSR.out) ?_
        rotate_left
        · intro w hSw
          go_simp
          try with_reducible rfl
        change wpAnyK _ _ _ _ _ _ _ _ (Act.put _ (some 86) _) _
        try simp only [Act.put, List.setIfInBounds_toArray, List.set_cons_zero, List.set_cons_succ]
        refine wpAnyK_takeP (i := 2) (v := ?_) rfl (by kernel_rfl) (by kernel_rfl) (by kernel_rfl) (by kernel_rfl) (fun _ _ _ h => h) (Or.inl ⟨by rfl, ?_⟩) (.inr HSR.out) ?_
        rotate_left
        · intro w hSw
          go_simp
          try with_reducible rfl
        change wpAnyK _ _ _ _ _ _ _ _ (Act.put _ (some 87) _) _
        try simp only [Act.put, List.setIfInBounds_toArray, List.set_cons_zero, List.set_cons_succ]
        refine wpAnyK_takeP (i := 3) (v := ?_) rfl (by kernel_rfl) (by kernel_rfl) (by kernel_rfl) (by kernel_rfl) (fun _ _ _ h => h) (Or.inl ⟨by rfl, ?_⟩) (.inr HSR.out) ?_
        rotate_left
        · intro w hSw
          go_simp
          try with_reducible rfl
        change wpAnyK _ _ _ _ _ _ _ _ (Act.put _ (some 88) _) _
        try simp only [Act.put, List.setIfInBounds_toArray, List.set_cons_zero, List.set_cons_succ]
        refine wpAnyK_takeP (i := 4) (v := ?_) rfl (by kernel_rfl) (by kernel_rfl) (by kernel_rfl) (by kernel_rfl) (fun _ _ _ h => h) (Or.inl ⟨by rfl, ?_⟩) (.inr HSR.out) ?_
        rotate_left
        · intro w hSw
          go_simp
          try with_reducible rfl
        change wpAnyK _ _ _ _ _ _ _ _ (Act.put _ (some 89) _) _
        try simp only [Act.put, List.setIfInBounds_toArray, List.set_cons_zero, List.set_cons_succ]
        refine wpAnyK_takeP (i := 6) (v := ?_) rfl (by kernel_rfl) (by kernel_rfl) (by kernel_rfl) (by kernel_rfl) (fun _ _ _ h => h) (Or.inl ⟨by rfl, ?_⟩) (.inr HSR.out) ?_
        rotate_left
        · intro w hSw
          go_simp
          try with_reducible rfl
        change wpAnyK _ _ _ _ _ _ _ _ (Act.put _ (some 91) _) _
        try simp only [Act.put, List.setIfInBounds_toArray, List.set_cons_zero, List.set_cons_succ]
        refine wpAnyK_takeP (i := 7) (v := ?_) rfl (by kernel_rfl) (by kernel_rfl) (by kernel_rfl) (by kernel_rfl) (fun _ _ _ h => h) (Or.inl ⟨by rfl, ?_⟩) (.inr HSR.out) ?_
        rotate_left
        · intro w hSw
          go_simp
          try with_reducible rfl
        change wpAnyK _ _ _ _ _ _ _ _ (Act.put _ (some 92) _) _
        try simp only [Act.put, List.setIfInBounds_toArray, List.set_cons_zero, List.set_cons_succ]
        refine wpAnyK_only (i := 5) (by kernel_rfl) rfl (fun K hK => ?_)
        refine step_call rfl 78 _ _ rfl enters_robeyed #[.agg (rtC { T with joins := false } A c vB).toArray, .slice (some ⟨b, off + 2, none⟩) (i + 1 - 2) (cb - 2)] (by simp [Act.eval, Act.put]) (HOB.out _ A c _ hcb2 HD1.out.bel HD1.out.g) ?_
        rintro e wx ⟨A3, c3, rfl, hr3, hb3⟩
        refine ⟨_, rfl, ?_⟩
        have HSX := Lib.hid (HD1.out.below hb3)
        have HR3 := Lib.hid (HD1.out.rowsD hr3)
        have HRX : Hid ((fun W : World => W.rangeAt w.heap.size 0 (rtC { T with joins := false } A c vB)) wx) := Lib.hid HSX.out.x.whole
        refine hK.out _ _ (.inr HRX.out) ?_
        clear hK K hr3 hb3
        change wpAnyK _ _ _ _ _ _ _ _ (Act.put _ (some 90) _) _
        try simp only [Act.put, List.setIfInBounds_toArray, List.set_cons_zero, List.set_cons_succ]
        refine wpAnyK_only (i := 8) (by kernel_rfl) rfl (fun K hK => ?_)
        refine step_store_blk rfl _ _ _ rfl (w.heap.size + 1) 0 _ rtZ (rtC T9 A3 c3 vB) (by simp [Act.eval, Act.put]) (by simp [Act.eval, Act.put]) HSX.out.z (by simp [rtC, rtZ]) rt_size (rtC_one _ _ _ HV.out) ?_
        intro w9 hn9 hg9
        refine hK.out _ _ (.inl (by kernel_rfl)) ?_
        clear hK K
        change wpAnyK _ _ _ _ _ _ _ _ (Act.put _ (none) _) _
        try simp only [Act.put, List.setIfInBounds_toArray, List.set_cons_zero, List.set_cons_succ]
        refine wpAnyK_only (i := 9) (by kernel_rfl) rfl (fun K hK => ?_)
        go_simp
        refine hK.out _ _ (.inl (by kernel_rfl)) ?_
        clear hK K
        try simp only [Act.put, List.setIfInBounds_toArray, List.set_cons_zero, List.set_cons_succ]
        refine wpAnyK_done (by kernel_rfl) ?_ _
        go_wp2_with (fail)
        rw [HE.out, HC1.out]
        exact bodyPost_ret (results_ct rfl rfl rfl hn9.whole Tryz.underlying34 rfl rt_size) rfl ⟨_, rfl, HSX.out.outV HR3.out hg9⟩
end Go.Proofs.YtfmkeeaenjeneaaGreatDoor
