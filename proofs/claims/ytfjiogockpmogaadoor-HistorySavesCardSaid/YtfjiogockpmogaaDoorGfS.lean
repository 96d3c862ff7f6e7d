/-
  Walks: the reference's control, Mark, Cut.
  Walks: the reference's Clean, Flat, Width, Columns, Is, Join, Fit, SameAll.
  Walks: the reference's Join, Fit, SameAll.
-/
import Derived.Test.YtfjiogockpmogaaDoorGfF
import Derived.Test.YtfjiogockpmogaaDoorGfC
import Derived.Test.YtfjiogockpmogaaDoorGfR
import Derived.Test.YtfjiogockpmogaaDoorGfW
import Derived.Deep.RegionHeld3
import Derived.Deep.QuietTactic
import Derived.BigQuiet
import Derived.WalkSmall
import Derived.IntWalk
namespace Go.Proofs.YtfjiogockpmogaaDoor
open Go.RowKit
set_option linter.unusedVariables false

theorem size_of (l : List UInt8) : (⟨l.toArray⟩ : ByteArray).size = l.length := by show l.toArray.size = _; simp
/-- An append whose run is known. -/
theorem wpList_run {ops : Array Oper} {rest : List Oper} {o : Oper} {a : Act} {w : World} {Q : Exit → Act → World → Prop} (T U : TypeId) (hgd : o.guard = none) (s x : Operand)
    (ho : o.op = .call { callee := .builtin .append, args := #[s, x], argTypes := #[T, U] }) (vs vx v' : Value) (w' : World) (hs : a.eval s = vs) (hx : a.eval x = vx)
    (hrun : (Builtin.append_ #[T, U] o.type #[vs, vx]).run Tryd.prog w = .ok v' w') (h : wpList Tryd.prog ops Q rest (a.put o.dst v') w') : wpList Tryd.prog ops Q (o :: rest) a w := by
  refine wpList_plain hgd fun K hK => ?_
  unfold Oper.wp execOp
  simp only [ho, resolve, invoke, builtin, Sem.run_bind, Sem.run_pure, Result.andThen_ok, List.map_toArray, List.map_cons, List.map_nil, hs, hx, hrun]
  exact hK _ _ h

set_option maxHeartbeats 400000 in
theorem rctl3_any (r : Int) (w : World) : Calls Tryd.prog 91 #[.int .i32 r] w fun e w' => e = .returned (.bool (ctB r)) ∧ w = w' := by
  go_enter Tryd.func91, Tryd.ntmps91
  go_wp2
  all_goals
    go_ret
    exact ⟨ret_bool (by unfold ctB; rw [Bool.eq_iff_iff]; simp; omega), rfl⟩

theorem mk_of {r : Int} (h0 : ofI r = 0) (hr : isR r) (hc : ctB r = false) : mkB r = true := by
  cases hm : mkB r with
  | true => rfl
  | false => have := ofI_base hr ⟨hc, hm⟩; omega

set_option maxHeartbeats 1000000 in
theorem rmark3_any (r : Int) (w : World) : Calls Tryd.prog 74 #[.int .i32 r] w fun e w' => e = .returned (.bool (mkB r)) ∧ Below w.heap.size w w' := by
  have hbd := ofI_01 r
  by_cases hm : mkB r = true
  · have h0 := ofI_mk hm
    have h1 := (mk_isR hm).1
    have h2 := (mk_isR hm).2.1
    rw [hm]
    generalize ofI r = v at h0 hbd
    have hof : ∀ w, Calls Tryd.prog 73 #[.int .i32 r] w fun e w' => e = .returned (.int .i64 0) ∧ Below w.heap.size w w' := fun w => by
      have := rof_any r w; rw [ofI_mk hm] at this; exact this
    have HO := Lib.hid hof
    have HR := Lib.hid (decide_eq_true h1)
    have HC := Lib.hid h2
    clear hm h0 h1 h2 hof hbd
    go_enter Tryd.func74, Tryd.ntmps74
    go_wp2_with (first
      | (go_at_call 73; refine (HO.out _).mono ?_; rintro e w1 ⟨rfl, hb1⟩)
      | (go_at_call 85; refine (is_any _ _).mono ?_; rintro e w' ⟨rfl, rfl⟩; rw [HR.out])
      | (go_at_call 91; refine (rctl3_any _ _).mono ?_; rintro e w' ⟨rfl, rfl⟩; rw [HC.out]))
    go_ret
    exact ⟨rfl, hb1⟩
  · have hm' : mkB r = false := by simpa using hm
    rw [hm']
    have hno : ofI r = 0 → isR r → ctB r = true := fun h0 h1 => by
      cases hc : ctB r with
      | true => rfl
      | false => exact absurd (mk_of h0 h1 hc) hm
    by_cases h0 : ofI r = 0
    · have hof : ∀ w, Calls Tryd.prog 73 #[.int .i32 r] w fun e w' => e = .returned (.int .i64 0) ∧ Below w.heap.size w w' := fun w => by
        have := rof_any r w; rw [h0] at this; exact this
      have HO := Lib.hid hof
      by_cases h1 : isR r
      · have HR := Lib.hid (decide_eq_true h1)
        have HC := Lib.hid (hno h0 h1)
        clear hm hm' h0 h1 hof hbd hno
        go_enter Tryd.func74, Tryd.ntmps74
        go_wp2_with (first
          | (go_at_call 73; refine (HO.out _).mono ?_; rintro e w1 ⟨rfl, hb1⟩)
          | (go_at_call 85; refine (is_any _ _).mono ?_; rintro e w' ⟨rfl, rfl⟩; rw [HR.out])
          | (go_at_call 91; refine (rctl3_any _ _).mono ?_; rintro e w' ⟨rfl, rfl⟩; rw [HC.out]))
        go_ret
        exact ⟨rfl, hb1⟩
      · have HR := Lib.hid (decide_eq_false h1)
        clear hm hm' h0 h1 hof hbd hno
        go_enter Tryd.func74, Tryd.ntmps74
        go_wp2_with (first
          | (go_at_call 73; refine (HO.out _).mono ?_; rintro e w1 ⟨rfl, hb1⟩)
          | (go_at_call 85; refine (is_any _ _).mono ?_; rintro e w' ⟨rfl, rfl⟩; rw [HR.out]))
        go_ret
        exact ⟨rfl, hb1⟩
    · have hz : (ofI r == 0) = false := by simp; exact h0
      have hof := rof_any r
      generalize ofI r = v at hof hz h0 hbd
      have HO := Lib.hid hof
      clear hm hm' h0 hof hno hbd
      go_enter Tryd.func74, Tryd.ntmps74
      go_wp2_with (first
        | (go_at_call 73; refine (HO.out _).mono ?_; rintro e w1 ⟨rfl, hb1⟩))
      go_ret
      exact ⟨rfl, hb1⟩

theorem OR.setAt {w : World} {base n c g j : Nat} {e : TypeId} {xs : List Value} (h : OR w base e (some ⟨g, 0, none⟩) n c xs) (hj : j < n) (v : Value) : OR (w.setCell ⟨g, j, none⟩ v) base e (some ⟨g, 0, none⟩) n c (xs.set j v) := by
  obtain ⟨⟨hl, hv⟩, hn⟩ := h
  rcases hv with ⟨hv, _⟩ | ⟨q, cap, cur, hv, h1, h2, h3, h4, h5, h6⟩
  · cases hv
  · injection hv with hA _ hc
    injection hA with hA
    injection hA with hA
    subst hA hc
    refine ⟨⟨by simpa using hl, .inr ⟨g, c, cur.setIfInBounds j v, rfl, h1, ?_, h3, h4, by simpa using h5, ?_⟩⟩, hn⟩
    · obtain ⟨hlt, hk⟩ := Array.getElem?_eq_some_iff.1 h2
      show (w.heap.modify g _)[g]? = _
      rw [Array.getElem?_eq_getElem (by rw [Array.size_modify]; exact hlt), Array.getElem_modify_self, hk]
      simp
    · rw [← h6]
      simp [Array.toList_setIfInBounds, List.take_set]
theorem OR.cell {w : World} {base n c : Nat} {e : TypeId} {A : Option Addr} {xs : List Value} (h : OR w base e A n c xs) {j : Nat} {u : Value} (hu : xs[j]? = some u) : ∃ g, A = some ⟨g, 0, none⟩ ∧ base ≤ g ∧ w.cell? ⟨g, j, none⟩ = some u ∧ w.frozen? ⟨g, j, none⟩ = false := by
  have hj : j < xs.length := (List.getElem?_eq_some_iff.1 hu).1
  obtain ⟨⟨hl, hv⟩, hn⟩ := h
  rcases hv with ⟨hv, h0⟩ | ⟨q, cap, cur, hv, h1, h2, h3, h4, h5, h6⟩
  · omega
  · injection hv with hA _ hc
    subst hA
    refine ⟨q, rfl, h1, ?_, by simp [World.frozen?, h2]⟩
    rw [← h6, List.getElem?_take] at hu
    split at hu
    · simp [World.cell?, h2]
      simpa using hu
    · cases hu

theorem OR.weaken {w : World} {base base' n c : Nat} {e : TypeId} {A : Option Addr} {xs : List Value} (h : OR w base e A n c xs) (hb : base' ≤ base) : OR w base' e A n c xs := by
  refine ⟨⟨h.1.1, ?_⟩, h.2⟩
  rcases h.1.2 with e | ⟨g, cap, cur, hv, h1, h2⟩
  · exact .inl e
  · exact .inr ⟨g, cap, cur, hv, Nat.le_trans hb h1, h2⟩

theorem OR.on {w w' : World} {base n c : Nat} {e : TypeId} {A : Option Addr} {xs : List Value} (h : OR w base e A n c xs) (hb : Below w.heap.size w w') : OR w' base e A n c xs := h.below hb (fun g hg => (h.blk_lt g hg).2)
theorem below_al {w w' : World} {o : Obj} (h : Below (w.alloc o).heap.size (w.alloc o) w') : Below w.heap.size w w' := ((Below.refl _ _).alloc (Nat.le_refl _) o).trans (h.mono (by simp))
theorem str_add (a b : List UInt8) : (⟨a.toArray⟩ : ByteArray) ++ ⟨b.toArray⟩ = ⟨(a ++ b).toArray⟩ := by
  apply ByteArray.ext; simp [ByteArray.data_append]

/-- the texts of the clusters so far -/
def outs (xs : List Int) : List (List UInt8) := (fin (run xs)).map eb
theorem sv_set (cs : List (List UInt8)) (c d : List UInt8) : (sv (cs ++ [c])).set cs.length (.string ⟨d.toArray⟩) = sv (cs ++ [d]) := by
  rw [sv_snoc, sv_snoc, List.set_append_right _ _ (by rw [sv_length]; omega), sv_length]
  simp

set_option maxRecDepth 100000 in
set_option maxHeartbeats 4000000 in
theorem rcut_any (s : ByteArray) (hs : s.size ≤ 4000000) (w : World) :
    Calls Tryd.prog 58 #[.string s] w fun e w' => ∃ A c, e = .returned (.slice A (cls (rs s.data.toList)).length c) ∧ OR w' w.heap.size 9 A (cls (rs s.data.toList)).length c (sv ((cls (rs s.data.toList)).map eb)) ∧ Below w.heap.size w w' := by
  obtain ⟨cp, fr, hcv, hge, hmx⟩ := run_bytes_str w s
  have hmx' := hmx (by simp only [maxLen]; omega)
  have HGE := Lib.hid hge
  have HMX := Lib.hid hmx'
  have hSl := sl_bytesRow w.drew s cp 5 fr
  generalize hL : s.data.toList = L at hSl ⊢
  generalize hC : cls (rs L) = C
  have HCL := Lib.hid hC
  have hLs : L.length = s.size := by rw [← hL]; rfl
  have HSl := Lib.hid hSl
  have HLS := Lib.hid hLs
  clear hge hmx hmx' hSl hL hLs hC
  go_enter Tryd.func58, Tryd.ntmps58
  go_wp2_with (fail)
  refine (runes_any _ s.size cp L _ HLS.out.symm (by have := HLS.out; omega) HGE.out HMX.out (by have := HSl.out.more (B' := (w.drew.alloc (.cells (bytesRow s cp) 5 fr)).heap.size) (by simp); exact this)).mono ?_
  rintro e w1 ⟨A1, c1, A2, c2, rfl, h1, h2, hb1⟩
  have hb0 : Below w.heap.size w w1 := ((Below.refl _ _).drew.alloc (Nat.le_refl _) _).trans (hb1.mono (by simp))
  have hisr : ∀ x ∈ rnsOf L, isR x.2 := rns_isR _ _ _
  have hlen := rnsOf_le L
  have hcl : fin (run ((rnsOf L).map (·.2))) = C := HCL.out
  generalize hR : rnsOf L = R at h1 hisr hlen hcl ⊢
  have HS1 := Lib.hid h1.sl
  have HIS := Lib.hid hisr
  have HCX := Lib.hid hcl
  have hRl : R.length ≤ 4000000 := by have := HLS.out; omega
  clear h1 h2 hb1 hcv hisr hcl hR hlen
  go_wp2
  go_loopw [3, 6] (fun v3 v6 wr => ∃ (k : Nat) (A : Option Addr) (n c : Nat), v6 = .int .i64 k ∧ k ≤ R.length ∧ v3 = .slice A n c ∧ n ≤ k ∧ OR wr w1.heap.size 9 A n c (sv (outs ((R.take k).map (·.2)))) ∧ Below w1.heap.size w1 wr) (fun _ v6 _ => R.length - (intOf v6).toNat)
  case atStart => exact ⟨0, none, 0, 0, rfl, by omega, rfl, by omega, OR.none_ _ _ _, Below.refl _ _⟩
  case round =>
    obtain ⟨k, A, n, c, rfl, hk, rfl, hnk, hO, hbw⟩ := hrel
    by_cases hlt : k < R.length
    · have hlt' : (k : Int) < (R.length : Int) := by omega
      obtain ⟨b, off, rfl, hbb, hcell⟩ := HS1.out.open_ (by simp [rv]; omega)
      have hx0 := hcell k (.int .i32 R[k].2) (by simp [rv, hlt])
      have hx : wr.cell? ⟨b, off + k, none⟩ = some (.int .i32 R[k].2) := (hbw.cell (p := ⟨b, off + k, none⟩) hbb).trans hx0
      have hxr := HIS.out _ (List.getElem_mem hlt)
      have hrun : run ((R.take (k + 1)).map (·.2)) = st2 (run ((R.take k).map (·.2))) R[k].2 := by
        rw [List.take_succ_eq_append_getElem hlt, List.map_append]; exact run_snoc _ _
      have hok := ok_run (xs := (R.take k).map (·.2)) (fun r hr => by
        obtain ⟨y, hy, rfl⟩ := List.mem_map.1 hr
        exact HIS.out y (List.mem_of_mem_take hy))
      unfold outs at hO
      generalize hq : run ((R.take k).map (·.2)) = q at hO hrun hok
      generalize R[k].2 = x at hx hxr hrun
      have hn : n = (fin q).length := by rw [hO.len, sv_length, List.length_map]
      have h4 := e4_le x
      have hbd := ofI_01 x
      have hsw := hbw.size
      have hxa : ∀ o, (wr.alloc o).cell? ⟨b, off + k, none⟩ = some (.int .i32 x) := fun o => (World.cell?_alloc_lt wr o ⟨b, off + k, none⟩ (by show b < _; omega)).trans hx
      have HRUN := Lib.hid hrun
      obtain ⟨kb, hkb⟩ : ∃ kb, e4 x = kb := ⟨_, rfl⟩
      have HKB : Hid (enc (rfix x) = kb) := hkb
      rw [hkb] at h4
      have HKE := Lib.hid hkb
      clear hx0 hcell hrun hq hkb
      rcases kinds x with hk1 | hk1 | hk1
      · -- a control
        have hofw : ∀ w, Calls Tryd.prog 73 #[.int .i32 x] w fun e w' => e = .returned (.int .i64 0) ∧ Below w.heap.size w w' := fun w => by
          have := rof_any x w; rw [ofI_ct hk1] at this; exact this
        have hm0 : mkB x = false := by
          cases hm : mkB x with
          | false => rfl
          | true => have := (mk_isR hm).2.1; rw [hk1] at this; cases this
        have HOF := Lib.hid hofw
        have HM := Lib.hid hm0
        have HST : Hid (run ((R.take (k + 1)).map (·.2)) = q) := by rw [HRUN.out, st2_ct hk1]; exact rfl
        have HO := Lib.hid hO
        have HNN := Lib.hid hn
        clear hofw hm0 hk1 hbd hO hn
        go_wp2_with (first
          | (go_at_call 72; refine (rbytes_any _ _).mono ?_; rintro e w' ⟨rfl, rfl⟩; rw [HKB.out]; have hcv := run_str_sl (wr.alloc (.cells (bv kb).toArray 5)) (wr.heap.size + 1) (some ⟨wr.heap.size, 0, none⟩) kb.length kb.length kb (Sl.new _ _ _) rfl)
          | (go_at_call 73; refine (HOF.out _).mono ?_; rintro e w5 ⟨rfl, hb5⟩; have hx5 := (hb5.cell (p := ⟨b, off + k, none⟩) (by show b < _; simp; omega)).trans (hxa _))
          | (go_at_call 74; refine (rmark3_any _ _).mono ?_; rintro e w6 ⟨rfl, hb6⟩; rw [HM.out]))
        have hbt := below_al (hb5.trans (hb6.mono hb5.size))
        refine ⟨⟨k + 1, A, n, c, by go_num, by omega, rfl, by omega, ?_, hbw.trans (hbt.mono hsw)⟩, by simp only [intOf]; omega⟩
        unfold outs
        rw [HST.out]
        exact HO.out.on hbt
      · -- a mark
        have hofw : ∀ w, Calls Tryd.prog 73 #[.int .i32 x] w fun e w' => e = .returned (.int .i64 0) ∧ Below w.heap.size w w' := fun w => by
          have := rof_any x w; rw [ofI_mk hk1.2] at this; exact this
        have HOF := Lib.hid hofw
        have HM := Lib.hid hk1.2
        by_cases ho : q.2 = []
        · have hf0 : fin q = [] := by unfold fin; rw [if_pos ho, hok.opn ho]
          have hn0 : n = 0 := by rw [hn, hf0]; rfl
          have HST : Hid (fin (run ((R.take (k + 1)).map (·.2))) = fin q) := by
            rw [HRUN.out, st2_mk hk1.1 hk1.2, ho, jn_nil]
            show fin (q.1, []) = fin q
            unfold fin; rw [ho]
            try exact rfl
          subst hn0
          have HO := Lib.hid hO
          clear hofw hk1 hbd hO hn ho hf0
          go_wp2_with (first
            | (go_at_call 72; refine (rbytes_any _ _).mono ?_; rintro e w' ⟨rfl, rfl⟩; rw [HKB.out]; have hcv := run_str_sl (wr.alloc (.cells (bv kb).toArray 5)) (wr.heap.size + 1) (some ⟨wr.heap.size, 0, none⟩) kb.length kb.length kb (Sl.new _ _ _) rfl)
            | (go_at_call 73; refine (HOF.out _).mono ?_; rintro e w5 ⟨rfl, hb5⟩; have hx5 := (hb5.cell (p := ⟨b, off + k, none⟩) (by show b < _; simp; omega)).trans (hxa _))
            | (go_at_call 74; refine (rmark3_any _ _).mono ?_; rintro e w6 ⟨rfl, hb6⟩; rw [HM.out]))
          have hbt := below_al (hb5.trans (hb6.mono hb5.size))
          refine ⟨⟨k + 1, A, 0, c, by go_num, by omega, rfl, by omega, ?_, hbw.trans (hbt.mono hsw)⟩, by simp only [intOf]; omega⟩
          unfold outs
          rw [HST.out]
          exact HO.out.on hbt
        · have hf0 : fin q = q.1 ++ [q.2] := by unfold fin; rw [if_neg ho]
          obtain ⟨m, hm⟩ : ∃ m, m = q.1.length := ⟨_, rfl⟩
          have hn0 : n = m + 1 := by rw [hn, hf0, hm]; simp
          subst hn0
          have hOm := hO.cell (j := m) (u := .string ⟨(eb q.2).toArray⟩) (by rw [hf0, List.map_append, hm]; simp [sv])
          obtain ⟨g, rfl, hgb, hgc, hgf⟩ := hOm
          have hgl : g < wr.heap.size := (hO.blk_lt g rfl).2
          have hgs : ∀ w', Below wr.heap.size wr w' → w'.cell? ⟨g, m, none⟩ = some (.string ⟨(eb q.2).toArray⟩) ∧ w'.frozen? ⟨g, m, none⟩ = false := fun w' hb => ⟨(hb.cell (p := ⟨g, m, none⟩) hgl).trans hgc, (hb.frozen (p := ⟨g, m, none⟩) hgl).trans hgf⟩
          have hql : (eb q.2).length ≤ 64 := by
            obtain ⟨b0, ms, _, _, _, hl, _⟩ := hok.wf q.2 (by rw [hf0]; simp)
            exact hl
          have hqs := size_of (eb q.2)
          have hks := size_of kb
          have HGS := Lib.hid hgs
          have hjn : jn q.2 x = if 64 < (eb q.2).length + kb.length then q.2 else q.2 ++ [x] := by
            unfold jn
            rw [HKE.out]
            by_cases h64 : 64 < (eb q.2).length + kb.length
            · rw [if_pos (.inr h64), if_pos h64]
            · rw [if_neg (by intro h; rcases h with h | h; exact ho h; exact h64 h), if_neg h64]
          have hstq : fin (run ((R.take (k + 1)).map (·.2))) = q.1 ++ [jn q.2 x] := by
            rw [HRUN.out, st2_mk hk1.1 hk1.2]
            show fin (q.1, jn q.2 x) = _
            unfold fin; rw [if_neg (jn_ne ho x)]
          rw [hf0] at hO
          have HO := Lib.hid hO
          obtain ⟨qb, hqb⟩ : ∃ qb, eb q.2 = qb := ⟨_, rfl⟩
          have HQB := Lib.hid hqb
          rw [hqb] at HGS hql hqs hjn
          have HM1 := Lib.hid hm
          clear hofw hk1 hbd hO hn hf0 hgs hgc hgf hqb hm
          by_cases h64 : qb.length + kb.length ≤ 64
          · have h64' : (qb.length : Int) + (kb.length : Int) ≤ 64 := by omega
            rw [if_neg (by omega)] at hjn
            rw [hjn] at hstq
            have HST := Lib.hid hstq
            clear hjn hstq ho
            go_wp2_with (first
              | (go_at_call 72; refine (rbytes_any _ _).mono ?_; rintro e w' ⟨rfl, rfl⟩; rw [HKB.out]; have hcv := run_str_sl (wr.alloc (.cells (bv kb).toArray 5)) (wr.heap.size + 1) (some ⟨wr.heap.size, 0, none⟩) kb.length kb.length kb (Sl.new _ _ _) rfl)
              | (go_at_call 73; refine (HOF.out _).mono ?_; rintro e w5 ⟨rfl, hb5⟩; have hx5 := (hb5.cell (p := ⟨b, off + k, none⟩) (by show b < _; simp; omega)).trans (hxa _))
              | (go_at_call 74; refine (rmark3_any _ _).mono ?_; rintro e w6 ⟨rfl, hb6⟩; rw [HM.out]; have hbt := below_al (hb5.trans (hb6.mono hb5.size)); obtain ⟨hgc, hgf⟩ := HGS.out w6 hbt))
            have hO6 := HO.out.on hbt
            refine ⟨⟨k + 1, some ⟨g, 0, none⟩, m + 1, c, by go_num, by omega, rfl, by omega, ?_, (hbw.trans (hbt.mono hsw)).setCell (p := ⟨g, m, none⟩) (by show _ ≤ g; omega) _⟩, by simp only [intOf]; omega⟩
            have hO7 := hO6.setAt (j := m) (by omega) (.string ⟨(qb ++ kb).toArray⟩)
            rw [List.map_append, List.map_cons, List.map_nil, HQB.out] at hO7
            have hs := sv_set (q.1.map eb) qb (qb ++ kb)
            rw [List.length_map, ← HM1.out] at hs
            rw [hs] at hO7
            unfold outs
            rw [HST.out, List.map_append, List.map_cons, List.map_nil, eb_snoc, HQB.out, HKE.out, str_add]
            exact hO7
          · have h64' : ¬ (qb.length : Int) + (kb.length : Int) ≤ 64 := by omega
            rw [if_pos (by omega)] at hjn
            rw [hjn] at hstq
            have HST := Lib.hid hstq
            clear hjn hstq ho
            go_wp2_with (first
              | (go_at_call 72; refine (rbytes_any _ _).mono ?_; rintro e w' ⟨rfl, rfl⟩; rw [HKB.out]; have hcv := run_str_sl (wr.alloc (.cells (bv kb).toArray 5)) (wr.heap.size + 1) (some ⟨wr.heap.size, 0, none⟩) kb.length kb.length kb (Sl.new _ _ _) rfl)
              | (go_at_call 73; refine (HOF.out _).mono ?_; rintro e w5 ⟨rfl, hb5⟩; have hx5 := (hb5.cell (p := ⟨b, off + k, none⟩) (by show b < _; simp; omega)).trans (hxa _))
              | (go_at_call 74; refine (rmark3_any _ _).mono ?_; rintro e w6 ⟨rfl, hb6⟩; rw [HM.out]; have hbt := below_al (hb5.trans (hb6.mono hb5.size)); obtain ⟨hgc, hgf⟩ := HGS.out w6 hbt))
            refine ⟨⟨k + 1, some ⟨g, 0, none⟩, m + 1, c, by go_num, by omega, rfl, by omega, ?_, hbw.trans (hbt.mono hsw)⟩, by simp only [intOf]; omega⟩
            unfold outs
            rw [HST.out]
            exact HO.out.on hbt
      · -- a base
        have hv := ofI_base hxr hk1
        have hofw := rof_any x
        generalize ofI x = v at hv hofw
        have HOF := Lib.hid hofw
        obtain ⟨hv1, hv2⟩ := hv
        have HST : Hid (fin (run ((R.take (k + 1)).map (·.2))) = fin q ++ [[x]]) := by rw [HRUN.out, st2_base hk1]; simp [fin, Hid]
        have HO := Lib.hid hO
        clear hk1 hofw hbd hO hn
        go_wp2_with (first
          | (go_at_call 72; refine (rbytes_any _ _).mono ?_; rintro e w' ⟨rfl, rfl⟩; rw [HKB.out]; have hcv := run_str_sl (wr.alloc (.cells (bv kb).toArray 5)) (wr.heap.size + 1) (some ⟨wr.heap.size, 0, none⟩) kb.length kb.length kb (Sl.new _ _ _) rfl)
          | (go_at_call 73; refine (HOF.out _).mono ?_; rintro e w5 ⟨rfl, hb5⟩; have hx5 := (hb5.cell (p := ⟨b, off + k, none⟩) (by show b < _; simp; omega)).trans (hxa _); have hbt := below_al hb5; have hO5 := HO.out.on hbt;
             obtain ⟨A6, c6, w6, hrun, hO6, hg6, hat6⟩ := run_app Tryd.underlying27 str_info rfl (by omega) (w5.alloc (.cells #[.string ⟨kb.toArray⟩] 9)) 27 w1.heap.size A n c _ (hO5.alloc _) (some ⟨w5.heap.size, 0, none⟩) 1 1 [.string ⟨kb.toArray⟩] (w5.heap.size + 1) (Sl.new w5 #[.string ⟨kb.toArray⟩] 9) rfl (fun e => by cases e) (by intro u hu; simp at hu; subst hu; rfl) (n + 1) rfl (by omega) (by have := hbt.size; simp; omega);
             have HR := Lib.hid hrun; clear hrun)
          | (at_builtin; refine wpList_run 27 27 rfl (.tmp 37) (.tmp 39) rfl _ _ _ _ rfl rfl HR.out ?_))
        have hbx : Below w1.heap.size w1 w6 := ((hbw.trans (hbt.mono hsw)).alloc (by have := hbt.size; omega) (.cells #[.string ⟨kb.toArray⟩] 9)).grown hg6 (by have := hbt.size; simp; omega) (fun j hj => (hO5.blk_lt j hj).1)
        refine ⟨⟨k + 1, A6, n + 1, c6, by go_num, by omega, rfl, by omega, ?_, hbx⟩, by simp only [intOf]; omega⟩
        unfold outs
        rw [HST.out, List.map_append, List.map_cons, List.map_nil, sv_snoc]
        have e1 : eb [x] = kb := by rw [← HKE.out]; simp [eb]
        rw [e1]
        exact hO6
    · have hge : ¬ (k : Int) < (R.length : Int) := by omega
      rw [show R.take k = R from List.take_of_length_le (by omega)] at hO
      unfold outs at hO
      rw [HCX.out] at hO
      have hn : n = C.length := by rw [hO.len, sv_length, List.length_map]
      have HN := Lib.hid hn
      have HO := Lib.hid hO
      clear hn hO
      go_wp2
      go_ret
      rw [← HN.out]
      exact ⟨A, c, rfl, HO.out.weaken hb0.size, hb0.trans (hbw.mono hb0.size)⟩
end Go.Proofs.YtfjiogockpmogaaDoor

namespace Go.Proofs.YtfjiogockpmogaaDoor
open Go.RowKit
set_option linter.unusedVariables false

theorem flat_take {cs : List (List Int)} {k : Nat} (h : k < cs.length) : eb (cs.take (k + 1)).flatten = eb (cs.take k).flatten ++ eb cs[k] := by
  rw [List.take_succ_eq_append_getElem h, List.flatten_append, eb_append]; simp
theorem wf_len {c : List Int} (h : wf c) : (eb c).length ≤ 64 := by obtain ⟨_, _, _, _, _, hl, _⟩ := h; exact hl
theorem flat_len {cs : List (List Int)} (h : ∀ c ∈ cs, wf c) : (eb cs.flatten).length ≤ 64 * cs.length := by
  induction cs with
  | nil => simp [eb]
  | cons c cs ih =>
    have h1 := ih (fun d hd => h d (by simp [hd]))
    have h2 := wf_len (h c (by simp))
    rw [List.flatten_cons, eb_append, List.length_append, List.length_cons]
    omega
theorem cls_len (l : List UInt8) : (cls (rs l)).length ≤ l.length := by
  have h1 := run_count (rs l)
  have h2 : (rs l).length ≤ l.length := by unfold rs; rw [List.length_map]; exact rnsOf_le _
  have h3 : cls (rs l) = fin (run (rs l)) := rfl
  rw [h3]; omega
theorem sumC_take {cs : List (List Int)} {k : Nat} (h : k < cs.length) : sumC (cs.take (k + 1)) = sumC (cs.take k) + wc cs[k] := by
  rw [List.take_succ_eq_append_getElem h, sumC_snoc]
theorem sv_cell {w : World} {base n c : Nat} {A : Option Addr} {C : List (List Int)} (h : OR w base 9 A n c (sv (C.map eb))) {k : Nat} (hk : k < C.length) : ∃ g, A = some ⟨g, 0, none⟩ ∧ base ≤ g ∧ w.cell? ⟨g, k, none⟩ = some (.string ⟨(eb C[k]).toArray⟩) ∧ g < w.heap.size := by
  obtain ⟨g, hA, hb, hc, _⟩ := h.cell (j := k) (u := .string ⟨(eb C[k]).toArray⟩) (by rw [sv_get (by simpa using hk)]; simp)
  exact ⟨g, hA, hb, hc, (h.blk_lt g (by rw [hA]; rfl)).2⟩

set_option maxRecDepth 100000 in
set_option maxHeartbeats 2000000 in
theorem rclean_any (s : ByteArray) (hs : s.size ≤ 4000000) (w : World) :
    Calls Tryd.prog 66 #[.string s] w fun e w' => e = .returned (.string ⟨(cleanB s.data.toList).toArray⟩) ∧ Below w.heap.size w w' := by
  unfold cleanB
  have hcut := rcut_any s hs w
  have hwf := cls_wf (rs_isR s.data.toList)
  have hlc : (cls (rs s.data.toList)).length ≤ 4000000 := by have := cls_len s.data.toList; have h3 : s.data.toList.length = s.size := rfl; omega
  generalize cls (rs s.data.toList) = C at hcut hwf hlc ⊢
  generalize hE : eb C.flatten = E
  have HE := Lib.hid hE
  have HCUT := Lib.hid hcut
  have HWF := Lib.hid hwf
  clear hE hcut hwf
  go_enter Tryd.func66, Tryd.ntmps66
  go_wp2_with (fail)
  refine HCUT.out.mono ?_
  rintro e w1 ⟨A, c, rfl, hO, hb1⟩
  have HO := Lib.hid hO
  clear hO
  go_wp2
  go_loop [3, 5] (fun v3 v5 => ∃ k : Nat, k ≤ C.length ∧ v5 = .int .i64 k ∧ v3 = .string ⟨(eb (C.take k).flatten).toArray⟩) (fun _ v5 => C.length - (intOf v5).toNat)
  case atStart => exact ⟨0, by omega, rfl, rfl⟩
  case round =>
    obtain ⟨k, hk, rfl, rfl⟩ := hrel
    by_cases hlt : k < C.length
    · have hlt' : (k : Int) < (C.length : Int) := by omega
      obtain ⟨g, rfl, _, hc, hgl⟩ := sv_cell HO.out hlt
      have hft := flat_take hlt
      have hdl := wf_len (HWF.out C[k] (List.getElem_mem hlt))
      have hpl := flat_len (cs := C.take k) (fun c hc => HWF.out c (List.mem_of_mem_take hc))
      have hkl : (C.take k).length ≤ k := List.length_take_le _ _
      have hpl2 : (eb (C.take k).flatten).length ≤ 256000000 := by omega
      clear hpl hkl
      generalize eb (C.take k).flatten = p at hft hpl2 ⊢
      generalize eb C[k] = d at hft hc hdl
      have hsa := str_add p d
      have HSA := Lib.hid hsa
      have HFT := Lib.hid hft
      clear hft hsa
      go_wp2
      go_round
      case rel => exact ⟨k + 1, by omega, by go_num, by rw [HFT.out, HSA.out]⟩
      case measure => simp [intOf]; omega
    · have hge : ¬ (k : Int) < (C.length : Int) := by omega
      rw [show C.take k = C from List.take_of_length_le (by omega), HE.out]
      go_wp2
      go_ret
      exact ⟨rfl, hb1⟩

set_option maxRecDepth 100000 in
set_option maxHeartbeats 2000000 in
theorem rflat_any (s : ByteArray) (hs : s.size ≤ 4000000) (w : World) :
    Calls Tryd.prog 53 #[.string s] w fun e w' => e = .returned (.string ⟨(flatB s.data.toList).toArray⟩) ∧ Below w.heap.size w w' := by
  obtain ⟨c, w1, hcv, hc1, hc2, hw, hb1, hz1⟩ := run_bytes_wr w s (by simp only [maxLen]; omega)
  generalize hL : s.data.toList = L at hw
  have hLs : L.length = s.size := by rw [← hL]; rfl
  have HL := Lib.hid hL
  have HLS := Lib.hid hLs
  have HW := Lib.hid hw
  clear hL hLs hw hc1 hc2
  go_enter Tryd.func53, Tryd.ntmps53
  go_wp2
  clear hcv
  go_loopw [4] (fun i wr => ∃ k : Nat, k ≤ s.size ∧ i = .int .i64 k ∧ Wr wr w.heap.size (mix L k) ∧ Below w.heap.size w wr ∧ w1.heap.size ≤ wr.heap.size) (fun i _ => s.size - (intOf i).toNat)
  case atStart => exact ⟨0, by omega, rfl, by rw [mix_zero]; exact HW.out, hb1, Nat.le_refl _⟩
  case round =>
    obtain ⟨k, hk, rfl, hwr, hbw, hzz⟩ := hrel
    have HWR := Lib.hid hwr
    by_cases hlt : k < s.size
    · have hkl : k < L.length := by have := HLS.out; omega
      have hlt' : (k : Int) < (s.size : Int) := by omega
      have hcell := hwr.1 k (.int .u8 L[k].toNat) (by simp only [bv, List.getElem?_map, mix_at L k hkl]; rfl)
      have hfz := hwr.2 k (by rw [mix_length]; exact hkl)
      have hno := fl1_no L[k]
      have hyes := fl1_yes L[k]
      have hkeep := mix_keep L k hkl
      have hsucc := mix_succ L k hkl
      have hset := hwr.set k (by rw [mix_length]; exact hkl) 32
      generalize L[k] = b at hcell hno hyes hkeep hsucc
      have HNO := Lib.hid hno
      have HYES := Lib.hid hyes
      have HKE := Lib.hid hkeep
      have HSU := Lib.hid hsucc
      have HSE := Lib.hid hset
      clear hno hyes hkeep hsucc hset hwr
      by_cases h9 : (b.toNat : Int) = 9
      · have HS2 : Hid (mix L (k + 1) = (mix L k).set k 32) := by rw [HSU.out, HYES.out (.inl h9)]; simp [Hid]
        rw [h9] at hcell
        clear h9
        go_wp2
        go_roundw
        case rel => exact ⟨k + 1, by omega, by go_num, by rw [HS2.out]; exact HSE.out, hbw.setCell (p := ⟨w.heap.size, k, none⟩) (Nat.le_refl _) _, by have := (KeepsWalks.setCell wr ⟨w.heap.size, k, none⟩ (.int .u8 32)).size; omega⟩
        case measure => simp [intOf]; omega
      · have hd9 : ((b.toNat : Int) == 9) = false := by simp; omega
        by_cases h10 : (b.toNat : Int) = 10
        · have HS2 : Hid (mix L (k + 1) = (mix L k).set k 32) := by rw [HSU.out, HYES.out (.inr (.inl h10))]; simp [Hid]
          rw [h10] at hcell
          clear h10 h9 hd9
          go_wp2
          go_roundw
          case rel => exact ⟨k + 1, by omega, by go_num, by rw [HS2.out]; exact HSE.out, hbw.setCell (p := ⟨w.heap.size, k, none⟩) (Nat.le_refl _) _, by have := (KeepsWalks.setCell wr ⟨w.heap.size, k, none⟩ (.int .u8 32)).size; omega⟩
          case measure => simp [intOf]; omega
        · have hd10 : ((b.toNat : Int) == 10) = false := by simp; omega
          by_cases h13 : (b.toNat : Int) = 13
          · have HS2 : Hid (mix L (k + 1) = (mix L k).set k 32) := by rw [HSU.out, HYES.out (.inr (.inr h13))]; simp [Hid]
            rw [h13] at hcell
            clear h13 h10 h9 hd9 hd10
            go_wp2
            go_roundw
            case rel => exact ⟨k + 1, by omega, by go_num, by rw [HS2.out]; exact HSE.out, hbw.setCell (p := ⟨w.heap.size, k, none⟩) (Nat.le_refl _) _, by have := (KeepsWalks.setCell wr ⟨w.heap.size, k, none⟩ (.int .u8 32)).size; omega⟩
            case measure => simp [intOf]; omega
          · have hd13 : ((b.toNat : Int) == 13) = false := by simp; omega
            have HS2 : Hid (mix L (k + 1) = mix L k) := HKE.out (HNO.out h9 h10 h13)
            clear h13 h10 h9
            go_wp2
            go_roundw
            case rel => exact ⟨k + 1, by omega, by go_num, by rw [HS2.out]; exact HWR.out, hbw, hzz⟩
            case measure => simp [intOf]; omega
    · have hge : ¬ (k : Int) < (s.size : Int) := by omega
      rw [mix_end L k (by have := HLS.out; omega)] at hwr
      have hcv2 := run_str_sl wr (w.heap.size + 1) (some ⟨w.heap.size, 0, none⟩) s.size c (L.map fl1) hwr.sl (by have := HLS.out; simp; omega)
      have hsz2 : (⟨(L.map fl1).toArray⟩ : ByteArray).size ≤ 4000000 := by rw [size_mk]; have := HLS.out; simp; omega
      clear hwr HWR
      go_wp2_with (go_at_call 66; refine (rclean_any _ hsz2 _).mono ?_; rintro e w2 ⟨rfl, hb2⟩)
      go_ret
      exact ⟨rfl, hbw.trans (hb2.mono hbw.size)⟩

theorem head_rns {c : List Int} (h : wf c) : ∃ x R, rnsOf (eb c) = x :: R ∧ ofI x.2 = wc c := by
  have h1 := rs_wf h
  obtain ⟨b, ms, rfl, _⟩ := h
  unfold rs at h1
  cases hr : rnsOf (eb (b :: ms)) with
  | nil => rw [hr] at h1; cases h1
  | cons x R =>
    rw [hr] at h1
    simp only [List.map_cons] at h1
    injection h1 with h1 _
    exact ⟨x, R, rfl, by rw [h1]; rfl⟩

theorem isC_two {l : List UInt8} {c d : List Int} {C : List (List Int)} (h : cls (rs l) = c :: d :: C) : isC l = false := by
  unfold isC
  rw [h]
  simp only
  have hw := cls_wf (rs_isR l) c (by rw [h]; simp)
  cases he : (eb c == l) with
  | false => rfl
  | true =>
    have he' : eb c = l := by simpa using he
    have h1 := cls_one hw
    rw [← rs_wf hw, he', h] at h1
    simp at h1

end Go.Proofs.YtfjiogockpmogaaDoor

namespace Go.Proofs.YtfjiogockpmogaaDoor
open Go.RowKit
set_option linter.unusedVariables false

theorem fitR_eq (most : Int) {C : List (List Int)} (h : ∀ c ∈ C, wf c) : FitR most (prs 0 C) = (eb (fitC most 0 C).flatten, sumC (fitC most 0 C)) := by
  have hp := fitC_pre most C 0
  have hw : ∀ c ∈ fitC most 0 C, wf c := fun c hc => h c (hp.subset hc)
  unfold FitR
  rw [fit_prs C 0 h, last_prs hw, txs_prs, eb_flatten]

set_option maxRecDepth 100000 in
set_option maxHeartbeats 2000000 in
theorem sameall_any (C : List (List UInt8)) (n m : Nat) (A B : Option Addr) (c d : Nat) (w : World) (hl : C.length ≤ 4000000) (hn : n = C.length) (hm : m = C.length) (hA : Sl w w.heap.size A (sv C)) (hB : Sl w w.heap.size B (sv C)) :
    Calls Tryd.prog 34 #[.slice A n c, .slice B m d] w fun e w' => e = .returned (.bool true) ∧ Below w.heap.size w w' := by
  obtain rfl : m = n := by omega
  have hcells : ∀ k, k < m → ∃ (s : ByteArray) (b1 o1 b2 o2 : Nat), (A = some ⟨b1, o1, none⟩ ∧ B = some ⟨b2, o2, none⟩) ∧ (b1 < w.heap.size ∧ b2 < w.heap.size) ∧
      w.cell? ⟨b1, o1 + k, none⟩ = some (.string s) ∧ w.cell? ⟨b2, o2 + k, none⟩ = some (.string s) := by
    intro k hk
    have hkl : k < C.length := by omega
    obtain ⟨b1, o1, e1, k1, g1⟩ := hA.open_ (by rw [sv_length]; omega)
    obtain ⟨b2, o2, e2, k2, g2⟩ := hB.open_ (by rw [sv_length]; omega)
    exact ⟨⟨C[k].toArray⟩, b1, o1, b2, o2, ⟨e1, e2⟩, ⟨k1, k2⟩, g1 k _ (sv_get hkl), g2 k _ (sv_get hkl)⟩
  have HC := Lib.hid hcells
  have hm1 : m ≤ 4000000 := by omega
  clear hcells hm hn hA hB
  go_enter Tryd.func34, Tryd.ntmps34
  go_wp2
  go_loopw [5] (fun i wr => ∃ k : Nat, k ≤ m ∧ i = .int .i64 k ∧ Below w.heap.size w wr) (fun i _ => m - (intOf i).toNat)
  case atStart => exact ⟨0, by omega, rfl, Below.refl _ _⟩
  case round =>
    obtain ⟨k, hk, rfl, hbw⟩ := hrel
    by_cases hlt : k < m
    · obtain ⟨s, b1, o1, b2, o2, ⟨e1, e2⟩, ⟨k1, k2⟩, g1, g2⟩ := HC.out k hlt
      subst e1 e2
      have d1 := (hbw.cell (p := ⟨b1, o1 + k, none⟩) k1).trans g1
      have d2 := (hbw.cell (p := ⟨b2, o2 + k, none⟩) k2).trans g2
      clear g1 g2
      have hkn : (k : Int) < (m : Int) := by omega
      go_wp2
      go_quiet (fail)
      go_wp2
      go_roundw
      case rel => exact ⟨k + 1, by omega, by go_num, hbw.trans (below_drewN (Below.refl _ _) _)⟩
      case measure => simp [intOf]; omega
    · have hkn : ¬ (k : Int) < (m : Int) := by omega
      go_wp2
      go_ret
      exact ⟨rfl, hbw⟩

theorem ret_si {a b : List UInt8} {c d : Int} (h : a = b) (g : c = d) : Ending.returned (.tuple #[.string ⟨a.toArray⟩, .int .i64 c]) = .returned (.tuple #[.string ⟨b.toArray⟩, .int .i64 d]) := by rw [h, g]

end Go.Proofs.YtfjiogockpmogaaDoor

