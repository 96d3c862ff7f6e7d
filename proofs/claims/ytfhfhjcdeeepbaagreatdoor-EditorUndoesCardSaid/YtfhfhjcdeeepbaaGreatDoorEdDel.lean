/-
  Walk: slices.Delete of the first noted line.
-/
import Derived.Test.YtfhfhjcdeeepbaaGreatDoorEdSwap
namespace Go.Proofs.YtfhfhjcdeeepbaaGreatDoor
open Go.RowKit Go.Sort
set_option linter.unusedVariables false
set_option linter.unusedSimpArgs false
set_option maxRecDepth 100000

def bh2 (A : Option Addr) (C t : Nat) : Option Addr := if C = t then A else A.map (·.add (t * 2))
theorem slN_l (A : Option Addr) (n C lo : Nat) (h1 : lo ≤ n) (w : World) :
    (Instr.slice 46 (.slice A n C) (some (.int .i64 lo)) none none).run Tryz.prog w = .ok (.slice (bh2 A C lo) (n - lo) (C - lo)) w := by
  rw [run_slice_l w 46 A n C nts_elem .i64 lo (by omega) (by omega), nts_esize]
  simp [Result.andThen, sliced, bh2]
theorem slN_lh (A : Option Addr) (n C lo hi : Nat) (h1 : lo ≤ hi) (h2 : hi ≤ C) (w : World) :
    (Instr.slice 46 (.slice A n C) (some (.int .i64 lo)) (some (.int .i64 hi)) none).run Tryz.prog w = .ok (.slice (bh2 A C lo) (hi - lo) (C - lo)) w := by
  rw [run_slice_lh w 46 A n C nts_elem .i64 .i64 lo hi (by omega) (by omega) (by omega), nts_esize]
  simp [Result.andThen, sliced, bh2]
/-- what stands behind is brought ahead, in place -/
theorem run_appN (w : World) (ty : TypeId) (g : Nat) (cur news : List Value) (c m c2 : Nat) (a : Addr) (hb : Blk w g 64 cur) (hl : news.length = m * 2) (hc : cur.length = c * 2) (hm : m ≤ c) (hnews : ∀ j u, news[j]? = some u → w.cell? (a.add j) = some u) (h1 : ∀ u ∈ news, u.oneCell' = true) :
    (Builtin.append_ #[46, 46] ty #[.slice (some ⟨g, 0, none⟩) 0 c, .slice (some a) m c2]).run Tryz.prog w = .ok (.slice (some ⟨g, 0, none⟩) m c) (w.setRow g (splice cur 0 news).toArray) := by
  obtain ⟨i, hi⟩ : ∃ i, Tryz.prog.info? 64 = some i ∧ i.size = 2 := by
    have h := nt_info
    cases hq : Tryz.prog.info? 64 with
    | none => rw [hq] at h; cases h
    | some i => rw [hq] at h; simp at h; exact ⟨i, rfl, h.2.1⟩
  have hfc := run_firstCells_some (P := Tryz.prog) w i.size m a m c2 news (by rw [hi.2]; exact hl) hnews
  have hst := run_storeCells_at (P := Tryz.prog) g 0 64 news 0 cur.toArray w hb (by simp; omega) h1
  simp only [Nat.add_zero] at hst
  simp [Builtin.append_, run_underlying Tryz.underlying46, sizeOf, typeInfo, hi.1, Builtin.lenOf, hm, hfc, Addr.add, hst, splice]
/-- the last one is blank -/
theorem run_clearN (w : World) (ty : TypeId) (g o : Nat) (cur : List Value) (c : Nat) (hb : Blk w g 64 cur) (ho : o + 2 ≤ cur.length) :
    (Builtin.clear_ #[46] ty #[.slice (some ⟨g, o, none⟩) 1 c]).run Tryz.prog w = .ok (.tuple #[]) (w.setRow g (splice cur o [.string ⟨#[]⟩, .int .i64 0]).toArray) := by
  have hst := run_storeCells_at (P := Tryz.prog) g o 64 [.string ⟨#[]⟩, .int .i64 0] 0 cur.toArray w hb (by simpa using ho) (fun v hv => by simp at hv; rcases hv with rfl | rfl <;> rfl)
  simp only [Nat.add_zero] at hst
  have hz : (Builtin.zeroCells (#[.string ⟨#[]⟩, .int .i64 0] : Array Value) 1).toList = [.string ⟨#[]⟩, .int .i64 0] := by
    simp [Builtin.zeroCells, List.range_succ]
  simp [Builtin.clear_, run_underlying Tryz.underlying46, Tryz.zeroValue64 w, Value.cells, hz, hst, splice]
theorem wpList_clearN {w : World} {ops : Array Oper} {rest : List Oper} {o : Oper} {a : Act} {Q : Exit → Act → World → Prop} (hgd : o.guard = none) (d : Operand) (T : TypeId)
    (ho : o.op = .call { callee := .builtin .clear, args := #[d], argTypes := #[T] }) (v : Value) (w2 : World) (hd : a.eval d = v) (hrun : (Builtin.clear_ #[T] o.type #[v]).run Tryz.prog w = .ok (.tuple #[]) w2)
    (h : wpList Tryz.prog ops Q rest (a.put o.dst (.tuple #[])) w2) : wpList Tryz.prog ops Q (o :: rest) a w := by
  refine wpList_plain hgd fun K hK => ?_
  unfold Oper.wp
  simp [execOp, ho, resolve, invoke, builtin, hd, hrun, Result.andThen]
  exact hK _ _ h
/-- what Delete leaves -/
def DlnP (w : World) (base : Nat) (A : Option Addr) (n c : Nat) (xs : List Value) (e : Ending) (w' : World) : Prop :=
  e = .returned (.slice A n c) ∧ w'.ownsRow base 64 2 (.slice A n c) n xs ∧ Chg (fun k => blk A = some k) w w'
set_option maxHeartbeats 8000000 in
theorem sdelN_any (base : Nat) (A : Option Addr) (n c : Nat) (xs : List Value) (w : World) (hown : w.ownsRow base 64 2 (.slice A (n + 1) c) (n + 1) xs) (hn : n ≤ 100) (h1c : ∀ v ∈ xs, v.oneCell' = true) :
    Calls Tryz.prog 78 #[.slice A (n + 1) c, .int .i64 0, .int .i64 1] w (DlnP w base A n c (xs.drop 2)) := by
  have hxl : xs.length = (n + 1) * 2 := hown.1
  obtain ⟨g, cur, rfl, hbg, hblk, ht, hnc, hcm, hcl⟩ := own_open hown (by omega)
  obtain ⟨v0, E0⟩ : ∃ v0, ∀ V, (Instr.slice 46 (.slice (some ⟨g, 0, none⟩) (n + 1) c) (some (.int .i64 0)) (some (.int .i64 1)) (some (.int .i64 ((n : Int) + 1)))).run Tryz.prog V = .ok v0 V := by
    refine ⟨.slice (if (n + 1) = 0 then some ⟨g, 0, none⟩ else some ⟨g, 0, none⟩) 1 (n + 1), fun V => ?_⟩
    have h8 := run_slice_lhm V 46 (some ⟨g, 0, none⟩) (n + 1) c nts_elem .i64 .i64 .i64 (0 : Nat) (1 : Nat) ((n + 1 : Nat) : Int) (by omega) (by omega) (by omega) (by omega)
    rw [nts_esize] at h8
    rw [show ((n + 1 : Nat) : Int) = (n : Int) + 1 by omega] at h8
    rw [show ((0 : Nat) : Int) = 0 from rfl, show ((1 : Nat) : Int) = 1 from rfl] at h8
    rw [h8]
    simp [Result.andThen, sliced, Addr.add]
  have E1 : ∀ V, (Instr.slice 46 (.slice (some ⟨g, 0, none⟩) (n + 1) c) none (some (.int .i64 0)) none).run Tryz.prog V = .ok (.slice (some ⟨g, 0, none⟩) 0 c) V := fun V => by
    have h8 := slN_h (some ⟨g, 0, none⟩) (n + 1) c 0 (by omega) V
    exact h8
  obtain ⟨a, ha⟩ : ∃ a, bh2 (some ⟨g, 0, none⟩) c 1 = some a := by
    unfold bh2
    split
    · exact ⟨_, rfl⟩
    · exact ⟨_, rfl⟩
  have E2 : ∀ V, (Instr.slice 46 (.slice (some ⟨g, 0, none⟩) (n + 1) c) (some (.int .i64 1)) none none).run Tryz.prog V = .ok (.slice (some a) n (c - 1)) V := fun V => by
    have h8 := slN_l (some ⟨g, 0, none⟩) (n + 1) c 1 (by omega) V
    rw [ha, show n + 1 - 1 = n by omega] at h8
    exact h8
  have hnl : (xs.drop 2).length = n * 2 := by rw [List.length_drop]; omega
  have hcells : ∀ V, Blk V g 64 cur → ∀ j u, (xs.drop 2)[j]? = some u → V.cell? (a.add j) = some u := fun V hV j u hu => by
    have hj : j < n * 2 := by have := (List.getElem?_eq_some_iff.1 hu).1; omega
    have hc1 : c ≠ 1 := by omega
    unfold bh2 at ha
    rw [if_neg hc1] at ha
    have ha2 : a = ⟨g, 2, none⟩ := by simpa [Addr.add] using ha.symm
    rw [ha2, Addr.add_mid, hV.cell]
    rw [List.getElem?_drop, ← ht, List.getElem?_take] at hu
    split at hu
    · exact hu
    · cases hu
  have HAPP : Hid (∀ V ty, Blk V g 64 cur → (Builtin.append_ #[46, 46] ty #[.slice (some ⟨g, 0, none⟩) 0 c, .slice (some a) n (c - 1)]).run Tryz.prog V = .ok (.slice (some ⟨g, 0, none⟩) n c) (V.setRow g (splice cur 0 (xs.drop 2)).toArray)) :=
    Lib.hid (fun V ty hV => run_appN V ty g cur (xs.drop 2) c n (c - 1) a hV hnl hcl (by omega) (hcells V hV) (fun u hu => h1c u (List.mem_of_mem_drop hu)))
  have hb2 : bh2 (some ⟨g, 0, none⟩) c n = some ⟨g, n * 2, none⟩ := by
    unfold bh2
    rw [if_neg (by omega)]
    by_cases h0 : n = 0
    · subst h0; simp [Addr.add]
    · have h2 : n * 2 ≠ 0 := by omega
      simp [Addr.add, h2]
  have E3 : ∀ V, (Instr.slice 46 (.slice (some ⟨g, 0, none⟩) n c) (some (.int .i64 (n : Int))) (some (.int .i64 ((n : Int) + 1))) none).run Tryz.prog V = .ok (.slice (some ⟨g, n * 2, none⟩) 1 (c - n)) V := fun V => by
    have h8 := slN_lh (some ⟨g, 0, none⟩) n c n (n + 1) (by omega) hnc V
    rw [hb2, show n + 1 - n = 1 by omega, show ((n + 1 : Nat) : Int) = (n : Int) + 1 by omega] at h8
    exact h8
  have hsl : (splice cur 0 (xs.drop 2)).length = c * 2 := by
    rw [ins_len, hnl]; omega
  have hsl2 : (splice (splice cur 0 (xs.drop 2)) (n * 2) [.string ⟨#[]⟩, .int .i64 0]).length = c * 2 := by
    rw [ins_len, hsl]; simp; omega
  have hX : (splice cur 0 (xs.drop 2)).take (n * 2) = xs.drop 2 := by
    unfold splice
    rw [List.take_zero, List.nil_append, List.take_append_of_le_length (by omega), List.take_of_length_le (by omega)]
  have htk : (splice (splice cur 0 (xs.drop 2)) (n * 2) [.string ⟨#[]⟩, .int .i64 0]).take (n * 2) = xs.drop 2 := by
    generalize splice cur 0 (xs.drop 2) = X at hX hsl ⊢
    unfold splice
    rw [List.take_append_of_le_length (by rw [List.length_take, hsl]; omega), List.take_take, Nat.min_self]
    exact hX
  have HBLK := Lib.hid hblk
  have HSL := Lib.hid hsl
  have HSL2 := Lib.hid hsl2
  have HTK := Lib.hid htk
  have HNL := Lib.hid hnl
  have hni : ¬ ((0 : Int) = 1) := by omega
  clear hown hblk ht hcl ha hcells hb2 hsl hsl2 htk hnl hxl h1c hX
  go_enter Tryz.func78, Tryz.ntmps78
  go_wp2_with (fail)
  refine wp_region_below_tail 6 (by kernel_rfl) (by kernel_rfl) ?_
  simp only [List.take_succ_cons, List.take_zero, List.drop_succ_cons, List.drop_zero]
  repeat (first
    | go_big_quiet_step (fail)
    | quiet_step (fail))
  refine wpQuiet_nil ?_
  intro _ hw'
  obtain ⟨⟨dq, osq⟩, hw''⟩ := hw'
  subst hw''
  have hbq := below_regrown w dq osq
  have HBQ := Lib.hid hbq
  have HB5 := Lib.hid (HBLK.out.below hbq HBLK.out.lt)
  clear hbq
  generalize grow (redrawn w dq) osq = W5 at *
  obtain ⟨W6, hW6⟩ : ∃ W6, W6 = W5.setRow g (splice cur 0 (xs.drop 2)).toArray := ⟨_, rfl⟩
  have hb6 : Blk W6 g 64 (splice cur 0 (xs.drop 2)) := by rw [hW6]; exact HB5.out.row _
  have hg6 : W5.grownBy W6 (some g) := by rw [hW6]; exact grown_setRow W5 g _
  have HA5 : Hid (∀ ty, (Builtin.append_ #[46, 46] ty #[.slice (some ⟨g, 0, none⟩) 0 c, .slice (some a) n (c - 1)]).run Tryz.prog W5 = .ok (.slice (some ⟨g, 0, none⟩) n c) W6) := Lib.hid (fun ty => by rw [hW6]; exact HAPP.out W5 ty HB5.out)
  have HB6 := Lib.hid hb6
  have HG6 := Lib.hid hg6
  clear hW6 hb6 hg6
  obtain ⟨W7, hW7⟩ : ∃ W7, W7 = W6.setRow g (splice (splice cur 0 (xs.drop 2)) (n * 2) [.string ⟨#[]⟩, .int .i64 0]).toArray := ⟨_, rfl⟩
  have HB7 : Hid (Blk W7 g 64 (splice (splice cur 0 (xs.drop 2)) (n * 2) [.string ⟨#[]⟩, .int .i64 0])) := Lib.hid (by rw [hW7]; exact HB6.out.row _)
  have HG7 : Hid (W6.grownBy W7 (some g)) := Lib.hid (by rw [hW7]; exact grown_setRow W6 g _)
  have HC6 : Hid (∀ ty, (Builtin.clear_ #[46] ty #[.slice (some ⟨g, n * 2, none⟩) 1 (c - n)]).run Tryz.prog W6 = .ok (.tuple #[]) W7) := Lib.hid (fun ty => by rw [hW7]; exact run_clearN W6 ty g (n * 2) _ (c - n) HB6.out (by rw [HSL.out]; omega))
  clear hW7
  go_wp2_with (first
    | (at_builtin; refine wpList_run 46 46 rfl (.tmp 22) (.tmp 25) rfl _ _ _ _ rfl rfl (HA5.out _) ?_)
    | ((with_reducible refine at_clear ?_); refine wpList_clearN rfl (.tmp 31) _ rfl _ W7 rfl (HC6.out _) ?_))
  go_ret
  refine ⟨rfl, own_room hbg HB7.out (by omega) hcm HSL2.out HTK.out HNL.out, ?_⟩
  exact (((Chg.of_below HBQ.out).grown HG6.out (fun k hk => .inl (by injection hk with hk; subst hk; rfl))).grown HG7.out (fun k hk => .inl (by injection hk with hk; subst hk; rfl)))
end Go.Proofs.YtfhfhjcdeeepbaaGreatDoor
