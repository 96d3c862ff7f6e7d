/-
  Walks: execute, the styles.
-/
import Derived.Test.YtfmkeeaenjeneaaGreatDoorTmExec
namespace Go.Proofs.YtfmkeeaenjeneaaGreatDoor
open Go.RowKit Go.Shelf Go.Sort
attribute [local go_sem] Oper.semAt_some
set_option linter.unusedVariables false
set_option linter.unusedSimpArgs false

set_option maxRecDepth 100000 in
set_option maxHeartbeats 4000000 in
theorem restyled_neg (y : Sty) (n : Int) (h0 : n < 0) (w : World) :
    Calls Tryz.prog 100 #[.agg #[.bool y.b, .bool y.u, .bool y.i, .int .i64 y.f, .int .i64 y.g], .int .i64 n] w fun e w' => e = .returned (.agg (styT y n).cells.toArray) ∧ Below w.heap.size w w' := by
  obtain ⟨W0, hW0⟩ : ∃ W, W = (w.alloc (.cells #[.bool y.b, .bool y.u, .bool y.i, .int .i64 y.f, .int .i64 y.g] 31)).alloc (.cells #[.bool false, .bool false, .bool false, .int .i64 0, .int .i64 0] 31) := ⟨_, rfl⟩
  have HX : Hid (Blk W0 w.heap.size 31 y.cells) := Lib.hid (by rw [hW0]; exact (Blk.new w 31 y.cells).alloc _)
  have HZ : Hid (Blk W0 (w.heap.size + 1) 31 Sty.zero.cells) := Lib.hid (by
    have := Blk.new (w.alloc (.cells y.cells.toArray 31)) 31 Sty.zero.cells
    rw [hW0]
    simpa [Sty.cells, Sty.zero] using this)
  have HB0 : Hid (Below w.heap.size w W0) := Lib.hid (by rw [hW0]; exact ((Below.refl w.heap.size w).alloc (Nat.le_refl _) _).alloc (by simp) _)
  have HS0 : Hid (W0.heap.size = w.heap.size + 2) := Lib.hid (by rw [hW0]; simp)
  have HW0 := Lib.hid hW0
  clear hW0
  have HE : Hid (styT y n = y) := Lib.hid (by unfold styT; rw [if_neg (by omega), if_neg (by omega), if_neg (by omega), if_neg (by omega), if_neg (by omega), if_neg (by omega), if_neg (by omega), if_neg (by omega)])
  have q0 : (n == 0) = false := by have : n ≠ 0 := (by omega); simpa using this
  have q1 : (n == 1) = false := by have : n ≠ 1 := (by omega); simpa using this
  have q22 : (n == 22) = false := by have : n ≠ 22 := (by omega); simpa using this
  have q4 : (n == 4) = false := by have : n ≠ 4 := (by omega); simpa using this
  have q24 : (n == 24) = false := by have : n ≠ 24 := (by omega); simpa using this
  have q7 : (n == 7) = false := by have : n ≠ 7 := (by omega); simpa using this
  have q27 : (n == 27) = false := by have : n ≠ 27 := (by omega); simpa using this
  have q39 : (n == 39) = false := by have : n ≠ 39 := (by omega); simpa using this
  have q49 : (n == 49) = false := by have : n ≠ 49 := (by omega); simpa using this
  have r1 : ¬ 30 ≤ n := by omega
  have r2 : ¬ 40 ≤ n := by omega
  go_enter Tryz.func100, Tryz.ntmps100
  go_upto_region 1 with fail
  rw [← HW0.out]
  clear HW0
  go_wp2_with (first
    | ((with_reducible refine at_dst 67 ?_); refine wpList_load_mid rfl _ _ rfl w.heap.size 0 rfl y.cells _ (tswhole HX.out) Tryz.underlying31 rfl tsty_size ?_)
    | ((with_reducible refine at_store 4 ?_); refine wpList_store_blk rfl _ _ _ rfl rfl (w.heap.size + 1) 0 _ Sty.zero.cells y.cells rfl rfl HZ.out (by simp [tsty_len]) tsty_size (tsty_one _) ?_; intro w9 hn9 hg9)
    )
  rw [HE.out]
  exact bodyPost_ret (results_c rfl rfl (tswhole hn9) Tryz.underlying31 rfl tsty_size) rfl ⟨rfl, HB0.out.grown hg9 (by have := HS0.out; omega) (fun j hj => by injection hj with hj; omega)⟩
set_option maxRecDepth 100000 in
set_option maxHeartbeats 4000000 in
theorem restyled_big (y : Sty) (n : Int) (h0 : 9999 < n) (w : World) :
    Calls Tryz.prog 100 #[.agg #[.bool y.b, .bool y.u, .bool y.i, .int .i64 y.f, .int .i64 y.g], .int .i64 n] w fun e w' => e = .returned (.agg (styT y n).cells.toArray) ∧ Below w.heap.size w w' := by
  obtain ⟨W0, hW0⟩ : ∃ W, W = (w.alloc (.cells #[.bool y.b, .bool y.u, .bool y.i, .int .i64 y.f, .int .i64 y.g] 31)).alloc (.cells #[.bool false, .bool false, .bool false, .int .i64 0, .int .i64 0] 31) := ⟨_, rfl⟩
  have HX : Hid (Blk W0 w.heap.size 31 y.cells) := Lib.hid (by rw [hW0]; exact (Blk.new w 31 y.cells).alloc _)
  have HZ : Hid (Blk W0 (w.heap.size + 1) 31 Sty.zero.cells) := Lib.hid (by
    have := Blk.new (w.alloc (.cells y.cells.toArray 31)) 31 Sty.zero.cells
    rw [hW0]
    simpa [Sty.cells, Sty.zero] using this)
  have HB0 : Hid (Below w.heap.size w W0) := Lib.hid (by rw [hW0]; exact ((Below.refl w.heap.size w).alloc (Nat.le_refl _) _).alloc (by simp) _)
  have HS0 : Hid (W0.heap.size = w.heap.size + 2) := Lib.hid (by rw [hW0]; simp)
  have HW0 := Lib.hid hW0
  clear hW0
  have HE : Hid (styT y n = y) := Lib.hid (by unfold styT; rw [if_neg (by omega), if_neg (by omega), if_neg (by omega), if_neg (by omega), if_neg (by omega), if_neg (by omega), if_neg (by omega), if_neg (by omega)])
  have q0 : (n == 0) = false := by have : n ≠ 0 := (by omega); simpa using this
  have q1 : (n == 1) = false := by have : n ≠ 1 := (by omega); simpa using this
  have q22 : (n == 22) = false := by have : n ≠ 22 := (by omega); simpa using this
  have q4 : (n == 4) = false := by have : n ≠ 4 := (by omega); simpa using this
  have q24 : (n == 24) = false := by have : n ≠ 24 := (by omega); simpa using this
  have q7 : (n == 7) = false := by have : n ≠ 7 := (by omega); simpa using this
  have q27 : (n == 27) = false := by have : n ≠ 27 := (by omega); simpa using this
  have q39 : (n == 39) = false := by have : n ≠ 39 := (by omega); simpa using this
  have q49 : (n == 49) = false := by have : n ≠ 49 := (by omega); simpa using this
  have r1 : 30 ≤ n := by omega
  have r3 : ¬ n ≤ 37 := by omega
  have r4 : ¬ n ≤ 47 := by omega
  have r2 : 40 ≤ n := by omega
  go_enter Tryz.func100, Tryz.ntmps100
  go_upto_region 1 with fail
  rw [← HW0.out]
  clear HW0
  go_wp2_with (first
    | ((with_reducible refine at_dst 67 ?_); refine wpList_load_mid rfl _ _ rfl w.heap.size 0 rfl y.cells _ (tswhole HX.out) Tryz.underlying31 rfl tsty_size ?_)
    | ((with_reducible refine at_store 4 ?_); refine wpList_store_blk rfl _ _ _ rfl rfl (w.heap.size + 1) 0 _ Sty.zero.cells y.cells rfl rfl HZ.out (by simp [tsty_len]) tsty_size (tsty_one _) ?_; intro w9 hn9 hg9)
    )
  rw [HE.out]
  exact bodyPost_ret (results_c rfl rfl (tswhole hn9) Tryz.underlying31 rfl tsty_size) rfl ⟨rfl, HB0.out.grown hg9 (by have := HS0.out; omega) (fun j hj => by injection hj with hj; omega)⟩
theorem restyled_all (y : Sty) (n : Int) (w : World) :
    Calls Tryz.prog 100 #[.agg #[.bool y.b, .bool y.u, .bool y.i, .int .i64 y.f, .int .i64 y.g], .int .i64 n] w fun e w' => e = .returned (.agg (styT y n).cells.toArray) ∧ Below w.heap.size w w' := by
  by_cases h : n < 0
  · exact restyled_neg y n h w
  · by_cases hn : 9999 < n
    · exact restyled_big y n hn w
    · exact restyled_any y n (by omega) (by omega) w

/-- A struct is stored over a part of a block that is known whole, inside a fence. -/
theorem wpListIn_store_blk {F : Fence} {n : Nat} {P : Program} {ops : Array Oper} {rest : List Oper} {op : Oper} {a : Act} {w : World} {Q : Exit → Act → World → Prop} (hgd : op.guard = none) (ty : TypeId) (x y : Operand) (ho : op.op = .store ty x y) (hd : op.dst = none)
    (b o : Nat) (t : TypeId) (cs ds : List Value) (hx : a.eval x = .pointer (some ⟨b, o, none⟩)) (hy : a.eval y = .agg ds.toArray)
    (hb : Blk w b t cs) (hfit : o + ds.length ≤ cs.length) (hi : (P.info? ty).map (·.size) = some ds.length) (h1 : ∀ v ∈ ds, v.oneCell' = true)
    (h : ∀ w', Blk w' b t (splice cs o ds) → w.grownBy w' (some b) → wpListIn F n P ops Q rest a w') : wpListIn F n P ops Q (op :: rest) a w := by
  refine wpListIn_plain hgd fun K hK => ?_
  unfold Oper.wpIn
  refine ⟨by simp [Oper.about, ho], ?_⟩
  rw [Oper.semAt_plain F _ _ (by rw [ho]; intro c hc; cases hc)]
  unfold execOp
  simp only [ho, hx, hy, Instr.storeAt, Instr.sureAddr, Sem.run_bind, Sem.run_pure, Result.andThen_ok, run_storeVar_blk w b o ty t cs ds hb hfit hi h1]
  refine hK _ _ ?_
  rw [hd]
  exact h _ (hb.row _) (grown_setRow w b _)

theorem keeps_below {w w' : World} (h : RowKit.Below w.heap.size w w') : KeepsOthers w w' := ⟨h.size, fun l o ho _ => (h.block l (Array.getElem?_eq_some_iff.1 ho).1).trans ho⟩
theorem enters_restyled : ∀ args w, (callFunc 100 args).run Tryz.prog w = .ok (.enter 100 args) w := enters_of Tryz.func100 (by kernel_rfl) rfl
def foldS (T : TS) (pre : List (Nat × Int)) : TS := { T with y := (pre.map (·.2)).foldl styT T.y }
theorem foldS_snoc (T : TS) (pre : List (Nat × Int)) (x : Nat × Int) : foldS T (pre ++ [x]) = { foldS T pre with y := styT (foldS T pre).y x.2 } := by
  unfold foldS; simp only [List.map_append, List.map_cons, List.map_nil, List.foldl_append, List.foldl_cons, List.foldl_nil]
def InS (z : Nat) (t g : Nat) (T : TS) (xs : List Value) (n : Nat) (pre : List (Nat × Int)) (W : World) : Prop :=
  Blk W t 63 (tmc t g (foldS T pre) xs n) ∧ W.cell? ⟨z, 0, none⟩ = some (.pointer (some ⟨t, 0, none⟩))
theorem inS_own {z : Nat} {t g n : Nat} {T : TS} {xs : List Value} : Own (InS z t g T xs n) := by
  rintro s A C row ⟨h1, h2⟩ hg hr
  refine ⟨?_, cell_kept h2 hg hr⟩
  have hb := hg.block t h1.lt (fun e => by
    obtain ⟨o, ho, hc⟩ := hr t e.symm
    unfold Blk at h1
    rw [h1] at ho
    injection ho with ho
    subst ho
    cases hc)
  exact hb.trans h1
theorem sty_splice (t g : Nat) (T : TS) (xs : List Value) (n : Nat) (y : Sty) : splice (tmc t g T xs n) 4 y.cells = tmc t g { T with y := y } xs n := by
  simp [splice, tmc, stc, Sty.cells]

section
variable {w : World} {lo t g rb : Nat} {bs : List Nat} {T : TS} {B : List UInt8}

set_option maxRecDepth 100000 in
set_option maxHeartbeats 8000000 in
theorem exec_c_sty (h : TmAt w lo t g rb bs T B) (hbase : Base w lo) (c : UInt8) (l : List UInt8) (hc : c ≠ 63) (hQ : (c :: l).length ≤ 30) (hP : Piece t (some ⟨t, 19, none⟩) (c :: l) B) (hC : ∀ W, Below w.heap.size w W → W.cell? ⟨t, 19, none⟩ = some (.int .u8 c.toNat)) (hA : areN (c :: l) = true) :
    Calls Tryz.prog 70 #[.pointer (some ⟨t, 0, none⟩), .slice (some ⟨t, 19, none⟩) (l.length + 1) 30, .int .u8 109] w fun e w' => e = .returned (.tuple #[]) ∧ TmStep w lo t g rb bs ({ T with y := (numsT (c :: l)).foldl styT T.y }) B w' := by
  obtain ⟨W1, HW1, HB1, H1, HBS1, hkb, hs1⟩ := tbox h hbase
  have HS1 := Lib.hid hs1
  have HKB := Lib.hid hkb
  have htl := h.lt
  have H := Lib.hid h
  have HP := Lib.hid hP
  have HQ := Lib.hid hQ
  have HAR : Hid (∀ W, Below W1.heap.size W1 W → Calls Tryz.prog 97 #[.slice (some ⟨t, 19, none⟩) (l.length + 1) 30] W fun e w' => e = .returned (.bool true) ∧ W = w') := Lib.hid (fun W hW => by
    have := areN_any (c :: l) (by have := HQ.out; omega) (some ⟨t, 19, none⟩) (l.length + 1) 30 rfl W _ ((H1.out.below hW).piece HP.out)
    rw [hA] at this
    exact this)
  have cc1 : W1.cell? ⟨t, 19, none⟩ = some (.int .u8 c.toNat) := hC W1 HB1.out
  have hci : ((c.toNat : Int) == 63) = false := by
    simp
    exact fun e => hc (UInt8.toNat_inj.1 (by show c.toNat = 63; omega))
  have hpos : (0 : Int) < (l.length : Int) + 1 := by omega
  clear hC hc

  clear h hbase hs1 hkb hP hQ
  refine (callsIn_wide (n := 5)).1 ?_
  refine callsIn_of_wp_marks Tryz.func70 rfl trivial ?_ rfl
  simp only [Tryz.ntmps70, List.size_toArray, List.length_cons, List.length_nil, Nat.reduceAdd, Nat.reduceSub, Array.replicate_succ, Array.replicate_zero, List.push_toArray, List.append_toArray, List.nil_append, List.cons_append]
  refine wpIn_wide.2 ?_
  go_upto_region 1 with fail
  rw [← HW1.out]
  clear HW1
  go_wp2_with (go_at_call 97; refine (HAR.out _ (Below.refl _ _)).mono ?_; rintro e w' ⟨rfl, rfl⟩)
  refine (nums_any (some ⟨t, 19, none⟩) (l.length + 1) 30 _).mono ?_
  rintro e w3 ⟨rfl, rfl⟩
  go_wp2
  refine (wpIn_wide (n := 5)).1 ?_
  have hL : ((c :: l)).length ≤ 100 := by have := HQ.out; omega
  have hB0 : Below W1.heap.size W1 (W1.alloc (.cells #[.slice (some ⟨t, 19, none⟩) (l.length + 1) 30] 32)) := (Below.refl _ W1).alloc (Nat.le_refl _) _
  have c2 := Boxed.new W1 32 (.slice (some ⟨t, 19, none⟩) (l.length + 1) 30)
  have q0 := HKB.out _ hB0
  have hS2 := slN_of (((H1.out.piece HP.out)).below hB0)
  have htl1 : t < W1.heap.size := H1.out.lt
  obtain ⟨xs, hx1, hx2, hx3⟩ := H1.out.blk
  have HX1 := Lib.hid hx1
  have HX2 := Lib.hid hx2
  have HX3 := Lib.hid hx3
  clear hx1 hx2 hx3
  have hc := nums_stops 4 (by omega) (W1.heap.size) ((c :: l)) hL hA (some ⟨t, 19, none⟩) 30 _ c2.cell hS2 (by
    rintro p (rfl | ⟨bk, off, j, he, hj, rfl⟩)
    · simp
    · injection he with he; injection he with he1 he2
      subst he1
      simp; omega)
  have hzz : W1.heap.size ≠ t := by omega
  have hz0 : ¬ w.heap.size = t := by omega
  generalize hzd : w.heap.size = z0 at *
  refine wpIn_rangeFunc_ownG rfl (by omega) (gf := 134) (lb := #[.pointer (some ⟨W1.heap.size, 0, none⟩)]) rfl trivial (enters_of Tryz.func134 (by kernel_rfl) rfl) hc kc_t (kc_b _) (Below.refl _ _) (fun _ => rfl)
    (fun pre W => InS z0 t g T xs B.length pre W ∧ Chg (one t) W1 W)
    (fun c pre W => False)
    (OwnFrom.and (inS_own.from _) (ownFrom_chg (by simp)))
    (fun c _ _ _ _ h _ _ => h)
    ⟨⟨HX3.out.below hB0 htl1, q0⟩, Chg.of_below hB0⟩
    (fun x => { tmps := #[.pointer (some ⟨t, 0, none⟩), .slice (some ⟨t, 19, none⟩) (l.length + 1) 30, .int .u8 109, .pointer (some ⟨z0, 0, none⟩), undef, undef, .bool false, undef, .int .i64 x.2, .slice (some ⟨t, 19, none⟩) (l.length + 1) 30, .int .i64 (↑l.length + 1), .bool true, .bool true, .slice (some ⟨t, 19, none⟩) (l.length + 1) 30, .pointer (some ⟨t, 19, none⟩), .int .u8 c.toNat, .bool false, .bool false, .bool false, undef, undef, undef, undef, undef, undef, undef, undef, undef, .bool false, .slice (some ⟨t, 19, none⟩) (l.length + 1) 30, .bool true, .bool false, .bool false, .bool false, undef, undef, undef, undef, .bool true, .int .u8 109, .bool true, .slice (some ⟨t, 19, none⟩) (l.length + 1) 30, .func (.func 134) #[] #[.pointer (some ⟨W1.heap.size, 0, none⟩)], .int .i64 x.1, .int .i64 x.2, undef, undef, undef, undef, undef, undef, undef, undef, undef, undef, undef], defers := [] }) ?assign ?body ?done ?stop
  case assign =>
    intro l x W K hK
    simp only [encN]
    rw [put_two]
    gi_wp2
    exact hK
  case body =>
    rintro lo' pre x W ⟨⟨hb, q0'⟩, hch⟩ _
    have HB := Lib.hid hb
    have HCH := Lib.hid hch
    obtain ⟨T1, hT1⟩ : ∃ T1, T1 = foldS T pre := ⟨_, rfl⟩
    rw [← hT1] at HB hb
    have HF := Lib.hid (show foldS T (pre ++ [x]) = { T1 with y := styT T1.y x.2 } by rw [foldS_snoc, hT1])
    have k0 := cell_regrown q0'
    have k4 := cell_regrown (show W.cell? ⟨t, 4, none⟩ = some (.bool T1.y.b) from hb.cell 4)
    have k5 := cell_regrown (show W.cell? ⟨t, 5, none⟩ = some (.bool T1.y.u) from hb.cell 5)
    have k6 := cell_regrown (show W.cell? ⟨t, 6, none⟩ = some (.bool T1.y.i) from hb.cell 6)
    have k7 := cell_regrown (show W.cell? ⟨t, 7, none⟩ = some (.int .i64 T1.y.f) from hb.cell 7)
    have k8 := cell_regrown (show W.cell? ⟨t, 8, none⟩ = some (.int .i64 T1.y.g) from hb.cell 8)
    have Q0 := Lib.hid q0'
    have HRS : Hid (∀ d os, CallsIn (Fence.wide.inRound lo') (5 - 1 - 1 - 1) Tryz.prog 100 #[.agg #[.bool T1.y.b, .bool T1.y.u, .bool T1.y.i, .int .i64 T1.y.f, .int .i64 T1.y.g], .int .i64 x.2] (grow (redrawn W d) os) fun e w'' => e = .returned (.agg (styT T1.y x.2).cells.toArray) ∧ ∃ p : Regrown, w'' = grow (redrawn W p.d) p.os) := Lib.hid (fun d os => CallsIn.inRound lo' (callsIn_wide.2 (Calls.regrown_of (restyled_all T1.y x.2 _))))
    clear hb hch hT1
    gi_wp2_with (fail)
    refine wpIn_region_below_tail 8 (by kernel_rfl) (by kernel_rfl) (by kernel_rfl) ?_
    simp only [List.take_succ_cons, List.take_zero, List.drop_succ_cons, List.drop_zero]
    repeat (first
      | (refine wpQuietIn_call rfl (fun _ => trivial) 100 _ _ rfl enters_restyled #[.agg #[.bool T1.y.b, .bool T1.y.u, .bool T1.y.i, .int .i64 T1.y.f, .int .i64 T1.y.g], .int .i64 x.2] (by simp [Act.eval, Act.put]) (.agg (styT T1.y x.2).cells.toArray) (fun _ => by decide) (by rintro W2 ⟨p, rfl⟩; exact HRS.out _ _) ?_)
      | gi_big_quiet_step (fail)
      | quiet_step_in (fail))
    refine wpQuietIn_nil ?_
    intro _ hw'
    obtain ⟨⟨dq, osq⟩, hw''⟩ := hw'
    subst hw''
    have hbx := below_regrown W dq osq
    have HBX := Lib.hid hbx
    have HBY : Hid (Blk (grow (redrawn W dq) osq) t 63 (tmc t g T1 xs B.length)) := Lib.hid (HB.out.below hbx HB.out.lt)
    clear k0 k4 k5 k6 k7 k8 hbx
    generalize grow (redrawn W dq) osq = W2 at *
    obtain ⟨Y, hY⟩ : ∃ Y, Y = styT T1.y x.2 := ⟨_, rfl⟩
    rw [← hY]
    rw [← hY] at HF
    clear hY HRS
    gi_wp2_with (refine wpListIn_store_blk rfl _ _ _ rfl rfl t 4 _ (tmc t g T1 xs B.length) Y.cells rfl rfl HBY.out (by have := HX1.out; simp [tmc, stc, Sty.cells]) tsty_size (tsty_one _) ?_; intro W3 hn3 hg3; rw [sty_splice] at hn3)
    rw [← HF.out] at hn3
    have hcc : Chg (one t) W W3 := (Chg.of_below HBX.out).trans (chg_of_grown hg3) (fun k hk => .inl hk)
    exact ⟨((keeps_below HBX.out).trans (KeepsOthers.of_grownBy hg3 (fun j o e ho => by injection e with e; subst e; have h2 := HBY.out; unfold Blk at h2; rw [h2] at ho; injection ho with ho; subst ho; rfl))).from _, kc_tm HX1.out H.out.b32 HP.out hzz HB.out hn3 hcc, ⟨hn3, hcc.cell Q0.out hz0⟩, HCH.out.trans hcc (fun _ h => .inl h)⟩
  case done =>
    rintro D ys W hD rfl ⟨⟨hb, _⟩, hch⟩ hK
    have hDt : t ≠ D := by simp at hD; omega
    have hg := grownBy_putObj' W D (.deferred none)
    have hfin : TmStep w lo t g rb bs { T with y := (numsT (c :: l)).foldl styT T.y } B (W.putObj D (.deferred none)) := by
      have hfd : foldS T (numsI 0 0 (c :: l)) = { T with y := (numsT (c :: l)).foldl styT T.y } := by unfold foldS numsT; rw [numsI_snd]
      rw [hfd] at hb
      refine TmStep.bel_then (by rw [hzd]; exact HB1.out) ?_
      exact H1.out.wrote (xs := xs) (hch.grown hg (fun k e => by cases e; exact .inr (by simp at hD; omega))) HX1.out HX2.out H.out.b32 (hb.chg (chg_of_grown hg) (fun e => hDt e)) rfl rfl H.out.row H.out.col
    have HFIN := Lib.hid hfin
    clear hb hch hfin
    refine ⟨by simp, .inl ⟨_, _, rfl, run_takeDeferred hK, ?_⟩⟩
    refine ⟨.tuple #[], ?_, rfl, HFIN.out⟩
    simp [results, Tryz.f70, go_sem]
  case stop =>
    rintro D c pre W hD hpre hfalse
    exact hfalse.elim


set_option maxRecDepth 100000 in
set_option maxHeartbeats 8000000 in
theorem exec_n_sty (h : TmAt w lo t g rb bs T B) (hbase : Base w lo) (hQ : ([] : List UInt8).length ≤ 30) (hP : Piece t (some ⟨t, 19, none⟩) ([] : List UInt8) B)  :
    Calls Tryz.prog 70 #[.pointer (some ⟨t, 0, none⟩), .slice (some ⟨t, 19, none⟩) 0 30, .int .u8 109] w fun e w' => e = .returned (.tuple #[]) ∧ TmStep w lo t g rb bs ({ T with y := (numsT ([] : List UInt8)).foldl styT T.y }) B w' := by
  obtain ⟨W1, HW1, HB1, H1, HBS1, hkb, hs1⟩ := tbox h hbase
  have HS1 := Lib.hid hs1
  have HKB := Lib.hid hkb
  have htl := h.lt
  have H := Lib.hid h
  have HP := Lib.hid hP
  have HQ := Lib.hid hQ
  have hA : areN ([] : List UInt8) = true := rfl
  have HAR : Hid (∀ W, Below W1.heap.size W1 W → Calls Tryz.prog 97 #[.slice (some ⟨t, 19, none⟩) 0 30] W fun e w' => e = .returned (.bool true) ∧ W = w') := Lib.hid (fun W hW => by
    have := areN_any ([] : List UInt8) (by have := HQ.out; omega) (some ⟨t, 19, none⟩) 0 30 rfl W _ ((H1.out.below hW).piece HP.out)
    rw [hA] at this
    exact this)

  clear h hbase hs1 hkb hP hQ
  refine (callsIn_wide (n := 5)).1 ?_
  refine callsIn_of_wp_marks Tryz.func70 rfl trivial ?_ rfl
  simp only [Tryz.ntmps70, List.size_toArray, List.length_cons, List.length_nil, Nat.reduceAdd, Nat.reduceSub, Array.replicate_succ, Array.replicate_zero, List.push_toArray, List.append_toArray, List.nil_append, List.cons_append]
  refine wpIn_wide.2 ?_
  go_upto_region 1 with fail
  rw [← HW1.out]
  clear HW1
  go_wp2_with (go_at_call 97; refine (HAR.out _ (Below.refl _ _)).mono ?_; rintro e w' ⟨rfl, rfl⟩)
  refine (nums_any (some ⟨t, 19, none⟩) 0 30 _).mono ?_
  rintro e w3 ⟨rfl, rfl⟩
  go_wp2
  refine (wpIn_wide (n := 5)).1 ?_
  have hL : (([] : List UInt8)).length ≤ 100 := by have := HQ.out; omega
  have hB0 : Below W1.heap.size W1 (W1.alloc (.cells #[.slice (some ⟨t, 19, none⟩) 0 30] 32)) := (Below.refl _ W1).alloc (Nat.le_refl _) _
  have c2 := Boxed.new W1 32 (.slice (some ⟨t, 19, none⟩) 0 30)
  have q0 := HKB.out _ hB0
  have hS2 := slN_of (((H1.out.piece HP.out)).below hB0)
  have htl1 : t < W1.heap.size := H1.out.lt
  obtain ⟨xs, hx1, hx2, hx3⟩ := H1.out.blk
  have HX1 := Lib.hid hx1
  have HX2 := Lib.hid hx2
  have HX3 := Lib.hid hx3
  clear hx1 hx2 hx3
  have hc := nums_stops 4 (by omega) (W1.heap.size) (([] : List UInt8)) hL hA (some ⟨t, 19, none⟩) 30 _ c2.cell hS2 (by
    rintro p (rfl | ⟨bk, off, j, he, hj, rfl⟩)
    · simp
    · injection he with he; injection he with he1 he2
      subst he1
      simp; omega)
  have hzz : W1.heap.size ≠ t := by omega
  have hz0 : ¬ w.heap.size = t := by omega
  generalize hzd : w.heap.size = z0 at *
  refine wpIn_rangeFunc_ownG rfl (by omega) (gf := 134) (lb := #[.pointer (some ⟨W1.heap.size, 0, none⟩)]) rfl trivial (enters_of Tryz.func134 (by kernel_rfl) rfl) hc kc_t (kc_b _) (Below.refl _ _) (fun _ => rfl)
    (fun pre W => InS z0 t g T xs B.length pre W ∧ Chg (one t) W1 W)
    (fun c pre W => False)
    (OwnFrom.and (inS_own.from _) (ownFrom_chg (by simp)))
    (fun c _ _ _ _ h _ _ => h)
    ⟨⟨HX3.out.below hB0 htl1, q0⟩, Chg.of_below hB0⟩
    (fun x => { tmps := #[.pointer (some ⟨t, 0, none⟩), .slice (some ⟨t, 19, none⟩) 0 30, .int .u8 109, .pointer (some ⟨z0, 0, none⟩), undef, undef, .bool false, undef, .int .i64 x.2, .slice (some ⟨t, 19, none⟩) 0 30, .int .i64 0, .bool false, .bool false, undef, undef, undef, undef, .bool false, .bool false, undef, undef, undef, undef, undef, undef, undef, undef, undef, .bool false, .slice (some ⟨t, 19, none⟩) 0 30, .bool true, .bool false, .bool false, .bool false, undef, undef, undef, undef, .bool true, .int .u8 109, .bool true, .slice (some ⟨t, 19, none⟩) 0 30, .func (.func 134) #[] #[.pointer (some ⟨W1.heap.size, 0, none⟩)], .int .i64 x.1, .int .i64 x.2, undef, undef, undef, undef, undef, undef, undef, undef, undef, undef, undef], defers := [] }) ?assign ?body ?done ?stop
  case assign =>
    intro l x W K hK
    simp only [encN]
    rw [put_two]
    gi_wp2
    exact hK
  case body =>
    rintro lo' pre x W ⟨⟨hb, q0'⟩, hch⟩ _
    have HB := Lib.hid hb
    have HCH := Lib.hid hch
    obtain ⟨T1, hT1⟩ : ∃ T1, T1 = foldS T pre := ⟨_, rfl⟩
    rw [← hT1] at HB hb
    have HF := Lib.hid (show foldS T (pre ++ [x]) = { T1 with y := styT T1.y x.2 } by rw [foldS_snoc, hT1])
    have k0 := cell_regrown q0'
    have k4 := cell_regrown (show W.cell? ⟨t, 4, none⟩ = some (.bool T1.y.b) from hb.cell 4)
    have k5 := cell_regrown (show W.cell? ⟨t, 5, none⟩ = some (.bool T1.y.u) from hb.cell 5)
    have k6 := cell_regrown (show W.cell? ⟨t, 6, none⟩ = some (.bool T1.y.i) from hb.cell 6)
    have k7 := cell_regrown (show W.cell? ⟨t, 7, none⟩ = some (.int .i64 T1.y.f) from hb.cell 7)
    have k8 := cell_regrown (show W.cell? ⟨t, 8, none⟩ = some (.int .i64 T1.y.g) from hb.cell 8)
    have Q0 := Lib.hid q0'
    have HRS : Hid (∀ d os, CallsIn (Fence.wide.inRound lo') (5 - 1 - 1 - 1) Tryz.prog 100 #[.agg #[.bool T1.y.b, .bool T1.y.u, .bool T1.y.i, .int .i64 T1.y.f, .int .i64 T1.y.g], .int .i64 x.2] (grow (redrawn W d) os) fun e w'' => e = .returned (.agg (styT T1.y x.2).cells.toArray) ∧ ∃ p : Regrown, w'' = grow (redrawn W p.d) p.os) := Lib.hid (fun d os => CallsIn.inRound lo' (callsIn_wide.2 (Calls.regrown_of (restyled_all T1.y x.2 _))))
    clear hb hch hT1
    gi_wp2_with (fail)
    refine wpIn_region_below_tail 8 (by kernel_rfl) (by kernel_rfl) (by kernel_rfl) ?_
    simp only [List.take_succ_cons, List.take_zero, List.drop_succ_cons, List.drop_zero]
    repeat (first
      | (refine wpQuietIn_call rfl (fun _ => trivial) 100 _ _ rfl enters_restyled #[.agg #[.bool T1.y.b, .bool T1.y.u, .bool T1.y.i, .int .i64 T1.y.f, .int .i64 T1.y.g], .int .i64 x.2] (by simp [Act.eval, Act.put]) (.agg (styT T1.y x.2).cells.toArray) (fun _ => by decide) (by rintro W2 ⟨p, rfl⟩; exact HRS.out _ _) ?_)
      | gi_big_quiet_step (fail)
      | quiet_step_in (fail))
    refine wpQuietIn_nil ?_
    intro _ hw'
    obtain ⟨⟨dq, osq⟩, hw''⟩ := hw'
    subst hw''
    have hbx := below_regrown W dq osq
    have HBX := Lib.hid hbx
    have HBY : Hid (Blk (grow (redrawn W dq) osq) t 63 (tmc t g T1 xs B.length)) := Lib.hid (HB.out.below hbx HB.out.lt)
    clear k0 k4 k5 k6 k7 k8 hbx
    generalize grow (redrawn W dq) osq = W2 at *
    obtain ⟨Y, hY⟩ : ∃ Y, Y = styT T1.y x.2 := ⟨_, rfl⟩
    rw [← hY]
    rw [← hY] at HF
    clear hY HRS
    gi_wp2_with (refine wpListIn_store_blk rfl _ _ _ rfl rfl t 4 _ (tmc t g T1 xs B.length) Y.cells rfl rfl HBY.out (by have := HX1.out; simp [tmc, stc, Sty.cells]) tsty_size (tsty_one _) ?_; intro W3 hn3 hg3; rw [sty_splice] at hn3)
    rw [← HF.out] at hn3
    have hcc : Chg (one t) W W3 := (Chg.of_below HBX.out).trans (chg_of_grown hg3) (fun k hk => .inl hk)
    exact ⟨((keeps_below HBX.out).trans (KeepsOthers.of_grownBy hg3 (fun j o e ho => by injection e with e; subst e; have h2 := HBY.out; unfold Blk at h2; rw [h2] at ho; injection ho with ho; subst ho; rfl))).from _, kc_tm HX1.out H.out.b32 HP.out hzz HB.out hn3 hcc, ⟨hn3, hcc.cell Q0.out hz0⟩, HCH.out.trans hcc (fun _ h => .inl h)⟩
  case done =>
    rintro D ys W hD rfl ⟨⟨hb, _⟩, hch⟩ hK
    have hDt : t ≠ D := by simp at hD; omega
    have hg := grownBy_putObj' W D (.deferred none)
    have hfin : TmStep w lo t g rb bs { T with y := (numsT ([] : List UInt8)).foldl styT T.y } B (W.putObj D (.deferred none)) := by
      have hfd : foldS T (numsI 0 0 ([] : List UInt8)) = { T with y := (numsT ([] : List UInt8)).foldl styT T.y } := by unfold foldS numsT; rw [numsI_snd]
      rw [hfd] at hb
      refine TmStep.bel_then (by rw [hzd]; exact HB1.out) ?_
      exact H1.out.wrote (xs := xs) (hch.grown hg (fun k e => by cases e; exact .inr (by simp at hD; omega))) HX1.out HX2.out H.out.b32 (hb.chg (chg_of_grown hg) (fun e => hDt e)) rfl rfl H.out.row H.out.col
    have HFIN := Lib.hid hfin
    clear hb hch hfin
    refine ⟨by simp, .inl ⟨_, _, rfl, run_takeDeferred hK, ?_⟩⟩
    refine ⟨.tuple #[], ?_, rfl, HFIN.out⟩
    simp [results, Tryz.f70, go_sem]
  case stop =>
    rintro D c pre W hD hpre hfalse
    exact hfalse.elim

end
end Go.Proofs.YtfmkeeaenjeneaaGreatDoor
