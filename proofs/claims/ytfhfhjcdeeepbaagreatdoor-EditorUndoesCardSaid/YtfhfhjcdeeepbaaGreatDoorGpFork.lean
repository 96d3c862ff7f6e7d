/-
  Walks: copied, Fork.
-/
import Derived.Test.YtfhfhjcdeeepbaaGreatDoorGpNew
import Derived.Test.YtfhfhjcdeeepbaaGreatDoorRegK
namespace Go.Proofs.YtfhfhjcdeeepbaaGreatDoor
open Go.RowKit Go.Sort
set_option linter.unusedVariables false
set_option linter.unusedSimpArgs false

theorem run_eql_strs0 (w : World) : Sem.run Tryz.prog (binOp .eql 38 (.slice none 0 0) (.slice none 0 0)) w = .ok (.bool true) w := by
  have h : ∀ d : Nat, (Op.equalIn (d + 1) 38 (.slice none 0 0) (.slice none 0 0)).run Tryz.prog w = .ok true w := fun d => by
    simp [Op.equalIn, run_underlying Tryz.underlying38]
  simp only [binOp]
  simp [Op.equal, Op.maxDepth, h 9999]
set_option maxHeartbeats 4000000 in
theorem sclone_none (w : World) : Calls Tryz.prog 33 #[.slice none 0 0] w fun e w' => e = .returned (.slice none 0 0) ∧ Below w.heap.size w w' := by
  have he := run_eql_strs0
  go_enter Tryz.func33, Tryz.ntmps33
  go_wp2_with (fail)
  go_ret
  exact ⟨rfl, Below.refl _ _⟩
/-- where copied slots lie -/
def SlotsAt (w : World) (lo : Nat) (A : Option Addr) (n C f t : Nat) (p s : List (List UInt8)) : Prop :=
  n ≤ C ∧ ((A = none ∧ C = 0) ∨ ∃ ab tl, A = some ⟨ab, 0, none⟩ ∧ 1 ≤ n ∧ C = n + tl.length ∧ Blk w ab 9 (gc sz (sv p) (t - f) (sv s) tl) ∧ lo ≤ ab)
/-- what Clone of a buffer's slots hands back -/
def CopP (w : World) (n f t : Nat) (p s : List (List UInt8)) (e : Ending) (w' : World) : Prop :=
  ∃ A C, e = .returned (.slice A n C) ∧ Below w.heap.size w w' ∧ n ≤ C ∧ ((A = none ∧ C = 0) ∨ ∃ ab tl, A = some ⟨ab, 0, none⟩ ∧ 1 ≤ n ∧ C = n + tl.length ∧ Blk w' ab 9 (gc sz (sv p) (t - f) (sv s) tl) ∧ w.heap.size ≤ ab)
theorem gclone_any {w : World} {lo g n C most f t : Nat} {A : Option Addr} {p s : List (List UInt8)} (h : GpAt w lo g A n C most f t p s) :
    Calls Tryz.prog 33 #[.slice A n C] w (CopP w n f t p s) := by
  have hft := h.ft
  have htn := h.tn
  have hfp := h.fp
  rcases h.all with ⟨rfl, hC⟩ | ⟨ab, tl, rfl, hn1, hC, hb, hl⟩
  · have hn : n = 0 := by have := h.nC; omega
    subst hn
    subst hC
    exact (sclone_none w).mono (by rintro e w' ⟨rfl, hb⟩; exact ⟨none, 0, rfl, hb, Nat.le_refl _, .inl ⟨rfl, rfl⟩⟩)
  · have hlen : (gc sz (sv p) (t - f) (sv s) []).length = n := by rw [gc_length, sv_length, sv_length]; simp; omega
    have hS : Sl w w.heap.size (some ⟨ab, 0, none⟩) (gc sz (sv p) (t - f) (sv s) []) := .inr ⟨ab, 0, rfl, hb.lt, fun j u hu => by
      rw [Nat.zero_add, hb.cell, show gc sz (sv p) (t - f) (sv s) tl = gc sz (sv p) (t - f) (sv s) [] ++ tl by simp [gc], List.getElem?_append_left (List.getElem?_eq_some_iff.1 hu).1]
      exact hu⟩
    refine (sclone_some (gc sz (sv p) (t - f) (sv s) []) n C ab 0 w.heap.size hlen.symm (by omega) (by have := h.le; have := h.m4; omega) (gc_one (sv_one _) (sv_one _) (by intro v hv; cases hv) rfl) w hS (Nat.le_refl _)).mono ?_
    rintro e w' ⟨b2, tl2, rfl, hb2, hn2, hbb⟩
    refine ⟨some ⟨b2, 0, none⟩, n + tl2.length, rfl, hbb, by omega, .inr ⟨b2, tl2, rfl, hn1, rfl, ?_, hb2⟩⟩
    rw [show gc sz (sv p) (t - f) (sv s) tl2 = gc sz (sv p) (t - f) (sv s) [] ++ tl2 by simp [gc]]
    exact hn2
theorem Blk.gwhole {w : World} {g : Nat} {t : TypeId} {cs : List Value} (h : Blk w g t cs) : w.rangeAt g 0 cs := h.range 0 cs (fun j v hv => by simpa using hv)
theorem ggetD_eq {v : Value} {tmps : Array Value} {a : Nat} (h : tmps.getD a undef = v) : tmps[a]?.getD undef = v := by simpa using h
theorem gresults_c {fn : Func} {tmps : Array Value} {a t : Nat} {ad : Nat} {cs : List Value} {w : World} {d : TypeDesc} (hf : fn.results = #[.cell a t]) (ha : tmps.getD a undef = .pointer (some ⟨ad, 0, none⟩))
    (hc : w.rangeAt ad 0 cs) (hu : Tryz.prog.underlying t = some d) (hd : d.isRow = true) (hi : (Tryz.prog.info? t).map (·.size) = some cs.length) : (results fn tmps).run Tryz.prog w = .ok (.agg cs.toArray) w := by
  have hl := run_loadVar_mid (P := Tryz.prog) w ad 0 t cs d hc hu hd hi
  have ha' := ggetD_eq ha
  unfold results
  simp [hf, ha', asAddr, hl]
theorem gstep_store_blk {P : Program} {ops : Array Oper} {o : Oper} {a : Act} {w : World} {K : Act → World → Prop} {Q : Exit → Act → World → Prop} {E : Prop} (hgd : o.guard = none) (ty : TypeId) (x y : Operand) (ho : o.op = .store ty x y)
    (b p : Nat) (t : TypeId) (cs ds : List Value) (hx : a.eval x = .pointer (some ⟨b, p, none⟩)) (hy : a.eval y = .agg ds.toArray)
    (hb : Blk w b t cs) (hfit : p + ds.length ≤ cs.length) (hi : (P.info? ty).map (·.size) = some ds.length) (h1 : ∀ v ∈ ds, v.oneCell' = true)
    (h : ∀ w', Blk w' b t (splice cs p ds) → w.grownBy w' (some b) → K (a.put o.dst undef) w') : if Region.wanted o (yielded ops a.tmps) = true then Oper.wp P o a w K Q else E := by
  have hw : Region.wanted o (yielded ops a.tmps) = true := by simp [Region.wanted, hgd]
  rw [if_pos hw]
  unfold Oper.wp execOp
  simp only [ho, hx, hy, Instr.storeAt, Instr.sureAddr, Sem.run_bind, Sem.run_pure, Result.andThen_ok, run_storeVar_blk w b p ty t cs ds hb hfit hi h1]
  exact h _ (hb.row _) (grown_setRow w b _)
/-- what copied hands back -/
def CpdP (w : World) (n f t : Nat) (p s : List (List UInt8)) (e : Ending) (w' : World) : Prop :=
  ∃ A C, e = .returned (.agg #[.slice A n C, .int .i64 f, .int .i64 t]) ∧ Below w.heap.size w w' ∧ n ≤ C ∧ ((A = none ∧ C = 0) ∨ ∃ ab tl, A = some ⟨ab, 0, none⟩ ∧ 1 ≤ n ∧ C = n + tl.length ∧ Blk w' ab 9 (gc sz (sv p) (t - f) (sv s) tl) ∧ w.heap.size ≤ ab)
set_option maxRecDepth 100000 in
set_option maxHeartbeats 4000000 in
theorem gcopied_any {w : World} {lo g n C most f t : Nat} {A : Option Addr} {p s : List (List UInt8)} (h : GpAt w lo g A n C most f t p s) :
    Calls Tryz.prog 85 #[.pointer (some ⟨g, 2, none⟩)] w (CpdP w n f t p s) := by
  have hb0 : Below w.heap.size w (w.alloc (.cells #[.slice none 0 0, .int .i64 0, .int .i64 0] 69)) := (Below.refl _ w).alloc (Nat.le_refl _) _
  have G := Lib.hid (h.below hb0)
  have HB0 := Lib.hid hb0
  clear hb0 h
  go_enter Tryz.func85, Tryz.ntmps85
  go_upto_region 1 with (fail)
  have HSD : Hid ((fun W : World => W.cell? ⟨g, 2, none⟩ = some (.slice A n C) ∧ W.cell? ⟨g, 3, none⟩ = some (.int .i64 f) ∧ W.cell? ⟨g, 4, none⟩ = some (.int .i64 t)) (w.alloc (.cells #[.slice none 0 0, .int .i64 0, .int .i64 0] 69))) := Lib.hid ⟨G.out.c2, G.out.c3, G.out.c4⟩
  refine wp_region_K (fun W : World => W.cell? ⟨g, 2, none⟩ = some (.slice A n C) ∧ W.cell? ⟨g, 3, none⟩ = some (.int .i64 f) ∧ W.cell? ⟨g, 4, none⟩ = some (.int .i64 t)) 14 (by kernel_rfl) ?_
  refine wpAnyK_takeP (i := 0) (v := ?v0) rfl (by kernel_rfl) (by kernel_rfl) (by kernel_rfl) (by kernel_rfl) (fun _ _ _ h => h) (Or.inl ⟨by rfl, fun w hSw => ?hy0⟩) (.inr HSD.out) ?rest0
  case hy0 =>
    go_simp
    try with_reducible rfl
  change wpAnyK _ _ _ _ _ _ _ _ (Act.put _ (some 3) _) _
  try simp only [Act.put, List.setIfInBounds_toArray, List.set_cons_zero, List.set_cons_succ]
  refine wpAnyK_takeP (i := 1) (v := ?v1) rfl (by kernel_rfl) (by kernel_rfl) (by kernel_rfl) (by kernel_rfl) (fun _ _ _ h => h) (Or.inl ⟨by rfl, fun w hSw => ?hy1⟩) (.inr HSD.out) ?rest1
  case hy1 =>
    go_simp
    try with_reducible rfl
  change wpAnyK _ _ _ _ _ _ _ _ (Act.put _ (some 4) _) _
  try simp only [Act.put, List.setIfInBounds_toArray, List.set_cons_zero, List.set_cons_succ]
  refine wpAnyK_takeP (i := 2) (v := ?v2) rfl (by kernel_rfl) (by kernel_rfl) (by kernel_rfl) (by kernel_rfl) (fun _ _ _ h => h) (Or.inl ⟨by rfl, fun w hSw => ?hy2⟩) (.inr HSD.out) ?rest2
  case hy2 =>
    go_simp
    try with_reducible rfl
  change wpAnyK _ _ _ _ _ _ _ _ (Act.put _ (some 5) _) _
  try simp only [Act.put, List.setIfInBounds_toArray, List.set_cons_zero, List.set_cons_succ]
  refine wpAnyK_take (i := 3) (v := .slice A n C) rfl (by kernel_rfl) (by kernel_rfl) (by kernel_rfl) (by kernel_rfl) (fun _ _ _ h => h) (Or.inl ⟨by rfl, fun w hSw => ?hy3⟩) HSD.out ?rest3
  case hy3 =>
    have s1 := hSw.1
    clear hSw
    try dsimp only at s1
    go_simp
    try with_reducible rfl
  change wpAnyK _ _ _ _ _ _ _ _ (Act.put _ (some 6) _) _
  try simp only [Act.put, List.setIfInBounds_toArray, List.set_cons_zero, List.set_cons_succ]
  refine wpAnyK_takeP (i := 5) (v := ?v5) rfl (by kernel_rfl) (by kernel_rfl) (by kernel_rfl) (by kernel_rfl) (fun _ _ _ h => h) (Or.inl ⟨by rfl, fun w hSw => ?hy5⟩) (.inr HSD.out) ?rest5
  case hy5 =>
    go_simp
    try with_reducible rfl
  change wpAnyK _ _ _ _ _ _ _ _ (Act.put _ (some 8) _) _
  try simp only [Act.put, List.setIfInBounds_toArray, List.set_cons_zero, List.set_cons_succ]
  refine wpAnyK_takeP (i := 6) (v := ?v6) rfl (by kernel_rfl) (by kernel_rfl) (by kernel_rfl) (by kernel_rfl) (fun _ _ _ h => h) (Or.inl ⟨by rfl, fun w hSw => ?hy6⟩) (.inr HSD.out) ?rest6
  case hy6 =>
    go_simp
    try with_reducible rfl
  change wpAnyK _ _ _ _ _ _ _ _ (Act.put _ (some 9) _) _
  try simp only [Act.put, List.setIfInBounds_toArray, List.set_cons_zero, List.set_cons_succ]
  refine wpAnyK_takeP (i := 7) (v := ?v7) rfl (by kernel_rfl) (by kernel_rfl) (by kernel_rfl) (by kernel_rfl) (fun _ _ _ h => h) (Or.inl ⟨by rfl, fun w hSw => ?hy7⟩) (.inr HSD.out) ?rest7
  case hy7 =>
    go_simp
    try with_reducible rfl
  change wpAnyK _ _ _ _ _ _ _ _ (Act.put _ (some 10) _) _
  try simp only [Act.put, List.setIfInBounds_toArray, List.set_cons_zero, List.set_cons_succ]
  refine wpAnyK_take (i := 8) (v := .int .i64 f) rfl (by kernel_rfl) (by kernel_rfl) (by kernel_rfl) (by kernel_rfl) (fun _ _ _ h => h) (Or.inl ⟨by rfl, fun w hSw => ?hy8⟩) HSD.out ?rest8
  case hy8 =>
    have s1 := hSw.2.1
    clear hSw
    try dsimp only at s1
    go_simp
    try with_reducible rfl
  change wpAnyK _ _ _ _ _ _ _ _ (Act.put _ (some 11) _) _
  try simp only [Act.put, List.setIfInBounds_toArray, List.set_cons_zero, List.set_cons_succ]
  refine wpAnyK_takeP (i := 9) (v := ?v9) rfl (by kernel_rfl) (by kernel_rfl) (by kernel_rfl) (by kernel_rfl) (fun _ _ _ h => h) (Or.inl ⟨by rfl, fun w hSw => ?hy9⟩) (.inr HSD.out) ?rest9
  case hy9 =>
    go_simp
    try with_reducible rfl
  change wpAnyK _ _ _ _ _ _ _ _ (Act.put _ (some 12) _) _
  try simp only [Act.put, List.setIfInBounds_toArray, List.set_cons_zero, List.set_cons_succ]
  refine wpAnyK_takeP (i := 10) (v := ?v10) rfl (by kernel_rfl) (by kernel_rfl) (by kernel_rfl) (by kernel_rfl) (fun _ _ _ h => h) (Or.inl ⟨by rfl, fun w hSw => ?hy10⟩) (.inr HSD.out) ?rest10
  case hy10 =>
    go_simp
    try with_reducible rfl
  change wpAnyK _ _ _ _ _ _ _ _ (Act.put _ (some 13) _) _
  try simp only [Act.put, List.setIfInBounds_toArray, List.set_cons_zero, List.set_cons_succ]
  refine wpAnyK_takeP (i := 11) (v := ?v11) rfl (by kernel_rfl) (by kernel_rfl) (by kernel_rfl) (by kernel_rfl) (fun _ _ _ h => h) (Or.inl ⟨by rfl, fun w hSw => ?hy11⟩) (.inr HSD.out) ?rest11
  case hy11 =>
    go_simp
    try with_reducible rfl
  change wpAnyK _ _ _ _ _ _ _ _ (Act.put _ (some 14) _) _
  try simp only [Act.put, List.setIfInBounds_toArray, List.set_cons_zero, List.set_cons_succ]
  refine wpAnyK_take (i := 12) (v := .int .i64 t) rfl (by kernel_rfl) (by kernel_rfl) (by kernel_rfl) (by kernel_rfl) (fun _ _ _ h => h) (Or.inl ⟨by rfl, fun w hSw => ?hy12⟩) HSD.out ?rest12
  case hy12 =>
    have s1 := hSw.2.2
    clear hSw
    try dsimp only at s1
    go_simp
    try with_reducible rfl
  change wpAnyK _ _ _ _ _ _ _ _ (Act.put _ (some 15) _) _
  try simp only [Act.put, List.setIfInBounds_toArray, List.set_cons_zero, List.set_cons_succ]
  refine wpAnyK_only (i := 4) (by kernel_rfl) rfl (fun K hK => ?_)
  refine step_call rfl 33 _ _ rfl (enters_of Tryz.func33 (by kernel_rfl) rfl) #[.slice A n C] (by simp [Act.eval, Act.put]) (gclone_any (w := (w.alloc (.cells #[.slice none 0 0, .int .i64 0, .int .i64 0] 69)).drew) (G.out.drewN 1)) ?_
  rintro e wx ⟨A', C', rfl, hbx, hnx, hax⟩
  refine ⟨_, rfl, ?_⟩
  have HGX := Lib.hid (G.out.below (((Below.refl _ _).drew).trans hbx))
  have HSX : Hid ((fun W : World => W.cell? ⟨g, 2, none⟩ = some (.slice A n C) ∧ W.cell? ⟨g, 3, none⟩ = some (.int .i64 f) ∧ W.cell? ⟨g, 4, none⟩ = some (.int .i64 t)) wx) := Lib.hid ⟨HGX.out.c2, HGX.out.c3, HGX.out.c4⟩
  have HBL := Lib.hid ((Blk.new w 69 [.slice none 0 0, .int .i64 0, .int .i64 0]).below (((Below.refl (w.alloc (.cells #[.slice none 0 0, .int .i64 0, .int .i64 0] 69)).heap.size (w.alloc (.cells #[.slice none 0 0, .int .i64 0, .int .i64 0] 69))).drew).trans hbx) (Blk.new w 69 [.slice none 0 0, .int .i64 0, .int .i64 0]).lt)
  have HBX := Lib.hid hbx
  have HAX := Lib.hid hax
  have HNX := Lib.hid hnx
  clear hbx hax hnx
  refine hK.out _ _ (.inr HSX.out) ?_
  clear hK K
  change wpAnyK _ _ _ _ _ _ _ _ (Act.put _ (some 7) _) _
  try simp only [Act.put, List.setIfInBounds_toArray, List.set_cons_zero, List.set_cons_succ]
  refine wpAnyK_only (i := 13) (by kernel_rfl) rfl (fun K hK => ?_)
  go_simp
  refine hK.out _ _ (.inr HSX.out) ?_
  clear hK K
  try simp only [Act.put, List.setIfInBounds_toArray, List.set_cons_zero, List.set_cons_succ]
  refine wpAnyK_only (i := 14) (by kernel_rfl) rfl (fun K hK => ?_)
  refine gstep_store_blk rfl 69 _ _ rfl w.heap.size 0 69 _ [.slice A' n C', .int .i64 f, .int .i64 t] (by simp [Act.eval, Act.put]) (by simp [Act.eval, Act.put]) HBL.out (by simp) (by kernel_rfl) (by intro v hv; simp at hv; rcases hv with rfl | rfl | rfl <;> rfl) ?_
  intro w3 hn3 hg3
  rw [show splice [.slice none 0 0, .int .i64 0, .int .i64 0] 0 [.slice A' n C', .int .i64 f, .int .i64 t] = [Value.slice A' n C', .int .i64 f, .int .i64 t] by rfl] at hn3
  refine hK.out _ _ (.inl (by kernel_rfl)) ?_
  clear hK K
  try simp only [Act.put, List.setIfInBounds_toArray, List.set_cons_zero, List.set_cons_succ]
  refine wpAnyK_done (by kernel_rfl) ?_ _
  have HN3 := Lib.hid hn3
  have HG3 := Lib.hid hg3
  clear hn3 hg3
  go_wp2_with (fail)
  have hsx : w.heap.size + 1 ≤ wx.heap.size := by have := HBX.out.size; simpa using this
  refine bodyPost_ret (gresults_c rfl rfl HN3.out.gwhole Tryz.underlying69 rfl (by kernel_rfl)) rfl ⟨A', C', rfl, ?_, HNX.out, ?_⟩
  · have hbw : Below w.heap.size w wx := HB0.out.trans ((((Below.refl _ _).drew).trans HBX.out).mono (by simp))
    exact hbw.grown HG3.out (by omega) (fun j hj => by injection hj with hj; omega)
  · have hc3 : Chg (one w.heap.size) wx w3 := chg_via (S := one w.heap.size) (w1 := wx) (Below.refl _ _) HG3.out rfl
    refine HAX.out.imp id ?_
    rintro ⟨ab, tl, e, h1, h2, hb, h3⟩
    have h3' : w.heap.size + 1 ≤ ab := by simpa using h3
    exact ⟨ab, tl, e, h1, h2, hb.chg hc3 (fun e => by have e : ab = w.heap.size := e; omega), by omega⟩
/-- what Fork hands back -/
def ForkP (w : World) (most n f t : Nat) (p s : List (List UInt8)) (e : Ending) (w' : World) : Prop :=
  ∃ g' A' C', e = .returned (.pointer (some ⟨g', 0, none⟩)) ∧ GpAt w' w.heap.size g' A' n C' most f t p s ∧ Below w.heap.size w w'
set_option maxRecDepth 100000 in
set_option maxHeartbeats 4000000 in
theorem gfork_any {w : World} {lo g n C most f t : Nat} {A : Option Addr} {p s : List (List UInt8)} (h : GpAt w lo g A n C most f t p s) :
    Calls Tryz.prog 62 #[.pointer (some ⟨g, 0, none⟩)] w (ForkP w most n f t p s) := by
  have G := Lib.hid h
  clear h
  go_enter Tryz.func62, Tryz.ntmps62
  go_upto_region 3 with (go_at_call 40; refine (gmade_yes g _ G.out.c0).mono ?_; rintro e w1 ⟨rfl, rfl⟩)
  have HSD : Hid ((fun W : World => W.cell? ⟨g, 1, none⟩ = some (.int .i64 most)) w) := Lib.hid G.out.c1
  refine wp_region_K (fun W : World => W.cell? ⟨g, 1, none⟩ = some (.int .i64 most)) 8 (by kernel_rfl) ?_
  refine wpAnyK_takeP (i := 0) (v := ?v0) rfl (by kernel_rfl) (by kernel_rfl) (by kernel_rfl) (by kernel_rfl) (fun _ _ _ h => h) (Or.inl ⟨by rfl, fun w hSw => ?hy0⟩) (.inr HSD.out) ?rest0
  case hy0 =>
    go_simp
    try with_reducible rfl
  change wpAnyK _ _ _ _ _ _ _ _ (Act.put _ (some 6) _) _
  try simp only [Act.put, List.setIfInBounds_toArray, List.set_cons_zero, List.set_cons_succ]
  refine wpAnyK_takeP (i := 1) (v := ?v1) rfl (by kernel_rfl) (by kernel_rfl) (by kernel_rfl) (by kernel_rfl) (fun _ _ _ h => h) (Or.inl ⟨by rfl, fun w hSw => ?hy1⟩) (.inr HSD.out) ?rest1
  case hy1 =>
    go_simp
    try with_reducible rfl
  change wpAnyK _ _ _ _ _ _ _ _ (Act.put _ (some 7) _) _
  try simp only [Act.put, List.setIfInBounds_toArray, List.set_cons_zero, List.set_cons_succ]
  refine wpAnyK_takeP (i := 2) (v := ?v2) rfl (by kernel_rfl) (by kernel_rfl) (by kernel_rfl) (by kernel_rfl) (fun _ _ _ h => h) (Or.inl ⟨by rfl, fun w hSw => ?hy2⟩) (.inr HSD.out) ?rest2
  case hy2 =>
    go_simp
    try with_reducible rfl
  change wpAnyK _ _ _ _ _ _ _ _ (Act.put _ (some 8) _) _
  try simp only [Act.put, List.setIfInBounds_toArray, List.set_cons_zero, List.set_cons_succ]
  refine wpAnyK_take (i := 3) (v := .int .i64 most) rfl (by kernel_rfl) (by kernel_rfl) (by kernel_rfl) (by kernel_rfl) (fun _ _ _ h => h) (Or.inl ⟨by rfl, fun w hSw => ?hy3⟩) HSD.out ?rest3
  case hy3 =>
    have s1 := hSw
    clear hSw
    try dsimp only at s1
    go_simp
    try with_reducible rfl
  change wpAnyK _ _ _ _ _ _ _ _ (Act.put _ (some 9) _) _
  try simp only [Act.put, List.setIfInBounds_toArray, List.set_cons_zero, List.set_cons_succ]
  refine wpAnyK_takeP (i := 4) (v := ?v4) rfl (by kernel_rfl) (by kernel_rfl) (by kernel_rfl) (by kernel_rfl) (fun _ _ _ h => h) (Or.inl ⟨by rfl, fun w hSw => ?hy4⟩) (.inr HSD.out) ?rest4
  case hy4 =>
    go_simp
    try with_reducible rfl
  change wpAnyK _ _ _ _ _ _ _ _ (Act.put _ (some 10) _) _
  try simp only [Act.put, List.setIfInBounds_toArray, List.set_cons_zero, List.set_cons_succ]
  refine wpAnyK_takeP (i := 5) (v := ?v5) rfl (by kernel_rfl) (by kernel_rfl) (by kernel_rfl) (by kernel_rfl) (fun _ _ _ h => h) (Or.inl ⟨by rfl, fun w hSw => ?hy5⟩) (.inr HSD.out) ?rest5
  case hy5 =>
    go_simp
    try with_reducible rfl
  change wpAnyK _ _ _ _ _ _ _ _ (Act.put _ (some 11) _) _
  try simp only [Act.put, List.setIfInBounds_toArray, List.set_cons_zero, List.set_cons_succ]
  refine wpAnyK_takeP (i := 6) (v := ?v6) rfl (by kernel_rfl) (by kernel_rfl) (by kernel_rfl) (by kernel_rfl) (fun _ _ _ h => h) (Or.inl ⟨by rfl, fun w hSw => ?hy6⟩) (.inr HSD.out) ?rest6
  case hy6 =>
    go_simp
    try with_reducible rfl
  change wpAnyK _ _ _ _ _ _ _ _ (Act.put _ (some 12) _) _
  try simp only [Act.put, List.setIfInBounds_toArray, List.set_cons_zero, List.set_cons_succ]
  refine wpAnyK_only (i := 7) (by kernel_rfl) rfl (fun K hK => ?_)
  refine step_call rfl 85 _ _ rfl (enters_of Tryz.func85 (by kernel_rfl) rfl) #[.pointer (some ⟨g, 2, none⟩)] (by simp [Act.eval, Act.put]) (gcopied_any (w := w.drew) (G.out.drewN 1)) ?_
  rintro e wx ⟨A', C', rfl, hbx, hnx, hax⟩
  refine ⟨_, rfl, ?_⟩
  have HGX := Lib.hid (GpAt.below (w := w.drew) (G.out.drewN 1) hbx)
  have HSX : Hid ((fun W : World => W.cell? ⟨g, 1, none⟩ = some (.int .i64 most)) wx) := Lib.hid HGX.out.c1
  have HBX := Lib.hid hbx
  have HAX := Lib.hid hax
  have HNX := Lib.hid hnx
  clear hbx hax hnx
  refine hK.out _ _ (.inr HSX.out) ?_
  clear hK K
  change wpAnyK _ _ _ _ _ _ _ _ (Act.put _ (some 13) _) _
  try simp only [Act.put, List.setIfInBounds_toArray, List.set_cons_zero, List.set_cons_succ]
  refine wpAnyK_only (i := 8) (by kernel_rfl) rfl (fun K hK => ?_)
  refine step_call rfl 36 _ _ rfl (enters_of Tryz.func36 (by kernel_rfl) rfl) #[.int .i64 most, .agg #[.slice A' n C', .int .i64 f, .int .i64 t]] (by simp [Act.eval, Act.put]) (withslots_any most A' n C' f t wx) ?_
  rintro e wy ⟨g', rfl, hg', hby, hbk⟩
  refine ⟨_, rfl, ?_⟩
  have HGY := Lib.hid hg'
  have HBY := Lib.hid hby
  have HBK := Lib.hid hbk
  clear hg' hby hbk
  refine hK.out _ _ (.inl (by kernel_rfl)) ?_
  clear hK K
  change wpAnyK _ _ _ _ _ _ _ _ (Act.put _ (some 14) _) _
  try simp only [Act.put, List.setIfInBounds_toArray, List.set_cons_zero, List.set_cons_succ]
  refine wpAnyK_only (i := 9) (by kernel_rfl) rfl (fun K hK => ?_)
  go_simp
  refine hK.out _ _ (.inl (by kernel_rfl)) ?_
  clear hK K
  try simp only [Act.put, List.setIfInBounds_toArray, List.set_cons_zero, List.set_cons_succ]
  refine wpAnyK_done (by kernel_rfl) ?_ _
  go_wp2_with (fail)
  have hbw : Below w.heap.size w wx := ((Below.refl _ w).drew).trans HBX.out
  refine bodyPost_ret (results_tmp rfl _ _ _) rfl ⟨g', A', C', rfl, ⟨HBK.out, G.out.fp, G.out.ft, G.out.tn, HNX.out, ?_, G.out.le, G.out.m1, G.out.m4, Nat.le_trans hbw.size HGY.out, G.out.is⟩, hbw.trans (HBY.out.mono hbw.size)⟩
  refine HAX.out.imp id ?_
  rintro ⟨ab, tl, e, h1, h2, hb, h3⟩
  exact ⟨ab, tl, e, h1, h2, hb.below HBY.out hb.lt, h3⟩
end Go.Proofs.YtfhfhjcdeeepbaaGreatDoor
