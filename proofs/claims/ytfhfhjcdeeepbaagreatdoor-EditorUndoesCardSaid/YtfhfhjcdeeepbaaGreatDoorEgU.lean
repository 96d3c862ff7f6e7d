/-
  Walk: undo of a state.
  Walks: undo as an act; Set of an editor.
  Any act of an editor: what it leaves keeps the notes in order, and what it refuses leaves the line.
  Any act of an editor, Insert and Set: one theorem for each.
  Insert, Set and Before of an editor, as the law wants them.
-/
import Derived.Test.YtfhfhjcdeeepbaaGreatDoorEdDel
namespace Go.Proofs.YtfhfhjcdeeepbaaGreatDoor
open Go.RowKit Go.Sort
set_option linter.unusedVariables false
set_option linter.unusedSimpArgs false
set_option maxRecDepth 100000

theorem EdR.next {w w1 w2 : World} {lo b most : Nat} {c c1 : EdC} {m2 : EdM} (hg : c1.g = c.g) (hc : Chg (EdOwn b c) w w1) (ho : ∀ k, EdOwn b c1 k → EdOwn b c k ∨ w.heap.size ≤ k) (h : EdR w1 lo b c1 most m2 w2) : EdR w lo b c most m2 w2 := by
  obtain ⟨c2, hg2, h2, hc2, ho2⟩ := h
  exact ⟨c2, hg2.trans hg, h2, hc.trans hc2 ho, fun k hk => by
    rcases ho2 k hk with h3 | h3
    · exact ho k h3
    · exact .inr (Nat.le_trans hc.size h3)⟩
/-- the clusters of what was put behind each other -/
theorem cut_flat (x : List (List UInt8)) (hx : ∀ c ∈ x, isC c = true) (hl : x.length ≤ 4096) (w : World) (hT : Tabs w) :
    Calls Tryz.prog 46 #[flatV x] w fun e w' => ∃ A c, e = .returned (.slice A x.length c) ∧ OR w' w.heap.size 9 A x.length c (sv x) ∧ Below w.heap.size w w' := by
  have hfl := flat_le (fun c hc => isC_len (hx c hc))
  have hq := ccut_any ⟨(x.flatten).toArray⟩ (by rw [size_of]; omega) w hT
  have hback := cut_back hx
  have hclen : (cls (rs x.flatten)).length = x.length := by rw [← congrArg List.length hback, List.length_map]
  rw [show (⟨(x.flatten).toArray⟩ : ByteArray).data.toList = x.flatten from rfl, hclen, hback] at hq
  exact hq
theorem ebecome_any {W : World} {lo b most : Nat} {c : EdC} {m : EdM} (h : EdAt W lo b c most m) (hT : TL lo W) (l : List (List UInt8)) (X : Option Addr) (n d : Nat) (hn : n = l.length) (hnm : n ≤ most) (hl : ∀ c ∈ l, isC c = true) (hX : Sl W W.heap.size X (sv l)) (hXo : ∀ b off, X = some ⟨b, off, none⟩ → ¬ GpOwn c.g c.A b) :
    Calls Tryz.prog 51 #[.agg #[.pointer (some ⟨c.g, 0, none⟩)], .slice X n d] W fun e w' => e = .returned (.tuple #[]) ∧ EdR W lo b c most { m with p := l, s := [] } w' := by
  refine (lbecome_any h.buf (fun V hV => (hT.chg hV (fun k hk => (h.buf.own_lt k hk).1)).tb) l X n d hn hnm hl hX hXo).mono ?_
  rintro e w' ⟨rfl, A', n', C', t', hg, hc, hk⟩
  obtain ⟨h1, h2, h3⟩ := h.buf' hg hc hk
  exact ⟨rfl, { c with A := A', n := n', C := C', t := t' }, rfl, h1, h2, h3⟩
theorem emove_any {W : World} {lo b most : Nat} {c : EdC} {m : EdM} (h : EdAt W lo b c most m) (z : Int) :
    Calls Tryz.prog 74 #[.pointer (some ⟨c.g, 0, none⟩), .int .i64 z] W fun e w' => e = .returned (.int .i64 (clampN z (ln m.p m.s) : Nat)) ∧ EdR W lo b c most (m.moved (clampN z (ln m.p m.s))) w' := by
  refine (gmove_any h.buf z).mono ?_
  rintro e w' ⟨rfl, ⟨f', t', hg⟩, hc⟩
  have hf : f' = ((m.p ++ m.s).take (clampN z (ln m.p m.s))).length := hg.fp.symm
  subst hf
  obtain ⟨h1, h2, h3⟩ := h.buf' hg hc (fun k hk => .inl hk)
  exact ⟨rfl, { c with t := t' }, rfl, h1, h2, h3⟩
/-- the line as it was noted -/
def EdM.undone (m : EdM) (x : List (List UInt8)) (q : Nat) (r : List (List (List UInt8) × Nat)) : EdM := { m with p := x.take q, s := x.drop q, ps := r }
set_option maxHeartbeats 2000000 in
theorem undo_no {w : World} {lo b most : Nat} {c : EdC} {m : EdM} (h : EdAt w lo b c most m) (hps : m.ps = []) :
    Calls Tryz.prog 55 #[.pointer (some ⟨b, 1, none⟩)] w (EdStep w lo b c most m false) := by
  have k3 := h.cells.2.2
  rw [hps] at k3
  simp only [List.length_nil] at k3
  have H := Lib.hid h
  clear h hps
  go_enter Tryz.func55, Tryz.ntmps55
  go_wp2_with (fail)
  go_ret
  exact EdStep.of_below H.out (Below.refl _ _)
set_option maxHeartbeats 16000000 in
theorem undo_yes {w : World} {lo b most : Nat} {c : EdC} {m : EdM} (h : EdAt w lo b c most m) (hT : TL lo w) (hlo : lo ≤ w.heap.size) (x : List (List UInt8)) (q : Nat) (r : List (List (List UInt8) × Nat)) (hps : m.ps = (x, q) :: r) (hr : r.length ≤ 64) (hx : ∀ c ∈ x, isC c = true) (hxl : x.length ≤ most) (hq : q ≤ x.length) :
    Calls Tryz.prog 55 #[.pointer (some ⟨b, 1, none⟩)] w (EdStep w lo b c most (m.undone x q r) true) := by
  obtain ⟨n, hn⟩ : ∃ n, n = r.length := ⟨_, rfl⟩
  have hm4 := h.buf.m4
  have hpl : m.ps.length = n + 1 := by rw [hps, List.length_cons, hn]
  have k3 := h.cells.2.2
  have hrow := h.ps
  rw [hpl] at k3 hrow
  rw [hps] at hrow
  obtain ⟨qb, cur, hQ, hqb, hqk, hqt, hnc, hcm, hcl⟩ := own_open hrow (by omega)
  have hqr := own_lt hrow
  have x0 : w.cell? ⟨qb, 0, none⟩ = some (.string ⟨(x.flatten).toArray⟩) := by
    rw [hqk.cell, show cur[0]? = (cur.take ((n + 1) * 2))[0]? from by rw [List.getElem?_take, if_pos (by omega)], hqt]
    rfl
  have x1 : w.cell? ⟨qb, 1, none⟩ = some (.int .i64 q) := by
    rw [hqk.cell, show cur[1]? = (cur.take ((n + 1) * 2))[1]? from by rw [List.getElem?_take, if_pos (by omega)], hqt]
    rfl
  have hqlt := hqk.lt
  have h1c := nV_one ((x, q) :: r)
  have hdrop : (nV ((x, q) :: r)).drop 2 = nV r := by rw [nV_cons]; rfl
  obtain ⟨W2, hW2⟩ : ∃ W2, W2 = w.alloc (.cells #[.string ⟨(x.flatten).toArray⟩, .int .i64 q] 64) := ⟨_, rfl⟩
  have hb2 : Below w.heap.size w W2 := by rw [hW2]; exact (Below.refl _ _).alloc (Nat.le_refl _) _
  have hbx2 : Blk W2 w.heap.size 64 [.string ⟨(x.flatten).toArray⟩, .int .i64 q] := by rw [hW2]; exact Blk.new w _ _
  have h2 := h.below hb2
  have hrow2 := own_below hrow hb2
  have hdel := sdelN_any lo c.Q n c.qc (nV ((x, q) :: r)) W2 hrow2 (by omega) h1c
  rw [hdrop] at hdel
  have hblt := h.st.lt
  have hlob := h.lo
  rw [hQ] at k3 hdel
  have HDEL := Lib.hid hdel
  have H2 := Lib.hid h2
  have HB2 := Lib.hid hb2
  have HBX2 := Lib.hid hbx2
  have HTL := Lib.hid hT
  have HN := Lib.hid hn
  have HQQ := Lib.hid hQ
  have HX := Lib.hid hx
  have HW0 : Hid (∀ k, EdOwn b c k → k < w.heap.size) := Lib.hid (fun k hk => (h.own_lt k hk).2)
  have HW1 : Hid (∀ k, EdOwn b c k → lo ≤ k) := Lib.hid (fun k hk => (h.own_lt k hk).1)
  have k32 : W2.cell? ⟨b, 3, none⟩ = some (.slice (some ⟨qb, 0, none⟩) (n + 1) c.qc) := (hb2.cell (p := ⟨b, 3, none⟩) hblt).trans k3
  have hni : ¬ ((n : Int) + 1 = 0) := by omega
  have hne : ((n : Int) + 1 == 0) = false := by rw [beq_eq_false_iff_ne]; omega
  clear h hrow hqk hqt hcl hcm hnc hps hpl hb2 hbx2 h2 hrow2 hdel hT hn hx h1c hdrop hqr
  go_enter Tryz.func55, Tryz.ntmps55
  go_wp2_with (fail)
  rw [← hW2]
  clear hW2
  refine HDEL.out.mono ?_
  rintro e w3 ⟨rfl, ho3, hc3⟩
  have hbq : b ≠ qb := fun e => H2.out.b_Q (by rw [HQQ.out, ← e]; rfl)
  have hst3 := H2.out.st.chg hc3 (fun e => hbq (by have h8 : some qb = some b := e; injection h8 with h8; exact h8.symm))
  have z3 := hst3.cell 3
  have y3 := hst3.frozen 3
  have hps4 := H2.out.ps' (A := some ⟨qb, 0, none⟩) (n := n) (cc := c.qc) (ps' := r) HN.out ho3 (by rw [HQQ.out]; exact hc3) (fun k hk => .inl (by rw [HQQ.out]; exact hk))
  obtain ⟨he4, hch4, how4⟩ := hps4
  obtain ⟨W4, hW4⟩ : ∃ W4, W4 = w3.setCell ⟨b, 3, none⟩ (.slice (some ⟨qb, 0, none⟩) n c.qc) := ⟨_, rfl⟩
  rw [← hW4] at he4 hch4
  have hnown : ¬ EdOwn b c w.heap.size := fun hk => absurd (HW0.out _ hk) (Nat.lt_irrefl _)
  have hbx4 := HBX2.out.chg hch4 hnown
  have HE4 := Lib.hid he4
  have HC4 := Lib.hid ((Chg.of_below (S := EdOwn b c) HB2.out).trans hch4 (fun _ h => .inl h))
  have HO4 : Hid (∀ k, EdOwn b { c with Q := some ⟨qb, 0, none⟩, qc := c.qc } k → EdOwn b c k ∨ w.heap.size ≤ k) := Lib.hid (fun k hk => (how4 k hk).imp id (fun h => Nat.le_trans HB2.out.size h))
  have HBX4 := Lib.hid hbx4
  have HT4 : Hid (TL lo W4) := Lib.hid (HTL.out.chg HC4.out (fun k hk => (HW1.out k hk)))
  have hlo4 := HC4.out.size
  go_wp2_with (fail)
  rw [← hW4]
  have kb4 := he4.cells.1
  have s0 := hbx4.cell 0
  have s1 := hbx4.cell 1
  clear hW4 he4 hch4 how4 hbx4 hst3 z3 y3 hnown ho3 hc3
  have HCUT := Lib.hid (fun (V : World) (hV : Below W4.heap.size W4 V) => cut_flat x HX.out (by omega) V (HT4.out.below hV).tb)
  go_region_law (first
    | (refine step_call rfl 46 _ _ rfl (enters_of Tryz.func46 (by kernel_rfl) rfl) #[.string ⟨(x.flatten).toArray⟩] (by simp [Act.eval, Act.put]) (HCUT.out _ ((Below.refl _ W4).drew)) ?_; rintro e w5 ⟨A5, c5, rfl, ho5, hb5⟩; refine ⟨_, rfl, ?_⟩
       have hb45 : Below W4.heap.size W4 w5 := ((Below.refl _ W4).drew).trans hb5
       have H5 := Lib.hid (HE4.out.below hb45)
       have HO5 := Lib.hid ho5
       have HB45 := Lib.hid hb45
       have kb5 := H5.out.cells.1
       clear ho5 hb5 hb45)
    | (refine step_call rfl 51 _ _ rfl (enters_of Tryz.func51 (by kernel_rfl) rfl) #[.agg #[.pointer (some ⟨c.g, 0, none⟩)], .slice A5 x.length c5] (by simp [Act.eval, Act.put]) (ebecome_any H5.out (HT4.out.below HB45.out) x A5 x.length c5 rfl hxl HX.out HO5.out.sl (fun b2 off e hk => by have h8 := (HO5.out.blk_lt b2 (by rw [e]; rfl)).1; have h9 := (HE4.out.buf.own_lt b2 hk).2; simp at h8; omega)) ?_; rintro e w6 ⟨rfl, hr6⟩; refine ⟨_, rfl, ?_⟩
       have HR6 := Lib.hid (EdR.via HB45.out hr6)
       clear hr6))
  all_goals
    obtain ⟨c6, hg6, he6, hc6, ho6⟩ := HR6.out
    have hown4 : ∀ k, EdOwn b { c with Q := some ⟨qb, 0, none⟩, qc := c.qc } k → EdOwn b c k := fun k hk => by
      rcases hk with e | e | e | e
      · exact .inl e
      · exact .inr (.inl e)
      · exact .inr (.inr (.inl e))
      · exact .inr (.inr (.inr (by rw [HQQ.out]; exact e)))
    have hn6 : ¬ EdOwn b { c with Q := some ⟨qb, 0, none⟩, qc := c.qc } w.heap.size := fun hk => absurd (HW0.out _ (hown4 _ hk)) (Nat.lt_irrefl _)
    have hg6' : c6.g = c.g := hg6
    have hbx6 := HBX4.out.chg hc6 hn6
    have HE6 := Lib.hid he6
    have HC6 := Lib.hid (HC4.out.trans hc6 (fun k hk => HO4.out k hk))
    have HO6 : Hid (∀ k, EdOwn b c6 k → EdOwn b c k ∨ w.heap.size ≤ k) := Lib.hid (fun k hk => by
      rcases ho6 k hk with h8 | h8
      · exact HO4.out k h8
      · exact .inr (Nat.le_trans hlo4 h8))
    have HG6 := Lib.hid hg6'
    have kb6 := he6.cells.1
    rw [hg6'] at kb6
    have r6 := cell_regrown kb6
    have s6 := cell_regrown (hbx6.cell 1)
    clear hg6 he6 hc6 ho6 hown4 hn6 hbx6 hg6'
    go_wp2_with (fail)
    refine wp_region_below_tail 7 (by kernel_rfl) (by kernel_rfl) ?_
    simp only [List.take_succ_cons, List.take_zero, List.drop_succ_cons, List.drop_zero]
    repeat (first
      | go_big_quiet_step (fail)
      | quiet_step (fail))
    refine wpQuiet_nil ?_
    intro _ hw'
    obtain ⟨⟨dq, osq⟩, hw''⟩ := hw'
    subst hw''
    have hbq7 := below_regrown w6 dq osq
    have HE7 := Lib.hid (HE6.out.below hbq7)
    have HC7 := Lib.hid (HC6.out.trans (Chg.of_below (S := noB) hbq7) (fun _ h => h.elim))
    have hmv := emove_any HE7.out ((q : Nat) : Int)
    rw [HG6.out] at hmv
    have hcl : clampN ((q : Nat) : Int) (ln x []) = q := by unfold clampN ln; simp; omega
    simp only at hmv
    rw [hcl] at hmv
    have hmd : (({ m with ps := r, p := x, s := [] } : EdM).moved q) = m.undone x q r := by unfold EdM.moved EdM.undone; simp
    have HMV := Lib.hid hmv
    have HMD := Lib.hid hmd
    clear r6 s6 hbq7 hmv hcl hmd kb6
    generalize grow (redrawn w6 dq) osq = w7 at *
    go_wp2_with (go_at_call 74; refine HMV.out.mono ?_; rintro e w8 ⟨rfl, hr8⟩; have HR8 := Lib.hid hr8; clear hr8)
    go_ret
    exact ⟨rfl, by rw [← HMD.out]; exact EdR.next HG6.out HC7.out HO6.out HR8.out⟩
end Go.Proofs.YtfhfhjcdeeepbaaGreatDoor

namespace Go.Proofs.YtfhfhjcdeeepbaaGreatDoor
open Go.RowKit Go.Sort
set_option linter.unusedVariables false
set_option linter.unusedSimpArgs false

set_option maxRecDepth 100000 in
set_option maxHeartbeats 4000000 in
theorem do_undo {w : World} {lo b most : Nat} {c : EdC} {m m1 : EdM} {d : Bool} (h : EdAt w lo b c most m) (hT : TL lo w) (hlo : lo ≤ w.heap.size) (hu : ∀ W, EdAt W lo b c most m.begun → TL lo W → lo ≤ W.heap.size → Calls Tryz.prog 55 #[.pointer (some ⟨b, 1, none⟩)] W (EdStep W lo b c most m1 d)) :
    Calls Tryz.prog 29 #[.pointer (some ⟨b, 1, none⟩), .int .i64 15] w (EdStep w lo b c most m1 d) := by
  have hb0 : Below w.heap.size w ((w.alloc (.cells #[.pointer (some ⟨b, 1, none⟩)] 61)).alloc (.cells #[.int .i64 15] 30)) := ((Below.refl _ w).alloc (Nat.le_refl _) _).alloc (by simp) _
  have y0 := (Boxed.new w 61 (.pointer (some ⟨b, 1, none⟩))).alloc (.cells #[.int .i64 15] 30)
  have y1 := Boxed.new (w.alloc (.cells #[.pointer (some ⟨b, 1, none⟩)] 61)) 30 (.int .i64 15)
  simp only [World.size_alloc] at y1
  have hbg := ebegin_any (h.below hb0)
  have HBG := Lib.hid hbg
  have HB0 := Lib.hid hb0
  have HY0 := Lib.hid y0
  have HY1 := Lib.hid y1
  have HLT := Lib.hid h.st.lt
  have HTT := Lib.hid (hT.below hb0)
  have hlob := h.lo
  have HU := Lib.hid hu
  have HOWL : Hid (∀ V, Chg (one b) w V → TL lo V) := Lib.hid (fun V hV => hT.chg hV (fun k e => by have h9 : k = b := e; omega))
  clear hb0 y0 y1 h hT hbg hu
  go_enter Tryz.func29, Tryz.ntmps29
  go_wp2_with (first
    | (go_at_call 42; refine HBG.out.mono ?_; rintro e w1 ⟨rfl, h1, hc1⟩
       have hn : ∀ k, w.heap.size ≤ k → ¬ one b k := fun k hk e => by have h9 : k = b := e; have := HLT.out; omega
       obtain ⟨hbt, hbk⟩ := trc_new w1 m.kd m.yd m.ki m.fr
       have z0 : Boxed w1 w.heap.size 61 (.pointer (some ⟨b, 1, none⟩)) := hc1.heap HY0.out (hn _ (Nat.le_refl _))
       have z1 : Boxed w1 (w.heap.size + 1) 30 (.int .i64 15) := hc1.heap HY1.out (hn _ (by omega))
       have z0' := box_bel z0 hbt
       have z1' := box_bel z1 hbt
       have k0 := z0'.cell
       have k1 := z1'.cell
       have H1 := Lib.hid (h1.below hbt)
       have kbb := H1.out.cells.1
       have HZ0 := Lib.hid z0'
       have HTU := Lib.hid (HOWL.out _ (((Chg.of_below HB0.out).trans hc1 (fun k hk => .inl hk)).trans (Chg.of_below (S := one b) hbt) (fun _ h => .inl h)))
       have HLU : Hid (w.heap.size ≤ (w1.alloc (.cells #[.bool m.kd, .bool m.yd, .int .i64 m.ki, .int .i64 m.fr] 48)).heap.size) := Lib.hid (by have h8 := HB0.out.size; have h9 := hc1.size; simp; omega)
       have hcw : Chg (one b) w _ := ((Chg.of_below HB0.out).trans hc1 (fun k hk => .inl hk)).trans (Chg.of_below (S := one b) hbt) (fun _ h => .inl h)
       have HCW := Lib.hid hcw
       have HT1 := Lib.hid ((HTT.out.chg hc1 (fun k e => by have h9 : k = b := e; omega)).below hbt)
       have hs1 := hcw.size
       have hws : w1.heap.size ≥ w.heap.size := by have h9 := HB0.out.size; have h8 := hc1.size; omega
       clear hn z0 z1 z0' z1' h1 hc1 hbt hbk hcw)
    | (go_at_call 55; refine (HU.out _ H1.out HTU.out (Nat.le_trans hlo HLU.out)).mono ?_; rintro e w3 ⟨rfl, hr⟩; have HR := Lib.hid (EdR.viac (w := w) (HCW.out.mono (fun k hk => .inl (.inl hk))) hr); clear hr))
  go_ret
  exact ⟨rfl, HR.out⟩

set_option maxRecDepth 100000 in
set_option maxHeartbeats 4000000 in
theorem setc_any {W : World} {lo b most : Nat} {c : EdC} {m : EdM} (h : EdAt W lo b c most m) (hT : TL lo W) (l : List (List UInt8)) (X : Option Addr) (n d : Nat) (hn : n = l.length) (hnm : n ≤ most) (hl : ∀ c ∈ l, isC c = true) (hX : Sl W W.heap.size X (sv l)) (hXo : ∀ b off, X = some ⟨b, off, none⟩ → ¬ GpOwn c.g c.A b) (h1 h2 : Nat) (hb1 : Boxed W h1 61 (.pointer (some ⟨b, 1, none⟩))) (hb2 : Boxed W h2 38 (.slice X n d)) :
    Calls Tryz.prog 50 #[.pointer (some ⟨h1, 0, none⟩), .pointer (some ⟨h2, 0, none⟩)] W (EdStep W lo b c most { m with p := l, s := [] } true) := by
  have k1 := cell_regrown hb1.cell
  have k2 := cell_regrown hb2.cell
  have kb := cell_regrown h.cells.1
  have H := Lib.hid h
  have HT := Lib.hid hT
  have HX := Lib.hid hX
  have HXO := Lib.hid hXo
  have HLI := Lib.hid hl
  have HN := Lib.hid hn
  clear hb1 hb2 h hT hX hXo hl hn
  go_enter Tryz.func50, Tryz.ntmps50
  go_upto_region 1 with (fail)
  refine wp_region_below_tail 5 (by kernel_rfl) (by kernel_rfl) ?_
  simp only [List.take_succ_cons, List.take_zero, List.drop_succ_cons, List.drop_zero]
  repeat (first
    | go_big_quiet_step (fail)
    | quiet_step (fail))
  refine wpQuiet_nil ?_
  intro _ hw'
  obtain ⟨⟨dq, osq⟩, hw''⟩ := hw'
  subst hw''
  have hbq := below_regrown W dq osq
  have HBQ := Lib.hid hbq
  have HB := Lib.hid (ebecome_any (H.out.below hbq) (HT.out.below hbq) l X n d HN.out hnm HLI.out ((HX.out.below hbq).more hbq.size) HXO.out)
  clear k1 k2 kb hbq
  generalize grow (redrawn W dq) osq = W2 at *
  go_wp2_with (go_at_call 51; refine HB.out.mono ?_; rintro e w3 ⟨rfl, hr⟩; have HR := Lib.hid (EdR.via HBQ.out hr); clear hr)
  go_ret
  exact ⟨rfl, HR.out⟩

set_option maxRecDepth 100000 in
set_option maxHeartbeats 8000000 in
theorem stset_same {w : World} {lo b most : Nat} {c : EdC} {m : EdM} (h : EdAt w lo b c most m) (hT : TL lo w) (hlo : lo ≤ w.heap.size) (hps : m.ps.length ≤ 64) (x : ByteArray) (hx : x.size ≤ 30000) (hs : (cutF x).take most = m.p ++ m.s) :
    Calls Tryz.prog 28 #[.pointer (some ⟨b, 1, none⟩), .string x] w (EdStep w lo b c most m.begun false) := by
  have hb0 : Below w.heap.size w (w.alloc (.cells #[.pointer (some ⟨b, 1, none⟩)] 61)) := (Below.refl _ w).alloc (Nat.le_refl _) _
  have y0 := Boxed.new w 61 (.pointer (some ⟨b, 1, none⟩))
  have hfl : (flatB x.data.toList).length ≤ 4000000 := by
    rw [flatB_cut]
    have h1 := flat_le (fun c hc => isC_len (cutF_is x c hc))
    have h2 := cutF_len x
    omega
  have hq := fun (W : World) (hW : Tabs W) => ccut_any ⟨(flatB x.data.toList).toArray⟩ (by rw [size_of]; exact hfl) W hW
  rw [show (⟨(flatB x.data.toList).toArray⟩ : ByteArray).data.toList = flatB x.data.toList from rfl] at hq
  have hcl : (cls (rs (flatB x.data.toList))).length = (cutF x).length := by rw [← cutF_flat x, List.length_map]
  rw [cutF_flat, hcl] at hq
  have hm5 := cutF_len x
  obtain ⟨l, hl⟩ : ∃ l, l = cutF x := ⟨_, rfl⟩
  have hli : ∀ c ∈ l, isC c = true := by rw [hl]; exact cutF_is x
  rw [← hl] at hq hm5 hs
  obtain ⟨n, hn⟩ : ∃ n, n = l.length := ⟨_, rfl⟩
  rw [← hn] at hq hm5
  obtain ⟨k, hk⟩ : ∃ k, k = min n most := ⟨_, rfl⟩
  have hkn : k ≤ n := by omega
  have hkm : k ≤ most := by omega
  have hmin : min (n : Int) (most : Int) = (k : Int) := by omega
  have hkl : k = (l.take most).length := by rw [List.length_take, hk, hn, Nat.min_comm]
  have htk : l.take most = l.take k := by
    rw [hk, hn]
    rcases Nat.le_total most l.length with h | h
    · rw [Nat.min_eq_right h]
    · rw [Nat.min_eq_left h, List.take_of_length_le h, List.take_length]
  have hm4 := h.buf.m4
  have hlob := h.lo
  have HQ := Lib.hid hq
  have HQ0 := Lib.hid (ebegin_any (h.below hb0))
  have HB0 := Lib.hid hb0
  have HY0 := Lib.hid y0
  have HLT := Lib.hid h.st.lt
  have HT0 := Lib.hid (hT.below hb0)
  have HN := Lib.hid hn
  have HKL := Lib.hid hkl
  have HTK := Lib.hid htk
  have HLI : Hid (∀ c ∈ l.take k, isC c = true) := Lib.hid (fun c hc => hli c (List.mem_of_mem_take hc))
  have HS := Lib.hid hs
  clear hT hb0 y0 hq hfl hcl h hn hk hkl htk hli hs hl
  go_enter Tryz.func28, Tryz.ntmps28
  go_wp2_with (first
    | (go_at_call 42; refine HQ0.out.mono ?_; rintro e w1 ⟨rfl, h1, hc1⟩
       have hn : ∀ k, w.heap.size ≤ k → ¬ one b k := fun k hk e => by have h9 : k = b := e; have := HLT.out; omega
       have z0 : Boxed w1 w.heap.size 61 (.pointer (some ⟨b, 1, none⟩)) := hc1.heap HY0.out (hn _ (Nat.le_refl _))
       have HZ0 := Lib.hid z0
       have H1 := Lib.hid h1
       have HC1 := Lib.hid ((Chg.of_below HB0.out).trans hc1 (S' := one b) (fun k hk => .inl hk))
       have HT1 := Lib.hid (HT0.out.chg hc1 (fun k e => by have h9 : k = b := e; omega))
       have HLO1 : Hid (lo ≤ w1.heap.size) := Lib.hid (by have h1 := HB0.out.size; have h2 := hc1.size; omega)
       clear hn z0 h1 hc1)
    | (go_at_call 47; refine (cflat_any x (by omega) _ HT1.out.tb).mono ?_; rintro e w2 ⟨rfl, hb2⟩; have HB2 := Lib.hid hb2; clear hb2)
    | (go_at_call 46; refine (HQ.out _ (HT1.out.tb.below HB2.out)).mono ?_; rintro e w3 ⟨A3, c3, rfl, ho3, hb3⟩; have HB3 := Lib.hid (HB2.out.trans (hb3.mono HB2.out.size)); have HO3 := Lib.hid ho3; have HB23 := Lib.hid HB2.out.size; clear hb3 ho3))
  have E1 : ∀ V, (Instr.slice 38 (.slice A3 n c3) none (some (.int .i64 (k : Int))) none).run Tryz.prog V = .ok (.slice A3 k c3) V := fun V => slS_h A3 n c3 k (by have := own_ncap HO3.out.1; omega) V
  obtain ⟨W, hW⟩ : ∃ W, W = w3.alloc (.cells #[.slice A3 n c3] 38) := ⟨_, rfl⟩
  have hbW : Below w1.heap.size w1 W := by rw [hW]; exact HB3.out.alloc HB3.out.size _
  have hxW : Boxed W w3.heap.size 38 (.slice A3 n c3) := by rw [hW]; exact Boxed.new w3 _ _
  have HB3W : Hid (Below w3.heap.size w3 W) := Lib.hid (by rw [hW]; exact (Below.refl _ _).alloc (Nat.le_refl _) _)
  have q2 := cell_regrown (box_bel HZ0.out hbW).cell
  have qb := cell_regrown (H1.out.below hbW).cells.1
  have q5 := cell_regrown hxW.cell
  have Q1 := Lib.hid (fun d os => Calls.regrown_of (lmost_any ((H1.out.below hbW).below (below_regrown W d os)).buf))
  have HBW := Lib.hid hbW
  have HXW := Lib.hid hxW
  rw [← hW]
  clear hW hbW hxW
  refine wp_region_below_tail 10 (by kernel_rfl) (by kernel_rfl) ?_
  simp only [List.take_succ_cons, List.take_zero, List.drop_succ_cons, List.drop_zero]
  repeat (first
    | go_big_quiet_step (exact Q1.out _ _)
    | quiet_step (exact Q1.out _ _))
  refine wpQuiet_nil ?_
  intro _ hw'
  obtain ⟨⟨dq, osq⟩, hw''⟩ := hw'
  subst hw''
  have hbq := below_regrown W dq osq
  have HBQ := Lib.hid (HBW.out.trans (hbq.mono HBW.out.size))
  have HXQ := Lib.hid (box_bel HXW.out hbq)
  have HB3Q := Lib.hid (HB3W.out.trans (hbq.mono HB3W.out.size))
  clear q2 qb q5 Q1 hbq E1 hmin
  generalize grow (redrawn W dq) osq = W2 at *
  have c5 := HXQ.out.cell
  have f5 := HXQ.out.frozen
  go_wp2_with (fail)
  obtain ⟨W3, hW3⟩ : ∃ W3, W3 = W2.setCell ⟨w3.heap.size, 0, none⟩ (.slice A3 k c3) := ⟨_, rfl⟩
  have hb3 : Below w1.heap.size w1 W3 := by rw [hW3]; exact HBQ.out.setCell (p := ⟨w3.heap.size, 0, none⟩) HB3.out.size _
  have hx3 : Boxed W3 w3.heap.size 38 (.slice A3 k c3) := by rw [hW3]; exact HXQ.out.set _
  have hB33 : Below w3.heap.size w3 W3 := by rw [hW3]; exact HB3Q.out.setCell (p := ⟨w3.heap.size, 0, none⟩) (Nat.le_refl _) _
  have hsl3 : Sl W3 W3.heap.size A3 (sv (l.take k)) := by
    have h8 := ((HO3.out.sl.below hB33).more hB33.size).take k
    rwa [sv_take] at h8
  have q2 := cell_regrown (box_bel HZ0.out hb3).cell
  have qb := cell_regrown (H1.out.below hb3).cells.1
  have q5 := cell_regrown hx3.cell
  have hkk : k = (l.take k).length := by have h8 := HKL.out; rw [HTK.out] at h8; exact h8
  have P1 := Lib.hid (fun d os => Calls.regrown_of (lis_any ((H1.out.below hb3).below (below_regrown W3 d os)).buf (l.take k) A3 k c3 hkk (by omega) ((hsl3.below (below_regrown W3 d os)).more (below_regrown W3 d os).size)))
  have HB3' := Lib.hid hb3
  have HX3 := Lib.hid hx3
  have HSL3 := Lib.hid hsl3
  have HKK := Lib.hid hkk
  rw [← hW3]
  clear hW3 hb3 hx3 c5 f5 hsl3 hB33 hkk
  refine region_below0 (by kernel_rfl) (by kernel_rfl) ?_
  repeat (first
    | go_big_quiet_step (exact P1.out _ _)
    | quiet_step (exact P1.out _ _))
  refine wpQuiet_nil ?_
  intro _ hw'
  obtain ⟨⟨dq2, osq2⟩, hw''⟩ := hw'
  subst hw''
  have hbq4 := below_regrown W3 dq2 osq2
  have HBF := Lib.hid (HB3'.out.trans (hbq4.mono HB3'.out.size))
  have HZ4 := Lib.hid (box_bel (box_bel HZ0.out HB3'.out) hbq4)
  have HX4 := Lib.hid (box_bel HX3.out hbq4)
  have HSL4 := Lib.hid ((HSL3.out.below hbq4).more hbq4.size)
  clear q2 qb q5 P1 hbq4
  generalize grow (redrawn W3 dq2) osq2 = W4 at *
  have hdc : decide (m.begun.p ++ m.begun.s = l.take k) = true := by rw [decide_eq_true_iff, ← HTK.out]; exact HS.out.symm
  rw [hdc]
  go_wp2_with (fail)
  go_ret
  exact ⟨rfl, EdR.viac (w := w) (HC1.out.mono (fun k hk => .inl (.inl hk))) (EdR.via HBF.out (EdR.refl (H1.out.below HBF.out)))⟩

set_option maxRecDepth 100000 in
set_option maxHeartbeats 8000000 in
theorem stset_new {w : World} {lo b most : Nat} {c : EdC} {m : EdM} (h : EdAt w lo b c most m) (hT : TL lo w) (hlo : lo ≤ w.heap.size) (hps : m.ps.length ≤ 64) (x : ByteArray) (hx : x.size ≤ 30000) (hs : (cutF x).take most ≠ m.p ++ m.s) :
    Calls Tryz.prog 28 #[.pointer (some ⟨b, 1, none⟩), .string x] w (EdStep w lo b c most (({ m.begun with p := (cutF x).take most, s := [] } : EdM).noted m.begun) true) := by
  have hb0 : Below w.heap.size w (w.alloc (.cells #[.pointer (some ⟨b, 1, none⟩)] 61)) := (Below.refl _ w).alloc (Nat.le_refl _) _
  have y0 := Boxed.new w 61 (.pointer (some ⟨b, 1, none⟩))
  have hfl : (flatB x.data.toList).length ≤ 4000000 := by
    rw [flatB_cut]
    have h1 := flat_le (fun c hc => isC_len (cutF_is x c hc))
    have h2 := cutF_len x
    omega
  have hq := fun (W : World) (hW : Tabs W) => ccut_any ⟨(flatB x.data.toList).toArray⟩ (by rw [size_of]; exact hfl) W hW
  rw [show (⟨(flatB x.data.toList).toArray⟩ : ByteArray).data.toList = flatB x.data.toList from rfl] at hq
  have hcl : (cls (rs (flatB x.data.toList))).length = (cutF x).length := by rw [← cutF_flat x, List.length_map]
  rw [cutF_flat, hcl] at hq
  have hm5 := cutF_len x
  obtain ⟨l, hl⟩ : ∃ l, l = cutF x := ⟨_, rfl⟩
  have hli : ∀ c ∈ l, isC c = true := by rw [hl]; exact cutF_is x
  rw [← hl] at hq hm5 hs
  obtain ⟨n, hn⟩ : ∃ n, n = l.length := ⟨_, rfl⟩
  rw [← hn] at hq hm5
  obtain ⟨k, hk⟩ : ∃ k, k = min n most := ⟨_, rfl⟩
  have hkn : k ≤ n := by omega
  have hkm : k ≤ most := by omega
  have hmin : min (n : Int) (most : Int) = (k : Int) := by omega
  have hkl : k = (l.take most).length := by rw [List.length_take, hk, hn, Nat.min_comm]
  have htk : l.take most = l.take k := by
    rw [hk, hn]
    rcases Nat.le_total most l.length with h | h
    · rw [Nat.min_eq_right h]
    · rw [Nat.min_eq_left h, List.take_of_length_le h, List.take_length]
  have hm4 := h.buf.m4
  have hlob := h.lo
  have HQ := Lib.hid hq
  have HQ0 := Lib.hid (ebegin_any (h.below hb0))
  have HB0 := Lib.hid hb0
  have HY0 := Lib.hid y0
  have HLT := Lib.hid h.st.lt
  have HT0 := Lib.hid (hT.below hb0)
  have HN := Lib.hid hn
  have HKL := Lib.hid hkl
  have HTK := Lib.hid htk
  have HLI : Hid (∀ c ∈ l.take k, isC c = true) := Lib.hid (fun c hc => hli c (List.mem_of_mem_take hc))
  have HS := Lib.hid hs
  have HLL := Lib.hid hl
  clear hT hb0 y0 hq hfl hcl h hn hk hkl htk hli hs hl
  go_enter Tryz.func28, Tryz.ntmps28
  go_wp2_with (first
    | (go_at_call 42; refine HQ0.out.mono ?_; rintro e w1 ⟨rfl, h1, hc1⟩
       have hn : ∀ k, w.heap.size ≤ k → ¬ one b k := fun k hk e => by have h9 : k = b := e; have := HLT.out; omega
       have z0 : Boxed w1 w.heap.size 61 (.pointer (some ⟨b, 1, none⟩)) := hc1.heap HY0.out (hn _ (Nat.le_refl _))
       have HZ0 := Lib.hid z0
       have H1 := Lib.hid h1
       have HC1 := Lib.hid ((Chg.of_below HB0.out).trans hc1 (S' := one b) (fun k hk => .inl hk))
       have HT1 := Lib.hid (HT0.out.chg hc1 (fun k e => by have h9 : k = b := e; omega))
       have HLO1 : Hid (lo ≤ w1.heap.size) := Lib.hid (by have h1 := HB0.out.size; have h2 := hc1.size; omega)
       clear hn z0 h1 hc1)
    | (go_at_call 47; refine (cflat_any x (by omega) _ HT1.out.tb).mono ?_; rintro e w2 ⟨rfl, hb2⟩; have HB2 := Lib.hid hb2; clear hb2)
    | (go_at_call 46; refine (HQ.out _ (HT1.out.tb.below HB2.out)).mono ?_; rintro e w3 ⟨A3, c3, rfl, ho3, hb3⟩; have HB3 := Lib.hid (HB2.out.trans (hb3.mono HB2.out.size)); have HO3 := Lib.hid ho3; have HB23 := Lib.hid HB2.out.size; clear hb3 ho3))
  have E1 : ∀ V, (Instr.slice 38 (.slice A3 n c3) none (some (.int .i64 (k : Int))) none).run Tryz.prog V = .ok (.slice A3 k c3) V := fun V => slS_h A3 n c3 k (by have := own_ncap HO3.out.1; omega) V
  obtain ⟨W, hW⟩ : ∃ W, W = w3.alloc (.cells #[.slice A3 n c3] 38) := ⟨_, rfl⟩
  have hbW : Below w1.heap.size w1 W := by rw [hW]; exact HB3.out.alloc HB3.out.size _
  have hxW : Boxed W w3.heap.size 38 (.slice A3 n c3) := by rw [hW]; exact Boxed.new w3 _ _
  have HB3W : Hid (Below w3.heap.size w3 W) := Lib.hid (by rw [hW]; exact (Below.refl _ _).alloc (Nat.le_refl _) _)
  have q2 := cell_regrown (box_bel HZ0.out hbW).cell
  have qb := cell_regrown (H1.out.below hbW).cells.1
  have q5 := cell_regrown hxW.cell
  have Q1 := Lib.hid (fun d os => Calls.regrown_of (lmost_any ((H1.out.below hbW).below (below_regrown W d os)).buf))
  have HBW := Lib.hid hbW
  have HXW := Lib.hid hxW
  rw [← hW]
  clear hW hbW hxW
  refine wp_region_below_tail 10 (by kernel_rfl) (by kernel_rfl) ?_
  simp only [List.take_succ_cons, List.take_zero, List.drop_succ_cons, List.drop_zero]
  repeat (first
    | go_big_quiet_step (exact Q1.out _ _)
    | quiet_step (exact Q1.out _ _))
  refine wpQuiet_nil ?_
  intro _ hw'
  obtain ⟨⟨dq, osq⟩, hw''⟩ := hw'
  subst hw''
  have hbq := below_regrown W dq osq
  have HBQ := Lib.hid (HBW.out.trans (hbq.mono HBW.out.size))
  have HXQ := Lib.hid (box_bel HXW.out hbq)
  have HB3Q := Lib.hid (HB3W.out.trans (hbq.mono HB3W.out.size))
  clear q2 qb q5 Q1 hbq E1 hmin
  generalize grow (redrawn W dq) osq = W2 at *
  have c5 := HXQ.out.cell
  have f5 := HXQ.out.frozen
  go_wp2_with (fail)
  obtain ⟨W3, hW3⟩ : ∃ W3, W3 = W2.setCell ⟨w3.heap.size, 0, none⟩ (.slice A3 k c3) := ⟨_, rfl⟩
  have hb3 : Below w1.heap.size w1 W3 := by rw [hW3]; exact HBQ.out.setCell (p := ⟨w3.heap.size, 0, none⟩) HB3.out.size _
  have hx3 : Boxed W3 w3.heap.size 38 (.slice A3 k c3) := by rw [hW3]; exact HXQ.out.set _
  have hB33 : Below w3.heap.size w3 W3 := by rw [hW3]; exact HB3Q.out.setCell (p := ⟨w3.heap.size, 0, none⟩) (Nat.le_refl _) _
  have hsl3 : Sl W3 W3.heap.size A3 (sv (l.take k)) := by
    have h8 := ((HO3.out.sl.below hB33).more hB33.size).take k
    rwa [sv_take] at h8
  have q2 := cell_regrown (box_bel HZ0.out hb3).cell
  have qb := cell_regrown (H1.out.below hb3).cells.1
  have q5 := cell_regrown hx3.cell
  have hkk : k = (l.take k).length := by have h8 := HKL.out; rw [HTK.out] at h8; exact h8
  have P1 := Lib.hid (fun d os => Calls.regrown_of (lis_any ((H1.out.below hb3).below (below_regrown W3 d os)).buf (l.take k) A3 k c3 hkk (by omega) ((hsl3.below (below_regrown W3 d os)).more (below_regrown W3 d os).size)))
  have HB3' := Lib.hid hb3
  have HX3 := Lib.hid hx3
  have HSL3 := Lib.hid hsl3
  have HKK := Lib.hid hkk
  rw [← hW3]
  clear hW3 hb3 hx3 c5 f5 hsl3 hB33 hkk
  refine region_below0 (by kernel_rfl) (by kernel_rfl) ?_
  repeat (first
    | go_big_quiet_step (exact P1.out _ _)
    | quiet_step (exact P1.out _ _))
  refine wpQuiet_nil ?_
  intro _ hw'
  obtain ⟨⟨dq2, osq2⟩, hw''⟩ := hw'
  subst hw''
  have hbq4 := below_regrown W3 dq2 osq2
  have HBF := Lib.hid (HB3'.out.trans (hbq4.mono HB3'.out.size))
  have HZ4 := Lib.hid (box_bel (box_bel HZ0.out HB3'.out) hbq4)
  have HX4 := Lib.hid (box_bel HX3.out hbq4)
  have HSL4 := Lib.hid ((HSL3.out.below hbq4).more hbq4.size)
  clear q2 qb q5 P1 hbq4
  generalize grow (redrawn W3 dq2) osq2 = W4 at *
  have hdc : decide (m.begun.p ++ m.begun.s = l.take k) = false := by rw [decide_eq_false_iff_not, ← HTK.out]; exact fun e => HS.out e.symm
  rw [hdc]
  have kz4 := HZ4.out.cell
  go_wp2_with (first
    | (go_at_call 43; refine (edit_any (m1 := { m.begun with p := l.take k, s := [] }) (d := true) (H1.out.below HBF.out) (Nat.le_trans HLO1.out HBF.out.size) 50 #[.pointer (some ⟨w.heap.size, 0, none⟩), .pointer (some ⟨w3.heap.size, 0, none⟩)] (enters_of Tryz.func50 (by kernel_rfl) rfl)
          (fun V hV => setc_any ((H1.out.below HBF.out).below hV) ((HT1.out.below HBF.out).below hV) (l.take k) A3 k c3 HKK.out hkm HLI.out ((HSL4.out.below hV).more hV.size) (fun b2 off e hk2 => by have h8 := (HO3.out.blk_lt b2 (by rw [e]; rfl)).1; have h9 := (H1.out.buf.own_lt b2 hk2).2; have h7 := HB23.out; omega) w.heap.size w3.heap.size (box_bel HZ4.out hV) (box_bel HX4.out hV)) hps).mono ?_
       rintro e w5 ⟨rfl, hr⟩
       have HR := Lib.hid (EdR.viac (w := w) (HC1.out.mono (fun k hk => .inl (.inl hk))) (EdR.via HBF.out hr))
       clear hr))
  go_ret
  exact ⟨rfl, by rw [show (cutF x).take most = l.take k from by rw [← HLL.out]; exact HTK.out]; exact HR.out⟩
end Go.Proofs.YtfhfhjcdeeepbaaGreatDoor

namespace Go.Proofs.YtfhfhjcdeeepbaaGreatDoor
open Go.RowKit Go.Sort
set_option linter.unusedVariables false
set_option linter.unusedSimpArgs false

/-- what an editor's notes and kills keep -/
structure EInv (most i : Nat) (m : EdM) : Prop where
  ps : ∀ e ∈ m.ps, (∀ c ∈ e.1, isC c = true) ∧ e.1.length ≤ most ∧ e.2 ≤ e.1.length
  pl : m.ps.length ≤ 64
  ks : ∀ k ∈ m.ks, (∀ c ∈ k, isC c = true) ∧ k.length ≤ 50 * i
  kl : m.ks.length ≤ 16
  kd : m.kd = true → m.ks ≠ []
  yd : m.yd = true → m.ki < m.ks.length ∧ m.fr ≤ m.p.length
/-- what a line is -/
structure ELin (most : Nat) (m : EdM) : Prop where
  is : ∀ c ∈ m.p ++ m.s, isC c = true
  le : ln m.p m.s ≤ most
theorem EdAt.lin {w : World} {lo b most : Nat} {c : EdC} {m : EdM} (h : EdAt w lo b c most m) : ELin most m := ⟨h.buf.is, h.buf.ln_le⟩
theorem EInv.up {most i j : Nat} {m : EdM} (h : EInv most i m) (hij : i ≤ j) : EInv most j m := ⟨h.ps, h.pl, fun k hk => ⟨(h.ks k hk).1, by have := (h.ks k hk).2; omega⟩, h.kl, h.kd, h.yd⟩
theorem EInv.begun {most i : Nat} {m : EdM} (h : EInv most i m) : EInv most i m.begun := ⟨h.ps, h.pl, h.ks, h.kl, (fun e => by cases e), (fun e => by cases e)⟩
theorem EInv.line {most i : Nat} {m : EdM} (h : EInv most i m) (hk : m.kd = false) (hy : m.yd = false) (p s : List (List UInt8)) : EInv most i { m with p := p, s := s } :=
  ⟨h.ps, h.pl, h.ks, h.kl, (fun e => by rw [show m.kd = true from e] at hk; cases hk), (fun e => by rw [show m.yd = true from e] at hy; cases hy)⟩
theorem EInv.noted {most i : Nat} {m1 m : EdM} (h : EInv most i m1) (hm : ELin most m) : EInv most i (m1.noted m) := by
  unfold EdM.noted
  split
  · exact h
  · refine ⟨fun e he => ?_, ?_, h.ks, h.kl, h.kd, h.yd⟩
    · rcases List.mem_cons.1 he with rfl | he
      · exact ⟨hm.is, by have := hm.le; rw [ln_eq] at this; exact this, by simp⟩
      · exact h.ps e (List.mem_of_mem_take he)
    · simp only [List.length_cons, List.length_take]; omega
/-- a call's outcome -/
def Stp (most i : Nat) (m m' : EdM) (ok : Bool) : Prop := EInv most (i + 1) m' ∧ (ok = false → m'.p ++ m'.s = m.p ++ m.s ∧ m'.p.length = m.p.length)
theorem Stp.keep {most i : Nat} {m : EdM} (h : EInv most i m) (ok : Bool) : Stp most i m m.begun ok := ⟨(h.up (Nat.le_succ i)).begun, fun _ => ⟨rfl, rfl⟩⟩
theorem Stp.noted {most i : Nat} {m m1 : EdM} {ok : Bool} (hm : ELin most m) (h : EInv most (i + 1) m1) (hno : ok = false → m1.p ++ m1.s = m.p ++ m.s ∧ m1.p.length = m.p.length) : Stp most i m (m1.noted m.begun) ok := by
  refine ⟨h.noted ⟨hm.is, hm.le⟩, fun e => ?_⟩
  have h1 := hno e
  unfold EdM.noted
  split
  · exact h1
  · exact h1
theorem Stp.moved {most i : Nat} {m : EdM} (h : EInv most i m) (k : Nat) : Stp most i m (m.begun.moved k) (!decide (k = m.p.length)) := by
  refine ⟨(h.up (Nat.le_succ i)).begun.line rfl rfl _ _, fun e => ?_⟩
  have hk : k = m.p.length := by simpa using e
  subst hk
  unfold EdM.moved EdM.begun
  simp
theorem Stp.erased {most i : Nat} {m : EdM} (hm : ELin most m) (h : EInv most i m) (a b : Nat) : Stp most i m ((m.begun.erased a b).noted m.begun) (decide (a < b)) := by
  refine Stp.noted hm ((h.up (Nat.le_succ i)).begun.line rfl rfl _ _) (fun e => ?_)
  have hk : ¬ a < b := by simpa using e
  unfold EdM.erased EdM.begun delL delK
  simp [hk]
section
variable {w : World} {lo b most i : Nat} {c : EdC} {m : EdM}
theorem kill_all (hm : ELin most m) (hm50 : most ≤ 50) (hI : EInv most i m) (hi : i ≤ 60) (a e : Nat) (hae : a ≤ e) (he : e ≤ ln m.p m.s) (hf : m.p.length = a ∨ m.p.length = e) :
    ∃ m1 ok, (∀ W, EdAt W lo b c most m.begun → lo ≤ W.heap.size → Calls Tryz.prog 79 #[.pointer (some ⟨b, 1, none⟩), .int .i64 a, .int .i64 e, .agg #[.bool m.kd, .bool m.yd, .int .i64 m.ki, .int .i64 m.fr]] W (EdStep W lo b c most m1 ok)) ∧ EInv most (i + 1) m1 ∧ (ok = false → m1.p ++ m1.s = m.p ++ m.s ∧ m1.p.length = m.p.length) := by
  by_cases hq : a = e
  · exact ⟨m.begun, false, fun W hW _ => kill_eq hW a e hq he _ _ _ _, (hI.up (Nat.le_succ i)).begun, fun _ => ⟨rfl, rfl⟩⟩
  have hlt : a < e := by omega
  have hsl : (seg (m.p ++ m.s) a e).length ≤ 50 := by rw [seg_length hae (by rw [← ln_eq]; exact he)]; have := hm.le; omega
  have hsi := seg_is hm.is a e
  have hB := hI.up (Nat.le_succ i)
  cases hkd : m.kd with
  | false =>
    refine ⟨m.begun.killed a e (seg (m.p ++ m.s) a e :: m.ks.take 15), true, fun W hW hl => kill_new (m := m.begun) hW hl a e hlt he hf hI.kl _ _ _, ⟨hB.ps, hB.pl, fun k hk => ?_, ?_, (fun _ h => by cases h), (fun h => by cases h)⟩, fun h => by cases h⟩
    · rcases List.mem_cons.1 hk with rfl | hk
      · exact ⟨hsi, by omega⟩
      · exact hB.ks k (List.mem_of_mem_take hk)
    · show (seg (m.p ++ m.s) a e :: m.ks.take 15).length ≤ 16
      simp only [List.length_cons, List.length_take]; omega
  | true =>
    obtain ⟨k0, r, hk⟩ : ∃ k0 r, m.ks = k0 :: r := by
      cases hks : m.ks with
      | nil => exact absurd hks (hI.kd hkd)
      | cons k0 r => exact ⟨k0, r, rfl⟩
    have h0 := hI.ks k0 (by rw [hk]; exact List.mem_cons_self ..)
    have hfl := flat_le (fun c hc => isC_len (h0.1 c hc))
    have hrl : r.length ≤ 15 := by have := hI.kl; rw [hk, List.length_cons] at this; omega
    by_cases hpe : m.p.length = e
    · refine ⟨m.begun.killed a e ((seg (m.p ++ m.s) a e ++ k0) :: r), true, fun W hW hl => kill_ahead (m := m.begun) hW hl a e hlt he hpe hk (by omega) _ _ _, ⟨hB.ps, hB.pl, fun k hk' => ?_, ?_, (fun _ h => by cases h), (fun h => by cases h)⟩, fun h => by cases h⟩
      · rcases List.mem_cons.1 hk' with rfl | hk'
        · exact ⟨fun c hc => (List.mem_append.1 hc).elim (hsi c) (h0.1 c), by rw [List.length_append]; omega⟩
        · exact hB.ks k (by rw [hk]; exact List.mem_cons_of_mem _ hk')
      · show ((seg (m.p ++ m.s) a e ++ k0) :: r).length ≤ 16
        simp only [List.length_cons]; omega
    · have hpa : m.p.length = a := by omega
      refine ⟨m.begun.killed a e ((k0 ++ seg (m.p ++ m.s) a e) :: r), true, fun W hW hl => kill_behind (m := m.begun) hW hl a e hlt he hpa hk (by omega) _ _ _, ⟨hB.ps, hB.pl, fun k hk' => ?_, ?_, (fun _ h => by cases h), (fun h => by cases h)⟩, fun h => by cases h⟩
      · rcases List.mem_cons.1 hk' with rfl | hk'
        · exact ⟨fun c hc => (List.mem_append.1 hc).elim (h0.1 c) (hsi c), by rw [List.length_append]; omega⟩
        · exact hB.ks k (by rw [hk]; exact List.mem_cons_of_mem _ hk')
      · show ((k0 ++ seg (m.p ++ m.s) a e) :: r).length ≤ 16
        simp only [List.length_cons]; omega
theorem yank_all (hm : ELin most m) (hm50 : most ≤ 50) (hI : EInv most i m) (hi : i ≤ 60) (q fr : Nat) (hq : q < m.ks.length) (hfr : fr ≤ m.p.length) :
    ∃ m1 ok, (∀ W, EdAt W lo b c most m.begun → TL lo W → Calls Tryz.prog 80 #[.pointer (some ⟨b, 1, none⟩), .int .i64 q, .int .i64 fr] W (EdStep W lo b c most m1 ok)) ∧ EInv most (i + 1) m1 ∧ (ok = false → m1.p ++ m1.s = m.p ++ m.s ∧ m1.p.length = m.p.length) := by
  have hk : m.ks[q]? = some m.ks[q] := List.getElem?_eq_getElem hq
  have h0 := hI.ks m.ks[q] (List.getElem_mem hq)
  have hB := hI.up (Nat.le_succ i)
  by_cases hr : m.ks[q].length ≤ most - ln m.p m.s + (m.p.length - fr)
  · refine ⟨m.begun.yanked q fr m.ks[q], true, fun W hW hT => yank_yes (m := m.begun) hW hT q fr _ hk h0.1 (by omega) hfr hr, ⟨hB.ps, hB.pl, hB.ks, hB.kl, (fun h => by cases h), fun _ => ⟨hq, ?_⟩⟩, fun h => by cases h⟩
    show fr ≤ (m.p.take fr ++ m.ks[q]).length
    rw [List.length_append, List.length_take]; omega
  · exact ⟨m.begun, false, fun W hW hT => yank_no (m := m.begun) hW hT q fr _ hk h0.1 (by omega) hfr (Nat.lt_of_not_le hr), hB.begun, fun _ => ⟨rfl, rfl⟩⟩
end
end Go.Proofs.YtfhfhjcdeeepbaaGreatDoor

namespace Go.Proofs.YtfhfhjcdeeepbaaGreatDoor
open Go.RowKit Go.Sort
set_option linter.unusedVariables false
set_option linter.unusedSimpArgs false

section
variable {w : World} {lo b most i : Nat} {c : EdC} {m : EdM}
theorem swap_all (hm : ELin most m) (hI : EInv most i m) :
    ∃ m1 ok, (∀ W, EdAt W lo b c most m.begun → TL lo W → Calls Tryz.prog 81 #[.agg #[.pointer (some ⟨c.g, 0, none⟩)]] W (EdStep W lo b c most m1 ok)) ∧ EInv most (i + 1) m1 ∧ (ok = false → m1.p ++ m1.s = m.p ++ m.s ∧ m1.p.length = m.p.length) := by
  have hB := (hI.up (Nat.le_succ i)).begun
  by_cases hz : m.p.length = 0 ∨ ln m.p m.s ≤ 1
  · refine ⟨m.begun, false, fun W hW hT => (lswap_no hW.buf hz).mono ?_, hB, fun _ => ⟨rfl, rfl⟩⟩
    rintro e w' ⟨rfl, hb⟩
    exact EdStep.of_below hW hb
  · have hf : m.p.length ≤ ln m.p m.s := le_ln1 m
    obtain ⟨k, hk⟩ : ∃ k : Nat, min (m.p.length : Int) ((ln m.p m.s : Nat) - 1 : Int) = (k : Int) + 1 := ⟨min m.p.length (ln m.p m.s - 1) - 1, by omega⟩
    have hkl : k + 1 < (m.p ++ m.s).length := by rw [← ln_eq]; omega
    have hk0 : k < (m.p ++ m.s).length := by omega
    refine ⟨{ m.begun with p := (((m.p ++ m.s).set k (m.p ++ m.s)[k + 1]).set (k + 1) ((m.p ++ m.s)[k]'hk0)).take (k + 2), s := (((m.p ++ m.s).set k (m.p ++ m.s)[k + 1]).set (k + 1) ((m.p ++ m.s)[k]'hk0)).drop (k + 2) }, true, fun W hW hT => ?_, hB.line rfl rfl _ _, fun h => by cases h⟩
    refine (lswap_yes hW.buf (fun V hV => (hT.chg hV (fun j hj => (hW.buf.own_lt j hj).1)).tb) k ((m.p ++ m.s)[k]'hk0) (m.p ++ m.s)[k + 1] hk (List.getElem?_eq_getElem hk0) (List.getElem?_eq_getElem hkl)).mono ?_
    rintro e w' ⟨rfl, ⟨f', t', hg⟩, hc⟩
    have hf' := hg.fp.symm
    subst hf'
    obtain ⟨h1, h2, h3⟩ := hW.buf' hg hc (fun k hk => .inl hk)
    exact ⟨rfl, { c with t := t' }, rfl, h1, h2, h3⟩
theorem edo_all (h : EdAt w lo b c most m) (hT : TL lo w) (hlo : lo ≤ w.heap.size) (hm50 : most ≤ 50) (hI : EInv most i m) (hi : i ≤ 60) (a : Int) :
    ∃ m' ok, DoC w b a (EdStep w lo b c most m' ok) ∧ Stp most i m m' ok := by
  have hm := h.lin
  have hps := hI.pl
  have hp4 : m.p.length ≤ 4096 := by have := le_ln1 m; have := hm.le; omega
  by_cases h1 : a = 1
  · subst h1; exact ⟨_, _, edo_any h 1 (do_left (m1 := m) (d := false) h hT hlo), Stp.moved hI _⟩
  by_cases h2 : a = 2
  · subst h2; exact ⟨_, _, edo_any h 2 (do_right (m1 := m) (d := false) h hT hlo), Stp.moved hI _⟩
  by_cases h3 : a = 3
  · subst h3; exact ⟨_, _, edo_any h 3 (do_wleft (m1 := m) (d := false) h hT hlo), Stp.moved hI _⟩
  by_cases h4 : a = 4
  · subst h4; exact ⟨_, _, edo_any h 4 (do_wright (m1 := m) (d := false) h hT hlo), Stp.moved hI _⟩
  by_cases h5 : a = 5
  · subst h5; exact ⟨_, _, edo_any h 5 (do_home (m1 := m) (d := false) h hT hlo), Stp.moved hI _⟩
  by_cases h6 : a = 6
  · subst h6; exact ⟨_, _, edo_any h 6 (do_end (m1 := m) (d := false) h hT hlo), Stp.moved hI _⟩
  by_cases h15 : a = 15
  · subst h15
    cases hq : m.ps with
    | nil => exact ⟨m.begun, false, edo_any h 15 (do_undo (m1 := m.begun) (d := false) h hT hlo (fun W hW _ _ => undo_no hW hq)), Stp.keep hI _⟩
    | cons e r =>
      have he := hI.ps e (by rw [hq]; exact List.mem_cons_self ..)
      have hrl : r.length ≤ 64 := by have := hI.pl; rw [hq, List.length_cons] at this; omega
      refine ⟨m.begun.undone e.1 e.2 r, true, edo_any h 15 (do_undo (m1 := m.begun.undone e.1 e.2 r) (d := true) h hT hlo (fun W hW hTW hlW => undo_yes hW hTW hlW e.1 e.2 r hq hrl he.1 he.2.1 he.2.2)), ⟨fun e' he' => hI.ps e' (by rw [hq]; exact List.mem_cons_of_mem _ he'), hrl, (hI.up (Nat.le_succ i)).ks, hI.kl, (fun h => by cases h), (fun h => by cases h)⟩, fun h => by cases h⟩
  have hne : a ≠ 1 ∧ a ≠ 2 ∧ a ≠ 3 ∧ a ≠ 4 ∧ a ≠ 5 ∧ a ≠ 6 ∧ a ≠ 15 := ⟨h1, h2, h3, h4, h5, h6, h15⟩
  by_cases h7 : a = 7
  · subst h7
    exact ⟨_, _, edo_any h 7 (do_edit (m1 := m.begun.erased _ _) h hT hlo hps 7 hne (fun W hW hTW hlW => change_7 hW m.kd m.yd m.ki m.fr m.p.length rfl hp4 (fun V hV => eerase_any (m := m.begun) hV _ _))), Stp.erased hm hI _ _⟩
  by_cases h8 : a = 8
  · subst h8
    exact ⟨_, _, edo_any h 8 (do_edit (m1 := m.begun.erased _ _) h hT hlo hps 8 hne (fun W hW hTW hlW => change_8 hW m.kd m.yd m.ki m.fr m.p.length rfl hp4 (fun V hV => eerase_any (m := m.begun) hV _ _))), Stp.erased hm hI _ _⟩
  by_cases h17 : a = 17
  · subst h17
    exact ⟨_, _, edo_any h 17 (do_edit (m1 := m.begun.erased _ _) h hT hlo hps 17 hne (fun W hW hTW hlW => change_17 hW m.kd m.yd m.ki m.fr (fun V hV => eerase_any (m := m.begun) hV _ _))), Stp.erased hm hI _ _⟩
  by_cases h9 : a = 9
  · subst h9
    obtain ⟨m1, ok, hk, h10, h11⟩ := kill_all (lo := lo) (b := b) (c := c) hm hm50 hI hi m.p.length (ln m.p m.s) (le_ln1 m) (Nat.le_refl _) (.inl rfl)
    exact ⟨_, _, edo_any h 9 (do_edit (m1 := m1) h hT hlo h10.pl 9 hne (fun W hW hTW hlW => change_9 hW m.kd m.yd m.ki m.fr (fun V hV => hk V (hW.below hV) (Nat.le_trans hlW hV.size)))), Stp.noted hm h10 h11⟩
  by_cases h10' : a = 10
  · subst h10'
    obtain ⟨m1, ok, hk, h10, h11⟩ := kill_all (lo := lo) (b := b) (c := c) hm hm50 hI hi 0 m.p.length (Nat.zero_le _) (le_ln1 m) (.inr rfl)
    exact ⟨_, _, edo_any h 10 (do_edit (m1 := m1) h hT hlo h10.pl 10 hne (fun W hW hTW hlW => change_10 hW m.kd m.yd m.ki m.fr (fun V hV => hk V (hW.below hV) (Nat.le_trans hlW hV.size)))), Stp.noted hm h10 h11⟩
  by_cases h11' : a = 11
  · subst h11'
    obtain ⟨m1, ok, hk, h10, h11⟩ := kill_all (lo := lo) (b := b) (c := c) hm hm50 hI hi m.p.length (m.p.length + wr m.s) (Nat.le_add_right _ _) (le_ln2 m) (.inl rfl)
    exact ⟨_, _, edo_any h 11 (do_edit (m1 := m1) h hT hlo h10.pl 11 hne (fun W hW hTW hlW => change_11 hW m.kd m.yd m.ki m.fr (fun V hV => hk V (hW.below hV) (Nat.le_trans hlW hV.size)))), Stp.noted hm h10 h11⟩
  by_cases h12' : a = 12
  · subst h12'
    obtain ⟨m1, ok, hk, h10, h11⟩ := kill_all (lo := lo) (b := b) (c := c) hm hm50 hI hi (m.p.length - wl m.p) m.p.length (Nat.sub_le _ _) (le_ln1 m) (.inr rfl)
    exact ⟨_, _, edo_any h 12 (do_edit (m1 := m1) h hT hlo h10.pl 12 hne (fun W hW hTW hlW => change_12 hW m.kd m.yd m.ki m.fr (fun V hV => hk V (hW.below hV) (Nat.le_trans hlW hV.size)))), Stp.noted hm h10 h11⟩
  by_cases h13' : a = 13
  · subst h13'
    cases hq : m.ks with
    | nil =>
      have h9 := edo_any h 13 (do_edit (m1 := m.begun) (d := false) h hT hlo hps 13 hne (fun W hW hTW hlW => change_13no (m1 := m.begun) (d := false) hW m.kd m.yd m.ki m.fr hq))
      rw [EdM.noted_self] at h9
      exact ⟨_, _, h9, Stp.keep hI _⟩
    | cons k0 r =>
      have hkp : 0 < m.ks.length := by rw [hq]; simp
      obtain ⟨m1, ok, hk, h10, h11⟩ := yank_all (lo := lo) (b := b) (c := c) hm hm50 hI hi 0 m.p.length hkp (Nat.le_refl _)
      exact ⟨_, _, edo_any h 13 (do_edit (m1 := m1) h hT hlo h10.pl 13 hne (fun W hW hTW hlW => change_13 hW m.kd m.yd m.ki m.fr hkp (fun V hV => hk V (hW.below hV) (hTW.below hV)))), Stp.noted hm h10 h11⟩
  by_cases h14' : a = 14
  · subst h14'
    by_cases hy : m.yd = true ∧ 1 < m.ks.length
    · obtain ⟨hy1, hy2⟩ := hy
      have hyy := hI.yd hy1
      have hkl := hI.kl
      obtain ⟨m1, ok, hk, h10, h11⟩ := yank_all (lo := lo) (b := b) (c := c) hm hm50 hI hi ((m.ki + 1) % m.ks.length) m.fr (Nat.mod_lt _ (by omega)) hyy.2
      exact ⟨_, _, edo_any h 14 (do_edit (m1 := m1) h hT hlo h10.pl 14 hne (fun W hW hTW hlW => by
        rw [hy1]
        exact change_14 hW m.kd m.fr m.ks.length rfl hy2 hkl m.ki (by omega) (fun V hb hV => hk V hV (hTW.below hb)))), Stp.noted hm h10 h11⟩
    · have hno : m.yd = false ∨ m.ks.length ≤ 1 := by
        cases hyd : m.yd with
        | false => exact .inl rfl
        | true => exact .inr (by have : ¬ 1 < m.ks.length := fun h => hy ⟨hyd, h⟩; omega)
      exact ⟨_, _, edo_14no h hT hlo hps hno, Stp.keep hI _⟩
  by_cases h16' : a = 16
  · subst h16'
    obtain ⟨m1, ok, hk, h10, h11⟩ := swap_all (lo := lo) (b := b) (c := c) hm hI
    exact ⟨_, _, edo_any h 16 (do_edit (m1 := m1) h hT hlo h10.pl 16 hne (fun W hW hTW hlW => change_16 hW m.kd m.yd m.ki m.fr (fun V hb hV => hk V hV (hTW.below hb)))), Stp.noted hm h10 h11⟩
  have h9 := edo_any h a (do_edit (m1 := m.begun) (d := false) h hT hlo hps a hne (fun W hW hTW hlW => change_other (m1 := m.begun) (d := false) hW m.kd m.yd m.ki m.fr a h7 h8 h9 h10' h11' h12' h13' h14' h16' h17 rfl rfl))
  rw [EdM.noted_self] at h9
  exact ⟨_, _, h9, Stp.keep hI _⟩
end
end Go.Proofs.YtfhfhjcdeeepbaaGreatDoor

namespace Go.Proofs.YtfhfhjcdeeepbaaGreatDoor
open Go.RowKit Go.Sort
set_option linter.unusedVariables false
set_option linter.unusedSimpArgs false
set_option maxRecDepth 100000

set_option maxHeartbeats 1000000 in
theorem eset_via {w : World} {lo b most : Nat} {c : EdC} {m m1 : EdM} {d : Bool} (h : EdAt w lo b c most m) (x : ByteArray) (hq : Calls Tryz.prog 28 #[.pointer (some ⟨b, 1, none⟩), .string x] w (EdStep w lo b c most m1 d)) :
    Calls Tryz.prog 12 #[.pointer (some ⟨b, 0, none⟩), .string x] w (EdStep w lo b c most m1 d) := by
  have hc0 := h.self
  have HQ := Lib.hid hq
  clear h hq
  go_enter Tryz.func12, Tryz.ntmps12
  go_wp2_with (first
    | (go_at_call 24; refine (estate_yes b w hc0).mono ?_; rintro e w1 ⟨rfl, rfl⟩)
    | (go_at_call 28; refine HQ.out.mono ?_; rintro e w2 ⟨rfl, hr⟩; have HR := Lib.hid hr; clear hr))
  go_ret
  exact ⟨rfl, HR.out⟩
section
variable {w : World} {lo b most i : Nat} {c : EdC} {m : EdM}
theorem eset_all (h : EdAt w lo b c most m) (hT : TL lo w) (hlo : lo ≤ w.heap.size) (hI : EInv most i m) (x : ByteArray) (hx : x.size ≤ 30000) :
    ∃ m' ok, Calls Tryz.prog 12 #[.pointer (some ⟨b, 0, none⟩), .string x] w (EdStep w lo b c most m' ok) ∧ Stp most i m m' ok := by
  by_cases hs : (cutF x).take most = m.p ++ m.s
  · exact ⟨_, _, eset_via h x (stset_same h hT hlo hI.pl x hx hs), Stp.keep hI _⟩
  · exact ⟨_, _, eset_via h x (stset_new h hT hlo hI.pl x hx hs), Stp.noted h.lin ((hI.up (Nat.le_succ i)).begun.line rfl rfl _ _) (fun h => by cases h)⟩
theorem einsert_all (h : EdAt w lo b c most m) (hT : TL lo w) (hlo : lo ≤ w.heap.size) (hI : EInv most i m) (x : ByteArray) (hx : x.size ≤ 30000) :
    ∃ m' ok, Calls Tryz.prog 10 #[.pointer (some ⟨b, 0, none⟩), .string x] w (EdStep w lo b c most m' ok) ∧ Stp most i m m' ok := by
  refine ⟨_, _, einsert_any h hT hlo hI.pl x hx, Stp.noted h.lin ?_ ?_⟩
  · unfold EdM.entered
    split
    · exact (hI.up (Nat.le_succ i)).begun.line rfl rfl _ _
    · exact (hI.up (Nat.le_succ i)).begun
  · intro e
    unfold EdM.entB at e
    unfold EdM.entered
    show (if (cutF x).length ≤ most - ln m.p m.s then ({ m.begun with p := joinP m.p (rs x.data.toList) ++ cutF x } : EdM) else m.begun).p ++ (if (cutF x).length ≤ most - ln m.p m.s then ({ m.begun with p := joinP m.p (rs x.data.toList) ++ cutF x } : EdM) else m.begun).s = m.p ++ m.s ∧ (if (cutF x).length ≤ most - ln m.p m.s then ({ m.begun with p := joinP m.p (rs x.data.toList) ++ cutF x } : EdM) else m.begun).p.length = m.p.length
    by_cases hr : (cutF x).length ≤ most - ln m.p m.s
    · rw [if_pos hr]
      rw [decide_eq_true hr, Bool.true_and, Bool.or_eq_false_iff] at e
      have h1 : joinP m.p (rs x.data.toList) = m.p := by have := e.1; simpa using this
      have h2 : cutF x = [] := by have := e.2; simpa using this
      show (joinP m.p (rs x.data.toList) ++ cutF x) ++ m.s = m.p ++ m.s ∧ (joinP m.p (rs x.data.toList) ++ cutF x).length = m.p.length
      rw [h1, h2, List.append_nil]
      exact ⟨rfl, rfl⟩
    · rw [if_neg hr]
      exact ⟨rfl, rfl⟩
set_option maxHeartbeats 2000000 in
theorem ebefore_yes (h : EdAt w lo b c most m) (k : Nat) (e : List (List UInt8) × Nat) (he : m.ps[k]? = some e) (hpl : m.ps.length ≤ 64) :
    Calls Tryz.prog 15 #[.pointer (some ⟨b, 0, none⟩), .int .i64 k] w fun e' w' => e' = .returned (flatV e.1) ∧ Below w.heap.size w w' := by
  have hc0 := h.self
  have hk : k < m.ps.length := (List.getElem?_eq_some_iff.1 he).1
  obtain ⟨n, hn⟩ : ∃ n, n = m.ps.length := ⟨_, rfl⟩
  have k3 := h.cells.2.2
  have hrow := h.ps
  rw [← hn] at k3 hrow hk hpl
  obtain ⟨qb, cur, hQ, hqb, hqk, hqt, hnc, hcm, hcl⟩ := own_open hrow (by omega)
  rw [hQ] at k3
  have hget : ∀ (ps : List (List (List UInt8) × Nat)) (k : Nat), ps[k]? = some e → (nV ps)[k * 2]? = some (flatV e.1) := by
    intro ps
    induction ps with
    | nil => intro k hk; cases hk
    | cons a t ih =>
      intro k hk
      cases k with
      | zero => simp at hk; subst hk; rfl
      | succ k =>
        rw [nV_cons, show (k + 1) * 2 = 2 + k * 2 by omega, List.getElem?_append_right (by simp [nC])]
        simp only [nC, List.length_cons, List.length_nil]
        rw [show 2 + k * 2 - (0 + 1 + 1) = k * 2 by omega]
        exact ih k (by simpa using hk)
  have x0 : w.cell? ⟨qb, k * 2, none⟩ = some (flatV e.1) := by
    rw [hqk.cell, show cur[k * 2]? = (cur.take (n * 2))[k * 2]? from by rw [List.getElem?_take, if_pos (by omega)], hqt]
    exact hget _ _ he
  unfold flatV at x0 ⊢
  generalize (⟨(e.1.flatten).toArray⟩ : ByteArray) = tx at x0 ⊢
  have h1 : ¬ ((k : Int) < 0) := by omega
  have h2 : ¬ ((k : Int) ≥ (n : Int)) := by omega
  have h3 : (k : Int) < (n : Int) := by omega
  clear h hrow hqk hqt hcl hcm hget he hQ hn
  go_enter Tryz.func15, Tryz.ntmps15
  go_wp2_with (go_at_call 24; refine (estate_yes b w hc0).mono ?_; rintro e w1 ⟨rfl, rfl⟩)
  go_ret
  exact ⟨rfl, Below.refl _ _⟩
set_option maxHeartbeats 2000000 in
theorem ebefore_none (h : EdAt w lo b c most m) :
    Calls Tryz.prog 15 #[.pointer (some ⟨b, 0, none⟩), .int .i64 (-1)] w fun e' w' => e' = .returned (.string ⟨#[]⟩) ∧ Below w.heap.size w w' := by
  have hc0 := h.self
  have k3 := h.cells.2.2
  clear h
  go_enter Tryz.func15, Tryz.ntmps15
  go_wp2_with (go_at_call 24; refine (estate_yes b w hc0).mono ?_; rintro e w1 ⟨rfl, rfl⟩)
  go_ret
  exact ⟨rfl, Below.refl _ _⟩
end
end Go.Proofs.YtfhfhjcdeeepbaaGreatDoor

