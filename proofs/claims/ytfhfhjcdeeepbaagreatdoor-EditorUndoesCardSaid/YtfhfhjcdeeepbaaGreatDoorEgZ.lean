/-
  Walks: do of a state, Do of an editor.
  Walks: what a made editor tells; New.
  Walk: do of GoLeft.
  Walks: Do of the four kills, of a yank.
  Walk: the law's own check (awake).
-/
import Derived.Test.YtfhfhjcdeeepbaaGreatDoorEgK
import Derived.Test.YtfhfhjcdeeepbaaGreatDoorGpAwake
import Derived.Test.YtfhfhjcdeeepbaaGreatDoorGpWid
namespace Go.Proofs.YtfhfhjcdeeepbaaGreatDoor
open Go.RowKit Go.Sort
set_option linter.unusedVariables false
set_option linter.unusedSimpArgs false

/-- the cursor elsewhere -/
def EdM.moved (m : EdM) (k : Nat) : EdM := { m with p := (m.p ++ m.s).take k, s := (m.p ++ m.s).drop k }
theorem ewalk_any {W : World} {lo b most : Nat} {c : EdC} {m : EdM} (h : EdAt W lo b c most m) (z : Int) :
    Calls Tryz.prog 52 #[.agg #[.pointer (some ⟨c.g, 0, none⟩)], .int .i64 z] W (EdStep W lo b c most (m.moved (clampN z (ln m.p m.s))) (!decide (clampN z (ln m.p m.s) = m.p.length))) := by
  refine (lwalk_any h.buf z).mono ?_
  rintro e w' ⟨rfl, ⟨f', t', hg⟩, hc⟩
  have hf : f' = ((m.p ++ m.s).take (clampN z (ln m.p m.s))).length := hg.fp.symm
  subst hf
  obtain ⟨h1, h2, h3⟩ := h.buf' hg hc (fun k hk => .inl hk)
  exact ⟨rfl, { c with t := t' }, rfl, h1, h2, h3⟩
set_option maxRecDepth 100000 in
set_option maxHeartbeats 2000000 in
theorem doc_any {W : World} {lo b most : Nat} {c : EdC} {m1 : EdM} {d : Bool} (a : Int) (kd yd : Bool) (ki fr : Int) (h1 h2 h3 : Nat) (hb1 : Boxed W h1 61 (.pointer (some ⟨b, 1, none⟩))) (hb2 : Boxed W h2 30 (.int .i64 a)) (hb3 : Blk W h3 48 (trc kd yd ki fr))
    (hch : Calls Tryz.prog 57 #[.pointer (some ⟨b, 1, none⟩), .int .i64 a, .agg #[.bool kd, .bool yd, .int .i64 ki, .int .i64 fr]] W (EdStep W lo b c most m1 d)) :
    Calls Tryz.prog 56 #[.pointer (some ⟨h1, 0, none⟩), .pointer (some ⟨h2, 0, none⟩), .pointer (some ⟨h3, 0, none⟩)] W (EdStep W lo b c most m1 d) := by
  have k1 := hb1.cell
  have k2 := hb2.cell
  have z0 : W.cell? ⟨h3, 0, none⟩ = some (.bool kd) := hb3.cell 0
  have z1 : W.cell? ⟨h3, 1, none⟩ = some (.bool yd) := hb3.cell 1
  have z2 : W.cell? ⟨h3, 2, none⟩ = some (.int .i64 ki) := hb3.cell 2
  have z3 : W.cell? ⟨h3, 3, none⟩ = some (.int .i64 fr) := hb3.cell 3
  have HQ := Lib.hid hch
  clear hb1 hb2 hb3 hch
  go_enter Tryz.func56, Tryz.ntmps56
  go_wp2_with (go_at_call 57; refine HQ.out.mono ?_; rintro e w2 ⟨rfl, hr⟩; have HR := Lib.hid hr; clear hr)
  go_ret
  exact ⟨rfl, HR.out⟩

set_option maxRecDepth 100000 in
set_option maxHeartbeats 4000000 in
theorem do_edit {w : World} {lo b most : Nat} {c : EdC} {m m1 : EdM} {d : Bool} (h : EdAt w lo b c most m) (hT : TL lo w) (hlo : lo ≤ w.heap.size) (hps : m1.ps.length ≤ 64) (a : Int) (ha : a ≠ 1 ∧ a ≠ 2 ∧ a ≠ 3 ∧ a ≠ 4 ∧ a ≠ 5 ∧ a ≠ 6 ∧ a ≠ 15) (hch : ∀ W, EdAt W lo b c most m.begun → TL lo W → lo ≤ W.heap.size → Calls Tryz.prog 57 #[.pointer (some ⟨b, 1, none⟩), .int .i64 a, .agg #[.bool m.kd, .bool m.yd, .int .i64 m.ki, .int .i64 m.fr]] W (EdStep W lo b c most m1 d)) :
    Calls Tryz.prog 29 #[.pointer (some ⟨b, 1, none⟩), .int .i64 a] w (EdStep w lo b c most (m1.noted m.begun) d) := by
  have hb0 : Below w.heap.size w ((w.alloc (.cells #[.pointer (some ⟨b, 1, none⟩)] 61)).alloc (.cells #[.int .i64 a] 30)) := ((Below.refl _ w).alloc (Nat.le_refl _) _).alloc (by simp) _
  have y0 := (Boxed.new w 61 (.pointer (some ⟨b, 1, none⟩))).alloc (.cells #[.int .i64 a] 30)
  have y1 := Boxed.new (w.alloc (.cells #[.pointer (some ⟨b, 1, none⟩)] 61)) 30 (.int .i64 a)
  simp only [World.size_alloc] at y1
  have hbg := ebegin_any (h.below hb0)
  have HBG := Lib.hid hbg
  have HB0 := Lib.hid hb0
  have HY0 := Lib.hid y0
  have HY1 := Lib.hid y1
  have HLT := Lib.hid h.st.lt
  have HTT := Lib.hid (hT.below hb0)
  have hlob := h.lo
  have HCH := Lib.hid hch
  obtain ⟨a1, a2, a3, a4, a5, a6, a15⟩ := ha
  clear hb0 y0 y1 h hT hbg hch
  go_enter Tryz.func29, Tryz.ntmps29
  go_wp2_with (first
    | (go_at_call 42; refine HBG.out.mono ?_; rintro e w1 ⟨rfl, h1, hc1⟩
       have hn : ∀ k, w.heap.size ≤ k → ¬ one b k := fun k hk e => by have h9 : k = b := e; have := HLT.out; omega
       obtain ⟨hbt, hbk⟩ := trc_new w1 m.kd m.yd m.ki m.fr
       have z0 : Boxed w1 w.heap.size 61 (.pointer (some ⟨b, 1, none⟩)) := hc1.heap HY0.out (hn _ (Nat.le_refl _))
       have z1 : Boxed w1 (w.heap.size + 1) 30 (.int .i64 a) := hc1.heap HY1.out (hn _ (by omega))
       have z0' := box_bel z0 hbt
       have z1' := box_bel z1 hbt
       have k0 := z0'.cell
       have k1 := z1'.cell
       have H1 := Lib.hid (h1.below hbt)
       have kbb := H1.out.cells.1
       have HZ0 := Lib.hid z0'
       have HZ1 := Lib.hid z1'
       have HBK := Lib.hid hbk
       have hcw : Chg (one b) w _ := ((Chg.of_below HB0.out).trans hc1 (fun k hk => .inl hk)).trans (Chg.of_below (S := one b) hbt) (fun _ h => .inl h)
       have HCW := Lib.hid hcw
       have HT1 := Lib.hid ((HTT.out.chg hc1 (fun k e => by have h9 : k = b := e; omega)).below hbt)
       have hs1 := hcw.size
       have hws : w1.heap.size ≥ w.heap.size := by have h9 := HB0.out.size; have h8 := hc1.size; omega
       clear hn z0 z1 z0' z1' h1 hc1 hbt hbk hcw)
    | (go_at_call 43; refine (edit_any H1.out (Nat.le_trans hlo hs1) 56 #[.pointer (some ⟨w.heap.size, 0, none⟩), .pointer (some ⟨w.heap.size + 1, 0, none⟩), .pointer (some ⟨w1.heap.size, 0, none⟩)] (enters_of Tryz.func56 (by kernel_rfl) rfl)
          (fun V hV => doc_any a m.kd m.yd m.ki m.fr _ _ _ (box_bel HZ0.out hV) (box_bel HZ1.out hV) (blk_bel HBK.out hV) (HCH.out V (H1.out.below hV) (HT1.out.below hV) (Nat.le_trans (Nat.le_trans hlo hs1) hV.size))) hps).mono ?_
       rintro e w2 ⟨rfl, hr⟩
       have HR := Lib.hid (EdR.viac (w := w) (HCW.out.mono (fun k hk => .inl (.inl hk))) hr)
       clear hr))
  go_ret
  exact ⟨rfl, HR.out⟩

set_option maxHeartbeats 1000000 in
theorem edo_any {w : World} {lo b most : Nat} {c : EdC} {m m1 : EdM} {d : Bool} (h : EdAt w lo b c most m) (a : Int) (hq : Calls Tryz.prog 29 #[.pointer (some ⟨b, 1, none⟩), .int .i64 a] w (EdStep w lo b c most m1 d)) :
    Calls Tryz.prog 13 #[.pointer (some ⟨b, 0, none⟩), .int .i64 a] w (EdStep w lo b c most m1 d) := by
  have hc0 : w.cell? ⟨b, 0, none⟩ = some (.pointer (some ⟨b, 0, none⟩)) := h.st.cell 0
  have HQ := Lib.hid hq
  clear h hq
  go_enter Tryz.func13, Tryz.ntmps13
  go_wp2_with (first
    | (go_at_call 24; refine (estate_yes b w hc0).mono ?_; rintro e w1 ⟨rfl, rfl⟩)
    | (go_at_call 29; refine HQ.out.mono ?_; rintro e w2 ⟨rfl, hr⟩; have HR := Lib.hid hr; clear hr))
  go_ret
  exact ⟨rfl, HR.out⟩
end Go.Proofs.YtfhfhjcdeeepbaaGreatDoor

namespace Go.Proofs.YtfhfhjcdeeepbaaGreatDoor
open Go.RowKit Go.Sort
set_option linter.unusedVariables false
set_option linter.unusedSimpArgs false

theorem EdAt.self {w : World} {lo b most : Nat} {c : EdC} {m : EdM} (h : EdAt w lo b c most m) : w.cell? ⟨b, 0, none⟩ = some (.pointer (some ⟨b, 0, none⟩)) := h.st.cell 0

set_option maxHeartbeats 1000000 in
theorem etext_any {w : World} {lo b most : Nat} {c : EdC} {m : EdM} (h : EdAt w lo b c most m) :
    Calls Tryz.prog 8 #[.pointer (some ⟨b, 0, none⟩)] w (fun e w' => e = .returned (.string ⟨((m.p ++ m.s).flatten).toArray⟩) ∧ Below w.heap.size w w') := by
  have hc0 := h.self
  have hc1 := h.cells.1
  have hq := gtext_any h.buf
  generalize ((m.p ++ m.s).flatten).toArray = L at hq ⊢
  have HQ := Lib.hid hq
  clear hq
  clear h
  go_enter Tryz.func8, Tryz.ntmps8
  go_wp2_with (first
    | (go_at_call 24; refine (estate_yes b w hc0).mono ?_; rintro e w1 ⟨rfl, rfl⟩)
    | (go_at_call 25; refine (HQ.out).mono ?_; rintro e w2 ⟨rfl, hr⟩; have HR := Lib.hid hr; clear hr))
  go_ret
  exact ⟨rfl, HR.out⟩

set_option maxHeartbeats 1000000 in
theorem ecursor_any {w : World} {lo b most : Nat} {c : EdC} {m : EdM} (h : EdAt w lo b c most m) :
    Calls Tryz.prog 9 #[.pointer (some ⟨b, 0, none⟩)] w (fun e w' => e = .returned (.int .i64 m.p.length) ∧ Below w.heap.size w w') := by
  have hc0 := h.self
  have hc1 := h.cells.1
  have HB := Lib.hid h.buf
  clear h
  go_enter Tryz.func9, Tryz.ntmps9
  go_wp2_with (first
    | (go_at_call 24; refine (estate_yes b w hc0).mono ?_; rintro e w1 ⟨rfl, rfl⟩)
    | (go_at_call 26; refine (gcursor_any HB.out).mono ?_; rintro e w2 ⟨rfl, hr⟩; have HR := Lib.hid hr; clear hr))
  go_ret
  exact ⟨rfl, HR.out⟩

set_option maxHeartbeats 1000000 in
theorem eline_any {w : World} {lo b most : Nat} {c : EdC} {m : EdM} (h : EdAt w lo b c most m) :
    Calls Tryz.prog 16 #[.pointer (some ⟨b, 0, none⟩)] w (CatP w (ln m.p m.s) (sv (m.p ++ m.s))) := by
  have hc0 := h.self
  have hc1 := h.cells.1
  have HB := Lib.hid h.buf
  clear h
  go_enter Tryz.func16, Tryz.ntmps16
  go_wp2_with (first
    | (go_at_call 24; refine (estate_yes b w hc0).mono ?_; rintro e w1 ⟨rfl, rfl⟩)
    | (go_at_call 30; refine (gline_any HB.out).mono ?_; rintro e w2 ⟨A, C, rfl, ho, hr⟩; have HR := Lib.hid hr; have HO := Lib.hid ho; clear hr ho))
  go_ret
  exact ⟨A, C, rfl, HO.out, HR.out⟩

set_option maxHeartbeats 1000000 in
theorem eundos_any {w : World} {lo b most : Nat} {c : EdC} {m : EdM} (h : EdAt w lo b c most m) :
    Calls Tryz.prog 14 #[.pointer (some ⟨b, 0, none⟩)] w (fun e w' => e = .returned (.int .i64 m.ps.length) ∧ Below w.heap.size w w') := by
  have hc0 := h.self
  have hc3 : w.cell? ⟨b, 3, none⟩ = some (.slice c.Q m.ps.length c.qc) := h.st.cell 3
  clear h
  go_enter Tryz.func14, Tryz.ntmps14
  go_wp2_with (go_at_call 24; refine (estate_yes b w hc0).mono ?_; rintro e w1 ⟨rfl, rfl⟩)
  go_ret
  exact ⟨rfl, Below.refl _ _⟩
theorem EdAt.ks_sl {w : World} {lo b most : Nat} {c : EdC} {m : EdM} (h : EdAt w lo b c most m) (h0 : 0 < m.ks.length) : ∃ kb, c.K = some ⟨kb, 0, none⟩ ∧ Sl w w.heap.size (some ⟨kb, 0, none⟩) (kV m.ks) := by
  obtain ⟨kb, cur, hK, hbk, hblk, htk, hnc, hcm, hcl⟩ := own_open h.ks h0
  have hcur : cur = kV m.ks ++ cur.drop (m.ks.length * 1) := by rw [← htk, List.take_append_drop]
  refine ⟨kb, hK, .inr ⟨kb, 0, rfl, hblk.lt, fun j u hj => ?_⟩⟩
  rw [Nat.zero_add, hblk.cell, hcur, List.getElem?_append_left (List.getElem?_eq_some_iff.1 hj).1]
  exact hj
set_option maxHeartbeats 1000000 in
theorem ekills_some {w : World} {lo b most : Nat} {c : EdC} {m : EdM} (h : EdAt w lo b c most m) (h0 : 0 < m.ks.length) (hks : m.ks.length ≤ 16) :
    Calls Tryz.prog 20 #[.pointer (some ⟨b, 0, none⟩)] w (CloneP w m.ks.length (kV m.ks)) := by
  have hc0 := h.self
  have hc2 : w.cell? ⟨b, 2, none⟩ = some (.slice c.K m.ks.length c.kc) := h.st.cell 2
  obtain ⟨kb, hK, hsl⟩ := h.ks_sl h0
  rw [hK] at hc2
  have hq := sclone_some (kV m.ks) m.ks.length c.kc kb 0 _ (by rw [kV_length]) h0 (by omega) (kV_one _) w hsl (Nat.le_refl _)
  have HQ := Lib.hid hq
  clear h hsl hq hK
  go_enter Tryz.func20, Tryz.ntmps20
  go_wp2_with (first
    | (go_at_call 24; refine (estate_yes b w hc0).mono ?_; rintro e w1 ⟨rfl, rfl⟩)
    | (go_at_call 33; refine HQ.out.mono ?_; rintro e w2 ⟨bb, tl, rfl, hr⟩; have HR := Lib.hid hr; clear hr))
  go_ret
  exact ⟨bb, tl, rfl, HR.out⟩

/-- An editor that was just made. -/
def EdM.none : EdM := ⟨[], [], [], [], false, false, 0, 0⟩
def NewE (w : World) (most : Nat) (e : Ending) (w' : World) : Prop :=
  ∃ b c, e = .returned (.tuple #[.pointer (some ⟨b, 0, Option.none⟩), .int .i64 0]) ∧ EdAt w' w.heap.size b c most EdM.none ∧ Below w.heap.size w w'
set_option maxRecDepth 100000 in
set_option maxHeartbeats 2000000 in
theorem ewith_any {w : World} (g : Nat) :
    Calls Tryz.prog 23 #[.agg #[.pointer (some ⟨g, 0, Option.none⟩), .slice Option.none 0 0, .slice Option.none 0 0, .bool false, .bool false, .int .i64 0, .int .i64 0]] w (fun e w' => ∃ b, e = .returned (.pointer (some ⟨b, 0, Option.none⟩)) ∧ w.heap.size ≤ b ∧ Blk w' b 52 [.pointer (some ⟨b, 0, Option.none⟩), .pointer (some ⟨g, 0, Option.none⟩), .slice Option.none 0 0, .slice Option.none 0 0, .bool false, .bool false, .int .i64 0, .int .i64 0] ∧ Below w.heap.size w w') := by
  go_enter Tryz.func23, Tryz.ntmps23
  go_wp2_with (fail)
  go_ret
  refine ⟨w.heap.size + 1, rfl, by omega, ?_, ((Below.refl _ w).alloc (Nat.le_refl _) _).alloc (by simp) _⟩
  have := Blk.new (w.alloc (.cells #[.pointer (some ⟨g, 0, Option.none⟩), .slice Option.none 0 0, .slice Option.none 0 0, .bool false, .bool false, .int .i64 0, .int .i64 0] 50)) 52 [.pointer (some ⟨w.heap.size + 1, 0, Option.none⟩), .pointer (some ⟨g, 0, Option.none⟩), .slice Option.none 0 0, .slice Option.none 0 0, .bool false, .bool false, .int .i64 0, .int .i64 0]
  simpa using this
set_option maxRecDepth 100000 in
set_option maxHeartbeats 2000000 in
theorem enew_ok (most : Nat) (h1 : 1 ≤ most) (h2 : most ≤ 4096) (w : World) :
    Calls Tryz.prog 6 #[.int .i64 most] w (NewE w most) := by
  go_enter Tryz.func6, Tryz.ntmps6
  go_wp2_with (first
    | (go_at_call 22; refine (gnew_ok most h1 h2 w).mono ?_; rintro e w1 ⟨g, rfl, hg, hb⟩; have HG := Lib.hid hg; have HB := Lib.hid hb; clear hg hb)
    | (go_at_call 23; refine (ewith_any g).mono ?_; rintro e w2 ⟨b, rfl, hb2, hbk, hbl⟩; have HK := Lib.hid hbk; have HL := Lib.hid hbl; clear hbk hbl))
  go_ret2
  have hr1 : w2.ownsRow w.heap.size 9 1 (.slice Option.none 0 0) 0 [] := And.intro rfl (Or.inl (And.intro rfl rfl))
  have hr2 : w2.ownsRow w.heap.size 64 2 (.slice Option.none 0 0) 0 [] := And.intro rfl (Or.inl (And.intro rfl rfl))
  refine ⟨b, ⟨g, Option.none, 0, 0, 0, Option.none, 0, Option.none, 0⟩, rfl, ⟨HK.out, HG.out.below HL.out, hr1, hr2, ?_, Nat.le_trans HB.out.size hb2⟩, HB.out.trans (HL.out.mono HB.out.size)⟩
  intro k hk
  simp [blk] at hk
end Go.Proofs.YtfhfhjcdeeepbaaGreatDoor

namespace Go.Proofs.YtfhfhjcdeeepbaaGreatDoor
open Go.RowKit Go.Sort
set_option linter.unusedVariables false
set_option linter.unusedSimpArgs false

set_option maxRecDepth 100000 in
set_option maxHeartbeats 4000000 in
theorem do_left {w : World} {lo b most : Nat} {c : EdC} {m m1 : EdM} {d : Bool} (h : EdAt w lo b c most m) (hT : TL lo w) (hlo : lo ≤ w.heap.size)  :
    Calls Tryz.prog 29 #[.pointer (some ⟨b, 1, none⟩), .int .i64 1] w (EdStep w lo b c most (m.begun.moved (clampN ((m.p.length : Int) - 1) (ln m.p m.s))) (!decide (clampN ((m.p.length : Int) - 1) (ln m.p m.s) = m.p.length))) := by
  have hb0 : Below w.heap.size w ((w.alloc (.cells #[.pointer (some ⟨b, 1, none⟩)] 61)).alloc (.cells #[.int .i64 1] 30)) := ((Below.refl _ w).alloc (Nat.le_refl _) _).alloc (by simp) _
  have y0 := (Boxed.new w 61 (.pointer (some ⟨b, 1, none⟩))).alloc (.cells #[.int .i64 1] 30)
  have y1 := Boxed.new (w.alloc (.cells #[.pointer (some ⟨b, 1, none⟩)] 61)) 30 (.int .i64 1)
  simp only [World.size_alloc] at y1
  have hbg := ebegin_any (h.below hb0)
  have HBG := Lib.hid hbg
  have HB0 := Lib.hid hb0
  have HY0 := Lib.hid y0
  have HY1 := Lib.hid y1
  have HLT := Lib.hid h.st.lt
  have HTT := Lib.hid (hT.below hb0)
  have hlob := h.lo
  have hf4 : m.p.length ≤ 4096 := by have := h.buf.ln_le; have := h.buf.m4; have := ln_eq m.p m.s; simp only [List.length_append] at this; omega
  obtain ⟨f, hf⟩ : ∃ f, f = m.p.length := ⟨_, rfl⟩
  have hw1 : IntKind.i64.wrap ((f : Int) - 1) = (f : Int) - 1 := IntWalk.i64_in _ (by omega)
  have hcur := fun (W : World) (hW : EdAt W lo b c most m.begun) => (by rw [hf]; exact gcursor_any hW.buf : Calls Tryz.prog 26 #[.pointer (some ⟨c.g, 0, none⟩)] W fun e w' => e = .returned (.int .i64 f) ∧ Below W.heap.size W w')
  have hwk := fun (W : World) (hW : EdAt W lo b c most m.begun) => ewalk_any hW ((f : Int) - 1)
  have e1 : ln m.begun.p m.begun.s = ln m.p m.s := rfl
  have e2 : m.begun.p.length = f := hf.symm
  rw [e1, e2] at hwk
  rw [← hf]
  generalize hmv : m.begun.moved (clampN ((f : Int) - 1) (ln m.p m.s)) = mv at hwk ⊢
  generalize hdd : (!decide (clampN ((f : Int) - 1) (ln m.p m.s) = f)) = dd at hwk ⊢
  have HC := Lib.hid hcur
  have HWK := Lib.hid hwk
  clear hb0 y0 y1 h hT hbg hcur hwk hf e1 e2 hmv hdd
  go_enter Tryz.func29, Tryz.ntmps29
  go_wp2_with (first
    | (go_at_call 42; refine HBG.out.mono ?_; rintro e w1 ⟨rfl, h1, hc1⟩
       have hn : ∀ k, w.heap.size ≤ k → ¬ one b k := fun k hk e => by have h9 : k = b := e; have := HLT.out; omega
       obtain ⟨hbt, hbk⟩ := trc_new w1 m.kd m.yd m.ki m.fr
       have z0 : Boxed w1 w.heap.size 61 (.pointer (some ⟨b, 1, none⟩)) := hc1.heap HY0.out (hn _ (Nat.le_refl _))
       have z1 : Boxed w1 (w.heap.size + 1) 30 (.int .i64 1) := hc1.heap HY1.out (hn _ (by omega))
       have z0' := box_bel z0 hbt
       have z1' := box_bel z1 hbt
       have k0 := z0'.cell
       have k1 := z1'.cell
       have H1 := Lib.hid (h1.below hbt)
       have kbb := H1.out.cells.1
       have HZ0 := Lib.hid z0'
       have hcw : Chg (one b) w _ := ((Chg.of_below HB0.out).trans hc1 (fun k hk => .inl hk)).trans (Chg.of_below (S := one b) hbt) (fun _ h => .inl h)
       have HCW := Lib.hid hcw
       have HT1 := Lib.hid ((HTT.out.chg hc1 (fun k e => by have h9 : k = b := e; omega)).below hbt)
       have hs1 := hcw.size
       have hws : w1.heap.size ≥ w.heap.size := by have h9 := HB0.out.size; have h8 := hc1.size; omega
       clear hn z0 z1 z0' z1' h1 hc1 hbt hbk hcw))
  go_region_law (first
    | (refine step_call rfl 26 _ _ rfl (enters_of Tryz.func26 (by kernel_rfl) rfl) #[.pointer (some ⟨c.g, 0, none⟩)] (by simp [Act.eval, Act.put]) (HC.out _ (H1.out.below ((Below.refl _ _).drew))) ?_; rintro e w2 ⟨rfl, hb2⟩; refine ⟨_, rfl, ?_⟩
       have hb12 := (Below.drew (Below.refl _ _)).trans hb2
       have H2 := Lib.hid (H1.out.below hb12)
       have kb2 := H2.out.cells.1
       have k02 := (box_bel HZ0.out hb12).cell
       have HB2 := Lib.hid hb12
       clear hb2 hb12)
    | (refine step_call rfl 52 _ _ rfl (enters_of Tryz.func52 (by kernel_rfl) rfl) #[.agg #[.pointer (some ⟨c.g, 0, none⟩)], .int .i64 ((f : Int) - 1)] (by simp [Act.eval, Act.put, hw1]) (HWK.out _ H2.out) ?_; rintro e w3 ⟨rfl, hr⟩; refine ⟨_, rfl, ?_⟩; have HR := Lib.hid (EdR.viac (w := w) (HCW.out.mono (fun k hk => .inl (.inl hk))) (EdR.via HB2.out hr)); clear hr))
  all_goals (go_wp2_with (fail); go_ret; exact ⟨rfl, HR.out⟩)
end Go.Proofs.YtfhfhjcdeeepbaaGreatDoor

namespace Go.Proofs.YtfhfhjcdeeepbaaGreatDoor
open Go.RowKit Go.Sort
set_option linter.unusedVariables false
set_option linter.unusedSimpArgs false

theorem EdM.noted_self (m : EdM) : m.noted m = m := if_pos rfl
theorem EdM.begun_p (m : EdM) : m.begun.p = m.p := rfl
theorem EdM.begun_s (m : EdM) : m.begun.s = m.s := rfl
theorem le_ln1 (m : EdM) : m.p.length ≤ ln m.p m.s := by rw [ln_eq]; simp
theorem le_ln2 (m : EdM) : m.p.length + wr m.s ≤ ln m.p m.s := by have := wr_le m.s; rw [ln_eq]; simp; omega
theorem kill_eq {w : World} {lo b most : Nat} {c : EdC} {m : EdM} (h : EdAt w lo b c most m) (a e : Nat) (hae : a = e) (he : e ≤ ln m.p m.s) (kd yd : Bool) (ki fr : Int) :
    Calls Tryz.prog 79 #[.pointer (some ⟨b, 1, none⟩), .int .i64 a, .int .i64 e, .agg #[.bool kd, .bool yd, .int .i64 ki, .int .i64 fr]] w (EdStep w lo b c most m false) := by
  subst hae
  exact kill_no h a he kd yd ki fr
abbrev DoC (w : World) (b : Nat) (a : Int) (Q : Ending → World → Prop) : Prop := Calls Tryz.prog 13 #[.pointer (some ⟨b, 0, none⟩), .int .i64 a] w Q

theorem edo_9yes {w : World} {lo b most : Nat} {c : EdC} {m : EdM} (h : EdAt w lo b c most m) (hT : TL lo w) (hlo : lo ≤ w.heap.size) (hps : m.ps.length ≤ 64) (hks : m.ks.length ≤ 16) (hkd : m.kd = false) (hae : m.p.length < (ln m.p m.s)) :
    DoC w b 9 (EdStep w lo b c most ((m.begun.killed m.p.length (ln m.p m.s) (seg (m.p ++ m.s) m.p.length (ln m.p m.s) :: m.ks.take 15)).noted m.begun) true) :=
  edo_any h 9 (do_edit (m1 := m.begun.killed m.p.length (ln m.p m.s) (seg (m.p ++ m.s) m.p.length (ln m.p m.s) :: m.ks.take 15)) h hT hlo hps 9 (by omega) (fun W hW hTW hlW => change_9 hW m.kd m.yd m.ki m.fr (fun V hV => by
    rw [hkd]
    exact kill_new (m := m.begun) (hW.below hV) (Nat.le_trans hlW hV.size) m.p.length (ln m.p m.s) hae (Nat.le_refl _) (.inl rfl) hks _ _ _)))

theorem edo_9no {w : World} {lo b most : Nat} {c : EdC} {m : EdM} (h : EdAt w lo b c most m) (hT : TL lo w) (hlo : lo ≤ w.heap.size) (hps : m.ps.length ≤ 64) (hae : m.p.length = (ln m.p m.s)) :
    DoC w b 9 (EdStep w lo b c most m.begun false) := by
  have h9 := edo_any h 9 (do_edit (m1 := m.begun) (d := false) h hT hlo hps 9 (by omega) (fun W hW hTW hlW => change_9 hW m.kd m.yd m.ki m.fr (fun V hV => by
    exact kill_eq (m := m.begun) (hW.below hV) m.p.length (ln m.p m.s) hae (Nat.le_refl _) m.kd m.yd m.ki m.fr)))
  rw [EdM.noted_self] at h9
  exact h9

theorem edo_10yes {w : World} {lo b most : Nat} {c : EdC} {m : EdM} (h : EdAt w lo b c most m) (hT : TL lo w) (hlo : lo ≤ w.heap.size) (hps : m.ps.length ≤ 64) (hks : m.ks.length ≤ 16) (hkd : m.kd = false) (hae : 0 < m.p.length) :
    DoC w b 10 (EdStep w lo b c most ((m.begun.killed 0 m.p.length (seg (m.p ++ m.s) 0 m.p.length :: m.ks.take 15)).noted m.begun) true) :=
  edo_any h 10 (do_edit (m1 := m.begun.killed 0 m.p.length (seg (m.p ++ m.s) 0 m.p.length :: m.ks.take 15)) h hT hlo hps 10 (by omega) (fun W hW hTW hlW => change_10 hW m.kd m.yd m.ki m.fr (fun V hV => by
    rw [hkd]
    exact kill_new (m := m.begun) (hW.below hV) (Nat.le_trans hlW hV.size) 0 m.p.length hae (le_ln1 m) (.inr rfl) hks _ _ _)))

theorem edo_10no {w : World} {lo b most : Nat} {c : EdC} {m : EdM} (h : EdAt w lo b c most m) (hT : TL lo w) (hlo : lo ≤ w.heap.size) (hps : m.ps.length ≤ 64) (hae : 0 = m.p.length) :
    DoC w b 10 (EdStep w lo b c most m.begun false) := by
  have h9 := edo_any h 10 (do_edit (m1 := m.begun) (d := false) h hT hlo hps 10 (by omega) (fun W hW hTW hlW => change_10 hW m.kd m.yd m.ki m.fr (fun V hV => by
    exact kill_eq (m := m.begun) (hW.below hV) 0 m.p.length hae (le_ln1 m) m.kd m.yd m.ki m.fr)))
  rw [EdM.noted_self] at h9
  exact h9

theorem edo_11yes {w : World} {lo b most : Nat} {c : EdC} {m : EdM} (h : EdAt w lo b c most m) (hT : TL lo w) (hlo : lo ≤ w.heap.size) (hps : m.ps.length ≤ 64) (hks : m.ks.length ≤ 16) (hkd : m.kd = false) (hae : m.p.length < (m.p.length + wr m.s)) :
    DoC w b 11 (EdStep w lo b c most ((m.begun.killed m.p.length (m.p.length + wr m.s) (seg (m.p ++ m.s) m.p.length (m.p.length + wr m.s) :: m.ks.take 15)).noted m.begun) true) :=
  edo_any h 11 (do_edit (m1 := m.begun.killed m.p.length (m.p.length + wr m.s) (seg (m.p ++ m.s) m.p.length (m.p.length + wr m.s) :: m.ks.take 15)) h hT hlo hps 11 (by omega) (fun W hW hTW hlW => change_11 hW m.kd m.yd m.ki m.fr (fun V hV => by
    rw [hkd]
    exact kill_new (m := m.begun) (hW.below hV) (Nat.le_trans hlW hV.size) m.p.length (m.p.length + wr m.s) hae (le_ln2 m) (.inl rfl) hks _ _ _)))

theorem edo_11no {w : World} {lo b most : Nat} {c : EdC} {m : EdM} (h : EdAt w lo b c most m) (hT : TL lo w) (hlo : lo ≤ w.heap.size) (hps : m.ps.length ≤ 64) (hae : m.p.length = (m.p.length + wr m.s)) :
    DoC w b 11 (EdStep w lo b c most m.begun false) := by
  have h9 := edo_any h 11 (do_edit (m1 := m.begun) (d := false) h hT hlo hps 11 (by omega) (fun W hW hTW hlW => change_11 hW m.kd m.yd m.ki m.fr (fun V hV => by
    exact kill_eq (m := m.begun) (hW.below hV) m.p.length (m.p.length + wr m.s) hae (le_ln2 m) m.kd m.yd m.ki m.fr)))
  rw [EdM.noted_self] at h9
  exact h9

theorem edo_12yes {w : World} {lo b most : Nat} {c : EdC} {m : EdM} (h : EdAt w lo b c most m) (hT : TL lo w) (hlo : lo ≤ w.heap.size) (hps : m.ps.length ≤ 64) (hks : m.ks.length ≤ 16) (hkd : m.kd = false) (hae : (m.p.length - wl m.p) < m.p.length) :
    DoC w b 12 (EdStep w lo b c most ((m.begun.killed (m.p.length - wl m.p) m.p.length (seg (m.p ++ m.s) (m.p.length - wl m.p) m.p.length :: m.ks.take 15)).noted m.begun) true) :=
  edo_any h 12 (do_edit (m1 := m.begun.killed (m.p.length - wl m.p) m.p.length (seg (m.p ++ m.s) (m.p.length - wl m.p) m.p.length :: m.ks.take 15)) h hT hlo hps 12 (by omega) (fun W hW hTW hlW => change_12 hW m.kd m.yd m.ki m.fr (fun V hV => by
    rw [hkd]
    exact kill_new (m := m.begun) (hW.below hV) (Nat.le_trans hlW hV.size) (m.p.length - wl m.p) m.p.length hae (le_ln1 m) (.inr rfl) hks _ _ _)))

theorem edo_12no {w : World} {lo b most : Nat} {c : EdC} {m : EdM} (h : EdAt w lo b c most m) (hT : TL lo w) (hlo : lo ≤ w.heap.size) (hps : m.ps.length ≤ 64) (hae : (m.p.length - wl m.p) = m.p.length) :
    DoC w b 12 (EdStep w lo b c most m.begun false) := by
  have h9 := edo_any h 12 (do_edit (m1 := m.begun) (d := false) h hT hlo hps 12 (by omega) (fun W hW hTW hlW => change_12 hW m.kd m.yd m.ki m.fr (fun V hV => by
    exact kill_eq (m := m.begun) (hW.below hV) (m.p.length - wl m.p) m.p.length hae (le_ln1 m) m.kd m.yd m.ki m.fr)))
  rw [EdM.noted_self] at h9
  exact h9

set_option maxRecDepth 100000
theorem edo_12more {w : World} {lo b most : Nat} {c : EdC} {m : EdM} (h : EdAt w lo b c most m) (hT : TL lo w) (hlo : lo ≤ w.heap.size) (hps : m.ps.length ≤ 64) {k0 : List (List UInt8)} {r : List (List (List UInt8))} (hk : m.ks = k0 :: r) (hk0 : k0.flatten.length ≤ 1000000) (hkd : m.kd = true) (hae : m.p.length - wl m.p < m.p.length) :
    DoC w b 12 (EdStep w lo b c most ((m.begun.killed (m.p.length - wl m.p) m.p.length ((seg (m.p ++ m.s) (m.p.length - wl m.p) m.p.length ++ k0) :: r)).noted m.begun) true) :=
  edo_any h 12 (do_edit (m1 := m.begun.killed (m.p.length - wl m.p) m.p.length ((seg (m.p ++ m.s) (m.p.length - wl m.p) m.p.length ++ k0) :: r)) h hT hlo hps 12 (by omega) (fun W hW hTW hlW => change_12 hW m.kd m.yd m.ki m.fr (fun V hV => by
    rw [hkd]
    exact kill_ahead (m := m.begun) (hW.below hV) (Nat.le_trans hlW hV.size) (m.p.length - wl m.p) m.p.length hae (le_ln1 m) rfl hk hk0 _ _ _)))
theorem edo_13 {w : World} {lo b most : Nat} {c : EdC} {m : EdM} (h : EdAt w lo b c most m) (hT : TL lo w) (hlo : lo ≤ w.heap.size) (hps : m.ps.length ≤ 64) {k : List (List UInt8)} {r : List (List (List UInt8))} (hk : m.ks = k :: r) (hki : ∀ x ∈ k, isC x = true) (hk4 : k.length ≤ 4096) (hr : k.length ≤ most - ln m.p m.s) :
    DoC w b 13 (EdStep w lo b c most ((m.begun.yanked 0 m.p.length k).noted m.begun) true) :=
  edo_any h 13 (do_edit (m1 := m.begun.yanked 0 m.p.length k) h hT hlo hps 13 (by omega) (fun W hW hTW hlW => change_13 hW m.kd m.yd m.ki m.fr (by show 0 < m.ks.length; rw [hk]; simp) (fun V hV => 
    yank_yes (m := m.begun) (hW.below hV) (hTW.below hV) 0 m.p.length k (by show m.ks[0]? = some k; rw [hk]; rfl) hki hk4 (Nat.le_refl _) (by show k.length ≤ most - ln m.p m.s + _; omega))))
theorem edo_14no {w : World} {lo b most : Nat} {c : EdC} {m : EdM} (h : EdAt w lo b c most m) (hT : TL lo w) (hlo : lo ≤ w.heap.size) (hps : m.ps.length ≤ 64) (hno : m.yd = false ∨ m.ks.length ≤ 1) :
    DoC w b 14 (EdStep w lo b c most m.begun false) := by
  have h9 := edo_any h 14 (do_edit (m1 := m.begun) (d := false) h hT hlo hps 14 (by omega) (fun W hW hTW hlW => change_14no (m1 := m.begun) (d := false) hW m.kd m.yd m.ki m.fr hno))
  rw [EdM.noted_self] at h9
  exact h9
end Go.Proofs.YtfhfhjcdeeepbaaGreatDoor

namespace Go.Proofs.YtfhfhjcdeeepbaaGreatDoor
open Go.RowKit Go.Sort
set_option linter.unusedVariables false
set_option linter.unusedSimpArgs false
set_option maxRecDepth 100000

theorem EdR.go {w w' : World} {lo b most : Nat} {c : EdC} {m m1 : EdM} (h : EdAt w lo b c most m) (hlo : lo ≤ w.heap.size) (hr : EdR w lo b c most m1 w') : ∃ c', EdAt w' lo b c' most m1 ∧ Below lo w w' := by
  obtain ⟨c', hg, h1, h2, h3⟩ := hr
  exact ⟨c', h1, h2.below hlo (fun k hk => (h.own_lt k hk).1)⟩
theorem TL.of {w w' : World} (hT : Tabs w) (hb : Below w.heap.size w w') : TL w.heap.size w' := ⟨hT.below hb, hT.mg, hT.wg⟩
def l5 : List (List UInt8) := [[97], [98], [32], [99], [100]]
def abcd : ByteArray := ⟨#[97, 98, 32, 99, 100]⟩
def am1 : EdM := ⟨l5, [], [], [([], 0)], false, false, 0, 0⟩
def am2 : EdM := ⟨[[97], [98], [32]], [], [[[99], [100]]], [(l5, 5), ([], 0)], true, false, 0, 0⟩
def am3 : EdM := ⟨[], [], [l5], [([[97], [98], [32]], 3), (l5, 5), ([], 0)], true, false, 0, 0⟩
def am4 : EdM := ⟨l5, [], [l5], [([], 0), ([[97], [98], [32]], 3), (l5, 5), ([], 0)], false, true, 0, 0⟩
theorem cut_abcd : cutF abcd = l5 := by decide +kernel
theorem join_abcd : joinP [] (rs abcd.data.toList) = [] := by decide +kernel
theorem wl_l5 : wl l5 = 2 := by decide +kernel
theorem wl_ab : wl [[97], [98], [32]] = 3 := by decide +kernel
theorem is_l5 : ∀ x ∈ l5, isC x = true := by decide +kernel
theorem am1_is : (EdM.none.begun.entered 20 abcd).noted EdM.none.begun = am1 := by
  have h1 : EdM.none.begun.entered 20 abcd = ⟨l5, [], [], [], false, false, 0, 0⟩ := by
    unfold EdM.entered
    rw [cut_abcd]
    rw [if_pos (by decide)]
    show (⟨joinP [] (rs abcd.data.toList) ++ l5, [], [], [], false, false, 0, 0⟩ : EdM) = _
    rw [join_abcd]
    rfl
  rw [h1]
  unfold EdM.noted
  rw [if_neg (by decide)]
  rfl
theorem am1_b : EdM.none.entB 20 abcd = true := by
  unfold EdM.entB
  rw [cut_abcd]
  decide
theorem am2_is : (am1.begun.killed 3 5 (seg (am1.p ++ am1.s) 3 5 :: am1.ks.take 15)).noted am1.begun = am2 := by
  unfold EdM.noted
  rw [if_neg (by decide)]
  rfl
theorem am3_is : (am2.begun.killed 0 3 ((seg (am2.p ++ am2.s) 0 3 ++ [[99], [100]]) :: [])).noted am2.begun = am3 := by
  unfold EdM.noted
  rw [if_neg (by decide)]
  rfl
theorem am4_is : (am3.begun.yanked 0 0 l5).noted am3.begun = am4 := by
  unfold EdM.noted
  rw [if_neg (by decide)]
  rfl
section
variable {w : World} {lo b : Nat} {c : EdC}
theorem aw_ins (h : EdAt w lo b c 20 EdM.none) (hT : TL lo w) (hlo : lo ≤ w.heap.size) :
    Calls Tryz.prog 10 #[.pointer (some ⟨b, 0, none⟩), .string ⟨#[97, 98, 32, 99, 100]⟩] w (EdStep w lo b c 20 am1 true) := by
  have h9 := einsert_any h hT hlo (by decide) abcd (by decide)
  rw [am1_is, am1_b] at h9
  exact h9
theorem aw_k1 (h : EdAt w lo b c 20 am1) (hT : TL lo w) (hlo : lo ≤ w.heap.size) : DoC w b 12 (EdStep w lo b c 20 am2 true) := by
  have e1 : am1.p.length - wl am1.p = 3 := by show 5 - wl l5 = 3; rw [wl_l5]
  have h9 := edo_12yes h hT hlo (by decide) (by decide) rfl (by rw [e1]; decide)
  rw [e1] at h9
  rw [← am2_is]
  exact h9
theorem aw_k2 (h : EdAt w lo b c 20 am2) (hT : TL lo w) (hlo : lo ≤ w.heap.size) : DoC w b 12 (EdStep w lo b c 20 am3 true) := by
  have e1 : am2.p.length - wl am2.p = 0 := by show 3 - wl [[97], [98], [32]] = 0; rw [wl_ab]
  have h9 := edo_12more (k0 := [[99], [100]]) (r := []) h hT hlo (by decide) rfl (by decide) rfl (by rw [e1]; decide)
  rw [e1] at h9
  rw [← am3_is]
  exact h9
theorem aw_y (h : EdAt w lo b c 20 am3) (hT : TL lo w) (hlo : lo ≤ w.heap.size) : DoC w b 13 (EdStep w lo b c 20 am4 true) := by
  have h9 := edo_13 (k := l5) (r := []) h hT hlo (by decide) rfl is_l5 (by decide) (by decide)
  rw [← am4_is]
  exact h9
theorem aw_p (h : EdAt w lo b c 20 am4) (hT : TL lo w) (hlo : lo ≤ w.heap.size) : DoC w b 14 (EdStep w lo b c 20 am4.begun false) :=
  edo_14no h hT hlo (by decide) (.inr (by decide))
theorem aw_t3 (h : EdAt w lo b c 20 am3) : Calls Tryz.prog 8 #[.pointer (some ⟨b, 0, none⟩)] w (fun e w' => e = .returned (.string ⟨#[]⟩) ∧ Below w.heap.size w w') := etext_any h
theorem aw_t4 (h : EdAt w lo b c 20 am4) : Calls Tryz.prog 8 #[.pointer (some ⟨b, 0, none⟩)] w (fun e w' => e = .returned (.string ⟨#[97, 98, 32, 99, 100]⟩) ∧ Below w.heap.size w w') := etext_any h
theorem aw_u (h : EdAt w lo b c 20 am4.begun) : Calls Tryz.prog 14 #[.pointer (some ⟨b, 0, none⟩)] w (fun e w' => e = .returned (.int .i64 4) ∧ Below w.heap.size w w') := eundos_any h
/-- a row of one kill -/
def OneK (w : World) (e : Ending) (w' : World) : Prop :=
  ∃ (kb n : Nat) (cs : List Value), e = .returned (.slice (some ⟨kb, 0, none⟩) 1 n) ∧ Blk w' kb 9 (.string ⟨#[97, 98, 32, 99, 100]⟩ :: cs) ∧ Below w.heap.size w w'
theorem aw_kills (h : EdAt w lo b c 20 am4) : Calls Tryz.prog 20 #[.pointer (some ⟨b, 0, none⟩)] w (OneK w) := by
  refine (ekills_some h (by decide) (by decide)).mono ?_
  rintro e w' ⟨kb, tl, rfl, hb, hbk, hbl⟩
  exact ⟨kb, _, tl, rfl, hbk, hbl⟩
end

set_option maxHeartbeats 8000000 in
theorem eawake_any (w : World) (hT : Tabs w) :
    Calls Tryz.prog 7 #[] w fun e w' => e = .returned (.bool true) ∧ Below w.heap.size w w' := by
  have HT := Lib.hid hT
  clear hT
  go_enter Tryz.func7, Tryz.ntmps7
  go_wp2_with (fail)
  refine (enew_ok 20 (by omega) (by omega) w).mono ?_
  rintro e w1 ⟨b, c1, rfl, h1, hb1⟩
  have HE1 := Lib.hid h1
  have HB1 := Lib.hid hb1
  clear h1 hb1
  go_wp2_with (fail)
  refine (aw_ins HE1.out (TL.of HT.out HB1.out) HB1.out.size).mono ?_
  rintro e w2 ⟨rfl, hr⟩
  obtain ⟨c2, h1, hb1⟩ := EdR.go HE1.out HB1.out.size hr
  have HE2 := Lib.hid h1
  have HB2 := Lib.hid (HB1.out.trans hb1)
  clear hr h1 hb1
  go_wp2_with (fail)
  refine (aw_k1 HE2.out (TL.of HT.out HB2.out) HB2.out.size).mono ?_
  rintro e w3 ⟨rfl, hr⟩
  obtain ⟨c3, h1, hb1⟩ := EdR.go HE2.out HB2.out.size hr
  have HE3 := Lib.hid h1
  have HB3 := Lib.hid (HB2.out.trans hb1)
  clear hr h1 hb1
  go_wp2_with (fail)
  refine (aw_k2 HE3.out (TL.of HT.out HB3.out) HB3.out.size).mono ?_
  rintro e w4 ⟨rfl, hr⟩
  obtain ⟨c4, h1, hb1⟩ := EdR.go HE3.out HB3.out.size hr
  have HE4 := Lib.hid h1
  have HB4 := Lib.hid (HB3.out.trans hb1)
  clear hr h1 hb1
  go_wp2_with (fail)
  refine (aw_t3 HE4.out).mono ?_
  rintro e w5 ⟨rfl, hb1⟩
  have HE5 := Lib.hid (HE4.out.below hb1)
  have HB5 := Lib.hid (HB4.out.trans (hb1.mono HB4.out.size))
  clear hb1
  go_wp2_with (fail)
  refine (aw_y HE5.out (TL.of HT.out HB5.out) HB5.out.size).mono ?_
  rintro e w6 ⟨rfl, hr⟩
  obtain ⟨c6, h1, hb1⟩ := EdR.go HE5.out HB5.out.size hr
  have HE6 := Lib.hid h1
  have HB6 := Lib.hid (HB5.out.trans hb1)
  clear hr h1 hb1
  go_wp2_with (fail)
  refine (aw_kills HE6.out).mono ?_
  rintro e w7 ⟨kb, n, cs, rfl, hbk, hb1⟩
  have HE7 := Lib.hid (HE6.out.below hb1)
  have HB7 := Lib.hid (HB6.out.trans (hb1.mono HB6.out.size))
  have HK7 := Lib.hid hbk
  clear hbk
  clear hb1
  go_wp2_with (fail)
  refine (aw_t4 HE7.out).mono ?_
  rintro e w8 ⟨rfl, hb1⟩
  have HE8 := Lib.hid (HE7.out.below hb1)
  have HB8 := Lib.hid (HB7.out.trans (hb1.mono HB7.out.size))
  have k8 : w8.cell? ⟨kb, 0, none⟩ = some (.string ⟨#[97, 98, 32, 99, 100]⟩) := (HK7.out.below hb1 HK7.out.lt).cell 0
  clear hb1
  go_wp2_with (fail)
  refine (aw_p HE8.out (TL.of HT.out HB8.out) HB8.out.size).mono ?_
  rintro e w9 ⟨rfl, hr⟩
  obtain ⟨c9, h1, hb1⟩ := EdR.go HE8.out HB8.out.size hr
  have HE9 := Lib.hid h1
  have HB9 := Lib.hid (HB8.out.trans hb1)
  clear hr h1 hb1
  go_wp2_with (fail)
  refine (aw_u HE9.out).mono ?_
  rintro e w10 ⟨rfl, hb1⟩
  have HE10 := Lib.hid (HE9.out.below hb1)
  have HB10 := Lib.hid (HB9.out.trans (hb1.mono HB9.out.size))
  clear hb1
  go_wp2_with (fail)
  go_ret
  exact ⟨rfl, HB10.out⟩
end Go.Proofs.YtfhfhjcdeeepbaaGreatDoor

