/-
  Walk: kill of a state.
  Walk: kill of a state whose last call killed.
  Walk: yank of a state.
  Walks: change of a state, the kills and the yanks.
  Walks: change of a state: Yank, YankPop.
-/
import Derived.Test.YtfhfhjcdeeepbaaGreatDoorEgM
import Derived.Test.YtfhfhjcdeeepbaaGreatDoorQuietB
import Derived.Test.YtfhfhjcdeeepbaaGreatDoorEgA
import Derived.Deep.QuietTactic
import Derived.BigQuiet
namespace Go.Proofs.YtfhfhjcdeeepbaaGreatDoor
open Go.RowKit Go.Sort
set_option linter.unusedVariables false
set_option linter.unusedSimpArgs false

theorem kV_cons (k : List (List UInt8)) (ks : List (List (List UInt8))) : kV (k :: ks) = flatV k :: kV ks := rfl
theorem kV_take (ks : List (List (List UInt8))) (k : Nat) : (kV ks).take k = kV (ks.take k) := by simp [kV, List.map_take]
theorem kV_length (ks : List (List (List UInt8))) : (kV ks).length = ks.length := by simp [kV]
/-- the kills turned -/
theorem EdAt.ks' {w w' : World} {lo b most : Nat} {c : EdC} {m : EdM} (h : EdAt w lo b c most m) {A : Option Addr} {n cc : Nat} {ks' : List (List (List UInt8))} (hn : n = ks'.length) (ho : w'.ownsRow lo 9 1 (.slice A n cc) n (kV ks')) (hc : Chg (fun k => blk c.K = some k) w w') (hk : ∀ k, blk A = some k → blk c.K = some k ∨ w.heap.size ≤ k) :
    EdAt (w'.setCell ⟨b, 2, none⟩ (.slice A n cc)) lo b { c with K := A, kc := cc } most { m with ks := ks' } ∧ Chg (EdOwn b c) w (w'.setCell ⟨b, 2, none⟩ (.slice A n cc)) ∧ ∀ k, EdOwn b { c with K := A, kc := cc } k → EdOwn b c k ∨ w.heap.size ≤ k := by
  subst hn
  have hbK := h.b_K
  have hst : Blk w' b 52 (edc b c m) := h.st.chg hc hbK
  have hset := hst.set_ 2 (.slice A ks'.length cc)
  have hcs : Chg (one b) w' (w'.setCell ⟨b, 2, none⟩ (.slice A ks'.length cc)) := (Chg.refl (one b) w').setCell (p := ⟨b, 2, none⟩) (.inl rfl) _
  have hnA : ∀ k, blk A = some k → k ≠ b := fun k hA e => by
    subst e
    rcases hk k hA with hq | hq
    · exact hbK hq
    · have := h.st.lt; omega
  refine ⟨⟨hset, (h.buf.keep hc (fun k hk' hq => h.gp_K hk' hq)).keep hcs (fun k hk' e => h.b_gp ((show k = b from e) ▸ hk')), own_chg ho hcs (fun k hk' e => hnA k hk' e), own_chg (own_chg h.ps hc (fun k hk' hq => h.K_Q hq hk')) hcs (fun k hk' e => h.b_Q ((show k = b from e) ▸ hk')), fun k hA hK => ?_, h.lo⟩,
    (hc.mono (fun k hk' => .inl (.inr (.inr (.inl hk'))))).trans hcs (fun k e => .inl (.inl e)), fun k hk' => ?_⟩
  · rcases hk k hK with hq | hq
    · exact h.ap k hA hq
    · have := (h.buf.own_lt k (.inr hA)).2; omega
  · rcases hk' with rfl | hk' | hk' | hk'
    · exact .inl (.inl rfl)
    · exact .inl (.inr (.inl hk'))
    · exact (hk k hk').imp (fun h => .inr (.inr (.inl h))) id
    · exact .inl (.inr (.inr (.inr hk')))
/-- the mark of a kill is set -/
theorem EdAt.kd' {w : World} {lo b most : Nat} {c : EdC} {m : EdM} (h : EdAt w lo b c most m) : EdAt (w.setCell ⟨b, 4, none⟩ (.bool true)) lo b c most { m with kd := true } ∧ Chg (EdOwn b c) w (w.setCell ⟨b, 4, none⟩ (.bool true)) := by
  have hcs : Chg (one b) w (w.setCell ⟨b, 4, none⟩ (.bool true)) := (Chg.refl (one b) w).setCell (p := ⟨b, 4, none⟩) (.inl rfl) _
  exact ⟨⟨h.st.set_ 4 (.bool true), h.buf.keep hcs (fun k hk' e => h.b_gp ((show k = b from e) ▸ hk')), own_chg h.ks hcs (fun k hk' e => h.b_K ((show k = b from e) ▸ hk')), own_chg h.ps hcs (fun k hk' e => h.b_Q ((show k = b from e) ▸ hk')), h.ap, h.lo⟩, hcs.mono (fun k e => .inl (.inl e))⟩
theorem clampN_id {a L : Nat} (h : a ≤ L) : clampN (a : Int) L = a := by unfold clampN; omega

set_option maxRecDepth 100000 in
set_option maxHeartbeats 2000000 in
theorem kill_no {w : World} {lo b most : Nat} {c : EdC} {m : EdM} (h : EdAt w lo b c most m) (a : Nat) (ha : a ≤ ln m.p m.s) (kd yd : Bool) (ki fr : Int) :
    Calls Tryz.prog 79 #[.pointer (some ⟨b, 1, none⟩), .int .i64 a, .int .i64 a, .agg #[.bool kd, .bool yd, .int .i64 ki, .int .i64 fr]] w (EdStep w lo b c most m false) := by
  have hb0 : Below w.heap.size w (w.alloc (.cells #[.bool kd, .bool yd, .int .i64 ki, .int .i64 fr] 48)) := (Below.refl _ w).alloc (Nat.le_refl _) _
  have h0 := h.below hb0
  have hq := fun (W : World) (hW : EdAt W lo b c most m) => gdelete_no hW.buf a a (by omega)
  have HQ := Lib.hid hq
  have H := Lib.hid h
  have HB0 := Lib.hid hb0
  have H0 := Lib.hid h0
  have kb := h0.cells.1
  clear h hb0 h0 hq
  go_enter Tryz.func79, Tryz.ntmps79
  go_wp2_with (first
    | (go_at_call 26; refine (gcursor_any H0.out.buf).mono ?_; rintro e w1 ⟨rfl, hb1⟩; have H1 := Lib.hid (H0.out.below hb1); have kb1 := H1.out.cells.1; have HB1 := Lib.hid hb1; clear hb1)
    | (go_at_call 99; refine (HQ.out _ H1.out).mono ?_; rintro e w2 ⟨rfl, hb2⟩; have HB2 := Lib.hid hb2; clear hb2)
    | (go_at_call 67; refine (sh_strings_Join_none none 0 ⟨#[]⟩ _).mono ?_; rintro e w3 ⟨rfl, rfl⟩))
  all_goals go_ret
  all_goals exact EdStep.of_below H.out (HB0.out.trans ((HB1.out.trans (HB2.out.mono HB1.out.size)).mono HB0.out.size))
/-- the clusters between two places -/
def seg (l : List (List UInt8)) (a e : Nat) : List (List UInt8) := (l.drop a).take (e - a)
/-- What is behind the deletion, and its text. -/
def KilP (w : World) (lo b : Nat) (c : EdC) (most : Nat) (m : EdM) (l : List (List UInt8)) (a e : Nat) (ed : Ending) (w' : World) : Prop :=
  ∃ g2, ed = .returned (.slice (some ⟨g2, 0, none⟩) (e - a) (e - a)) ∧ Sl w' w'.heap.size (some ⟨g2, 0, none⟩) (sv (seg l a e)) ∧ (∃ t', EdAt w' lo b { c with t := t' } most { m with p := l.take a, s := l.drop e }) ∧ Chg (GpOwn c.g c.A) w w'
theorem edelete_any {w : World} {lo b most : Nat} {c : EdC} {m : EdM} (h : EdAt w lo b c most m) (a e : Nat) (hae : a < e) (he : e ≤ ln m.p m.s) (hf : m.p.length = a ∨ m.p.length = e) :
    Calls Tryz.prog 99 #[.pointer (some ⟨c.g, 0, none⟩), .int .i64 a, .int .i64 e] w (KilP w lo b c most m (m.p ++ m.s) a e) := by
  have ea : clampN (a : Int) (ln m.p m.s) = a := clampN_id (by omega)
  have ee : clampN (e : Int) (ln m.p m.s) = e := clampN_id he
  have hd := gdelete_yes h.buf a e (by rw [ea, ee]; exact hae)
  rw [ea, ee] at hd
  refine hd.mono ?_
  rintro ed w' ⟨g2, tl, f', t', rfl, hg2, hb2, hgp, hc⟩
  have hll : (m.p ++ m.s).length = ln m.p m.s := (ln_eq _ _).symm
  have hdc : delC m.p.length a e = a := by unfold delC; split <;> omega
  rw [hdc] at hgp
  have e1 : ((m.p ++ m.s).take a ++ (m.p ++ m.s).drop e).take a = (m.p ++ m.s).take a := List.take_left' (by rw [List.length_take]; omega)
  have e2 : ((m.p ++ m.s).take a ++ (m.p ++ m.s).drop e).drop a = (m.p ++ m.s).drop e := List.drop_left' (by rw [List.length_take]; omega)
  rw [e1, e2] at hgp
  have hfl : f' = ((m.p ++ m.s).take a).length := hgp.fp.symm
  subst hfl
  obtain ⟨h1, h2, h3⟩ := h.buf' hgp hc (fun k hk => .inl hk)
  refine ⟨g2, rfl, ?_, ⟨t', h1⟩, hc⟩
  have := hb2.sl.take (sv (seg (m.p ++ m.s) a e)).length
  rwa [show (sv (((m.p ++ m.s).drop a).take (e - a)) ++ tl).take (sv (seg (m.p ++ m.s) a e)).length = sv (seg (m.p ++ m.s) a e) from List.take_left' rfl] at this
theorem seg_is {l : List (List UInt8)} (h : ∀ c ∈ l, isC c = true) (a e : Nat) : ∀ c ∈ seg l a e, isC c = true := fun c hc => h c (List.mem_of_mem_drop (List.mem_of_mem_take hc))
theorem seg_length {l : List (List UInt8)} {a e : Nat} (h : a ≤ e) (he : e ≤ l.length) : (seg l a e).length = e - a := by unfold seg; rw [List.length_take, List.length_drop]; omega
theorem flat_cons {l : List (List UInt8)} (h : ∀ c ∈ l, isC c = true) (hne : l ≠ []) : ∃ y ys, l.flatten = y :: ys := by
  cases l with
  | nil => exact absurd rfl hne
  | cons c t =>
    cases c with
    | nil => exact absurd (h [] (List.mem_cons_self ..)) (by decide)
    | cons y ys => exact ⟨y, ys ++ t.flatten, by simp⟩
/-- what a kill leaves -/
def EdM.killed (m : EdM) (a e : Nat) (ks' : List (List (List UInt8))) : EdM := { m with p := (m.p ++ m.s).take a, s := (m.p ++ m.s).drop e, ks := ks', kd := true }

set_option maxRecDepth 100000 in
set_option maxHeartbeats 4000000 in
theorem kill_new {w : World} {lo b most : Nat} {c : EdC} {m : EdM} (h : EdAt w lo b c most m) (hlo : lo ≤ w.heap.size) (a e : Nat) (hae : a < e) (he : e ≤ ln m.p m.s) (hf : m.p.length = a ∨ m.p.length = e) (hks : m.ks.length ≤ 16) (yd : Bool) (ki fr : Int) :
    Calls Tryz.prog 79 #[.pointer (some ⟨b, 1, none⟩), .int .i64 a, .int .i64 e, .agg #[.bool false, .bool yd, .int .i64 ki, .int .i64 fr]] w (EdStep w lo b c most (m.killed a e (seg (m.p ++ m.s) a e :: m.ks.take 15)) true) := by
  have hb0 : Below w.heap.size w (w.alloc (.cells #[.bool false, .bool yd, .int .i64 ki, .int .i64 fr] 48)) := (Below.refl _ w).alloc (Nat.le_refl _) _
  have h0 := h.below hb0
  have hi := seg_is h.buf.is a e
  have hln : ln m.p m.s ≤ 4096 := by have := h.buf.ln_le; have := h.buf.m4; omega
  have hsl := seg_length (l := m.p ++ m.s) (Nat.le_of_lt hae) (by rw [← ln_eq]; exact he)
  have hne : seg (m.p ++ m.s) a e ≠ [] := fun h9 => by rw [h9] at hsl; simp at hsl; omega
  obtain ⟨y, ys, hy⟩ := flat_cons hi hne
  have hfl : (seg (m.p ++ m.s) a e).flatten.length ≤ 100000000 := by
    have := flat_le (fun c hc => isC_len (hi c hc))
    omega
  have hq := fun (W : World) (hW : EdAt W lo b c most m) => edelete_any hW a e hae he hf
  have hj := fun (W : World) (g2 : Nat) (hS : Sl W W.heap.size (some ⟨g2, 0, none⟩) (sv (seg (m.p ++ m.s) a e))) => join_any (seg (m.p ++ m.s) a e) (some ⟨g2, 0, none⟩) (e - a) (e - a) W.heap.size hsl.symm (Nat.le_refl _) W hS (Nat.le_refl _) (by omega) hfl
  rw [hy] at hj
  have hVF : flatV (seg (m.p ++ m.s) a e) = .string ⟨(y :: ys).toArray⟩ := by unfold flatV; rw [hy]
  have HVF := Lib.hid hVF
  have HQ := Lib.hid hq
  have HJ := Lib.hid hj
  have H := Lib.hid h
  have HB0 := Lib.hid hb0
  have H0 := Lib.hid h0
  have HOL := Lib.hid h.own_lt
  have kb := h0.cells.1
  have kt : (w.alloc (.cells #[.bool false, .bool yd, .int .i64 ki, .int .i64 fr] 48)).cell? ⟨w.heap.size, 0, none⟩ = some (.bool false) := (Blk.new w 48 [.bool false, .bool yd, .int .i64 ki, .int .i64 fr]).cell 0
  clear h hb0 h0 hq hj hi hsl hne hfl hf hy hVF
  go_enter Tryz.func79, Tryz.ntmps79
  go_wp2_with (first
    | (go_at_call 26; refine (gcursor_any H0.out.buf).mono ?_; rintro ed w1 ⟨rfl, hb1⟩; have H1 := Lib.hid (H0.out.below hb1); have kb1 := H1.out.cells.1; have kt1 := (hb1.cell (p := ⟨w.heap.size, 0, none⟩) (by simp)).trans kt; have HB1 := Lib.hid hb1; clear hb1)
    | (go_at_call 99; refine (HQ.out _ H1.out).mono ?_; rintro ed w2 ⟨g2, rfl, hs2, ⟨t', h2⟩, hc2⟩
       have kt2 := hc2.cell (p := ⟨w.heap.size, 0, none⟩) kt1 (fun hk => by have h9 := (HOL.out w.heap.size (.inr (.inl hk))).2; omega)
       have HS2 := Lib.hid hs2
       have H2 := Lib.hid h2
       have HC2 := Lib.hid hc2
       clear hs2 h2 hc2 kt kt1 kb1)
    | (go_at_call 67; refine (HJ.out _ g2 HS2.out).mono ?_; rintro ed w3 ⟨rfl, hb3⟩
       have H3 := Lib.hid (H2.out.below hb3)
       have k2 := H3.out.cells.2.1
       have kt3 := (hb3.cell (p := ⟨w.heap.size, 0, none⟩) (World.block_lt_of_cell? w2 _ kt2)).trans kt2
       have HB3 := Lib.hid hb3
       have HLO3 : Hid (lo ≤ w3.heap.size) := Lib.hid (by have h1 := HB0.out.size; have h2 := HB1.out.size; have h3 := HC2.out.size; have h4 := hb3.size; omega)
       clear hb3 kt2)
    | (go_at_call 106; refine (firstS_any lo c.K m.ks.length c.kc (kV m.ks) _ H3.out.ks ⟨(y :: ys).toArray⟩ (kV_one _) hks HLO3.out).mono ?_; rintro ed w4 ⟨A4, c4, rfl, ho4, hc4, hk4⟩
       have hst := H3.out.st.chg hc4 H3.out.b_K
       have kk4 := hst.cell 2
       have ff4 := hst.frozen 2
       have kq4 := hst.cell 4
       have fq4 := hst.frozen 4
       simp only [edc, List.getElem?_cons_succ, List.getElem?_cons_zero] at kk4 kq4
       have HO4 := Lib.hid ho4
       have HC4 := Lib.hid hc4
       have HK4 := Lib.hid hk4
       clear ho4 hc4 hk4 hst))
  all_goals go_ret
  all_goals
    have hrow : w4.ownsRow lo 9 1 (.slice A4 (min m.ks.length 15 + 1) c4) (min m.ks.length 15 + 1) (kV (seg (m.p ++ m.s) a e :: m.ks.take 15)) := by
      have h9 := HO4.out
      have h8 : (kV m.ks).take (min m.ks.length 15) = kV (m.ks.take 15) := by rw [kV_take, List.take_min_length']
      rw [h8] at h9
      rw [kV_cons, HVF.out]
      exact h9
    obtain ⟨e5, c5, k5⟩ := H3.out.ks' (by rw [List.length_cons, List.length_take]; omega) hrow HC4.out HK4.out
    obtain ⟨e6, c6⟩ := e5.kd'
    have hw : Chg (EdOwn b c) w w3 := ((((Chg.of_below HB0.out).trans (Chg.of_below (S := EdOwn b c) HB1.out) (fun _ h => .inl h)).trans HC2.out (fun k hk => .inl (.inr (.inl hk))))).trans (Chg.of_below (S := EdOwn b c) HB3.out) (fun _ h => .inl h)
    refine ⟨rfl, { c with t := t', K := A4, kc := c4 }, rfl, e6, ((hw.trans c5 (fun k hk => .inl hk)).trans c6 (fun k hk => ?_)), fun k hk => ?_⟩
    · exact (k5 k hk).imp id (fun h => Nat.le_trans hw.size h)
    · exact (k5 k hk).imp id (fun h => Nat.le_trans hw.size h)
end Go.Proofs.YtfhfhjcdeeepbaaGreatDoor

namespace Go.Proofs.YtfhfhjcdeeepbaaGreatDoor
open Go.RowKit Go.Sort
set_option linter.unusedVariables false
set_option linter.unusedSimpArgs false

theorem bytes_app (a b : List UInt8) : (⟨a.toArray⟩ : ByteArray) ++ ⟨b.toArray⟩ = ⟨(a ++ b).toArray⟩ := by
  apply ByteArray.ext
  simp
/-- the first kill turned -/
theorem EdAt.k0' {w : World} {lo b most : Nat} {c : EdC} {m : EdM} {k0 : List (List UInt8)} {r : List (List (List UInt8))} (h : EdAt w lo b c most m) (hk : m.ks = k0 :: r) (k1 : List (List UInt8)) :
    ∃ kb, c.K = some ⟨kb, 0, none⟩ ∧ w.cell? ⟨kb, 0, none⟩ = some (flatV k0) ∧ w.frozen? ⟨kb, 0, none⟩ = false ∧ kb < w.heap.size ∧ kb ≠ b ∧ EdAt (w.setCell ⟨kb, 0, none⟩ (flatV k1)) lo b c most { m with ks := k1 :: r } ∧ Chg (EdOwn b c) w (w.setCell ⟨kb, 0, none⟩ (flatV k1)) := by
  obtain ⟨kb, cur, hK, hbk, hblk, htk, hnc, hcm, hcl⟩ := own_open h.ks (by rw [hk]; simp)
  have hlen : m.ks.length = r.length + 1 := by rw [hk]; simp
  have hcur : cur = kV m.ks ++ cur.drop (m.ks.length * 1) := by rw [← htk, List.take_append_drop]
  have h0 : cur[0]? = some (flatV k0) := by rw [hcur, hk]; rfl
  have hcs : Chg (one kb) w (w.setCell ⟨kb, 0, none⟩ (flatV k1)) := (Chg.refl (one kb) w).setCell (p := ⟨kb, 0, none⟩) (.inl rfl) _
  have hKb : blk c.K = some kb := by rw [hK]; rfl
  have hne : kb ≠ b := fun e => h.b_K (e ▸ hKb)
  have hrow : (w.setCell ⟨kb, 0, none⟩ (flatV k1)).ownsRow lo 9 1 (.slice c.K m.ks.length c.kc) m.ks.length (kV (k1 :: r)) := by
    have hs := hblk.set_ 0 (flatV k1)
    rw [hK]
    refine own_room hbk hs hnc hcm (by rw [List.length_set]; exact hcl) ?_ (by rw [kV_length, List.length_cons]; omega)
    rw [List.take_set, htk, hk]
    rfl
  have hst := h.st.chg hcs (fun e => hne (show b = kb from e).symm)
  refine ⟨kb, hK, by rw [hblk.cell]; exact h0, hblk.frozen 0, hblk.lt, hne, ⟨?_, h.buf.keep hcs (fun k hk' e => h.gp_K hk' ((show k = kb from e) ▸ hKb)), ?_, own_chg h.ps hcs (fun k hk' e => h.K_Q hKb ((show k = kb from e) ▸ hk')), h.ap, h.lo⟩, hcs.mono (fun k e => .inl (.inr (.inr (.inl ((show k = kb from e) ▸ hKb)))))⟩
  · have : edc b c { m with ks := k1 :: r } = edc b c m := by unfold edc; simp [hlen]
    rw [this]; exact hst
  · have e9 : ({ m with ks := k1 :: r } : EdM).ks.length = m.ks.length := by simp [hlen]
    rw [e9]
    exact hrow

set_option maxRecDepth 100000 in
set_option maxHeartbeats 4000000 in
theorem kill_ahead {w : World} {lo b most : Nat} {c : EdC} {m : EdM} {k0 : List (List UInt8)} {r : List (List (List UInt8))} (h : EdAt w lo b c most m) (hlo : lo ≤ w.heap.size) (a e : Nat) (hae : a < e) (he : e ≤ ln m.p m.s) (hf : m.p.length = e) (hk : m.ks = k0 :: r) (hk0 : k0.flatten.length ≤ 1000000) (yd : Bool) (ki fr : Int) :
    Calls Tryz.prog 79 #[.pointer (some ⟨b, 1, none⟩), .int .i64 a, .int .i64 e, .agg #[.bool true, .bool yd, .int .i64 ki, .int .i64 fr]] w (EdStep w lo b c most (m.killed a e ((seg (m.p ++ m.s) a e ++ k0) :: r)) true) := by
  have hb0 : Below w.heap.size w (w.alloc (.cells #[.bool true, .bool yd, .int .i64 ki, .int .i64 fr] 48)) := (Below.refl _ w).alloc (Nat.le_refl _) _
  have h0 := h.below hb0
  have hi := seg_is h.buf.is a e
  have hln : ln m.p m.s ≤ 4096 := by have := h.buf.ln_le; have := h.buf.m4; omega
  have hsl := seg_length (l := m.p ++ m.s) (Nat.le_of_lt hae) (by rw [← ln_eq]; exact he)
  have hne : seg (m.p ++ m.s) a e ≠ [] := fun h9 => by rw [h9] at hsl; simp at hsl; omega
  obtain ⟨y, ys, hy⟩ := flat_cons hi hne
  have hfl1 := flat_le (fun c hc => isC_len (hi c hc))
  have hfl : (seg (m.p ++ m.s) a e).flatten.length ≤ 100000000 := by omega
  have hq := fun (W : World) (hW : EdAt W lo b c most m) => edelete_any hW a e hae he (by first | exact .inr hf | exact .inl hf)
  have hcu := fun (W : World) (hW : EdAt W lo b c most m) => (by rw [← hf]; exact gcursor_any hW.buf : Calls Tryz.prog 26 #[.pointer (some ⟨c.g, 0, none⟩)] W fun ed w' => ed = .returned (.int .i64 (e : Nat)) ∧ Below W.heap.size W w')
  have hj := fun (W : World) (g2 : Nat) (hS : Sl W W.heap.size (some ⟨g2, 0, none⟩) (sv (seg (m.p ++ m.s) a e))) => join_any (seg (m.p ++ m.s) a e) (some ⟨g2, 0, none⟩) (e - a) (e - a) W.heap.size hsl.symm (Nat.le_refl _) W hS (Nat.le_refl _) (by omega) hfl
  rw [hy] at hj
  have hyl : (y :: ys).length ≤ 1000000 := by rw [← hy]; omega
  have hVF : flatV (seg (m.p ++ m.s) a e ++ k0) = .string ⟨((y :: ys) ++ k0.flatten).toArray⟩ := by unfold flatV; rw [List.flatten_append, hy]
  have HVF := Lib.hid hVF
  have HQ := Lib.hid hq
  have HCU := Lib.hid hcu
  have HJ := Lib.hid hj
  have HB0 := Lib.hid hb0
  have H0 := Lib.hid h0
  have HOL := Lib.hid h.own_lt
  have HKS := Lib.hid hk
  have HYL := Lib.hid hyl
  have kb := h0.cells.1
  have hea : ¬ (e : Int) = a := by omega
  have kt : (w.alloc (.cells #[.bool true, .bool yd, .int .i64 ki, .int .i64 fr] 48)).cell? ⟨w.heap.size, 0, none⟩ = some (.bool true) := (Blk.new w 48 [.bool true, .bool yd, .int .i64 ki, .int .i64 fr]).cell 0
  clear h hb0 h0 hq hj hi hsl hne hfl hf hy hVF hcu hk hyl hfl1
  go_enter Tryz.func79, Tryz.ntmps79
  go_wp2_with (first
    | (go_at_call 26; refine (HCU.out _ H0.out).mono ?_; rintro ed w1 ⟨rfl, hb1⟩; have H1 := Lib.hid (H0.out.below hb1); have kb1 := H1.out.cells.1; have kt1 := (hb1.cell (p := ⟨w.heap.size, 0, none⟩) (by simp)).trans kt; have HB1 := Lib.hid hb1; clear hb1)
    | (go_at_call 99; refine (HQ.out _ H1.out).mono ?_; rintro ed w2 ⟨g2, rfl, hs2, ⟨t', h2⟩, hc2⟩
       have kt2 := hc2.cell (p := ⟨w.heap.size, 0, none⟩) kt1 (fun hk => by have h9 := (HOL.out w.heap.size (.inr (.inl hk))).2; omega)
       have HS2 := Lib.hid hs2
       have H2 := Lib.hid h2
       have HC2 := Lib.hid hc2
       clear hs2 h2 hc2 kt kt1 kb1)
    | (go_at_call 67; refine (HJ.out _ g2 HS2.out).mono ?_; rintro ed w3 ⟨rfl, hb3⟩
       have H3 := Lib.hid (H2.out.below hb3)
       have kt3 := (hb3.cell (p := ⟨w.heap.size, 0, none⟩) (World.block_lt_of_cell? w2 _ kt2)).trans kt2
       have HB3 := Lib.hid hb3
       clear hb3 kt2))
  obtain ⟨kb, hK, kc0, kf0, hkl, hkne, hed, hch⟩ := H3.out.k0' (r := r) HKS.out (seg (m.p ++ m.s) a e ++ k0)
  have k2 : w3.cell? ⟨b, 2, none⟩ = some (.slice (some ⟨kb, 0, none⟩) m.ks.length c.kc) := by
    have h9 := H3.out.cells.2.1
    rw [hK] at h9
    exact h9
  have hst := H3.out.st
  have hkne' : ¬ b = kb := fun e => hkne e.symm
  have k4 : w3.cell? ⟨b, 4, none⟩ = some (.bool m.kd) := hst.cell 4
  have f4 := hst.frozen 4
  have hlen : (0 : Int) < (m.ks.length : Int) := by rw [HKS.out]; simp
  have hlenN : 0 < m.ks.length := by omega
  have HED := Lib.hid hed
  have HCH := Lib.hid hch
  unfold flatV at kc0
  obtain ⟨F, hF⟩ : ∃ F, F = k0.flatten := ⟨_, rfl⟩
  rw [← hF] at kc0 hk0
  have hVF := HVF.out
  rw [← hF, ← bytes_app] at hVF
  have HVF2 := Lib.hid hVF
  have hyl := HYL.out
  rw [List.length_cons] at hyl
  have hsum1 : ¬ 9223372036854775807 < ys.length + 1 + F.length := by omega
  have hsum2 : ¬ 9223372036854775807 < F.length + (ys.length + 1) := by omega
  have HKN := Lib.hid hkne
  clear hst hed hch hK hkl kt3 hF hVF hyl hkne
  go_region_law (fail)
  all_goals (go_wp2_with (fail); go_ret)
  all_goals
    have h5 := HED.out
    have h6 := HCH.out
    rw [HVF2.out] at h5 h6
    obtain ⟨e6, c6⟩ := h5.kd'
    have hw : Chg (EdOwn b c) w w3 := ((((Chg.of_below HB0.out).trans (Chg.of_below (S := EdOwn b c) HB1.out) (fun _ h => .inl h)).trans HC2.out (fun k hk => .inl (.inr (.inl hk))))).trans (Chg.of_below (S := EdOwn b c) HB3.out) (fun _ h => .inl h)
    exact ⟨rfl, { c with t := t' }, rfl, e6.below ((Below.refl _ _).drew), ((hw.trans h6 (fun k hk => .inl hk)).trans c6 (fun k hk => .inl hk)).drew, fun k hk => .inl hk⟩

set_option maxRecDepth 100000 in
set_option maxHeartbeats 4000000 in
theorem kill_behind {w : World} {lo b most : Nat} {c : EdC} {m : EdM} {k0 : List (List UInt8)} {r : List (List (List UInt8))} (h : EdAt w lo b c most m) (hlo : lo ≤ w.heap.size) (a e : Nat) (hae : a < e) (he : e ≤ ln m.p m.s) (hf : m.p.length = a) (hk : m.ks = k0 :: r) (hk0 : k0.flatten.length ≤ 1000000) (yd : Bool) (ki fr : Int) :
    Calls Tryz.prog 79 #[.pointer (some ⟨b, 1, none⟩), .int .i64 a, .int .i64 e, .agg #[.bool true, .bool yd, .int .i64 ki, .int .i64 fr]] w (EdStep w lo b c most (m.killed a e ((k0 ++ seg (m.p ++ m.s) a e) :: r)) true) := by
  have hb0 : Below w.heap.size w (w.alloc (.cells #[.bool true, .bool yd, .int .i64 ki, .int .i64 fr] 48)) := (Below.refl _ w).alloc (Nat.le_refl _) _
  have h0 := h.below hb0
  have hi := seg_is h.buf.is a e
  have hln : ln m.p m.s ≤ 4096 := by have := h.buf.ln_le; have := h.buf.m4; omega
  have hsl := seg_length (l := m.p ++ m.s) (Nat.le_of_lt hae) (by rw [← ln_eq]; exact he)
  have hne : seg (m.p ++ m.s) a e ≠ [] := fun h9 => by rw [h9] at hsl; simp at hsl; omega
  obtain ⟨y, ys, hy⟩ := flat_cons hi hne
  have hfl1 := flat_le (fun c hc => isC_len (hi c hc))
  have hfl : (seg (m.p ++ m.s) a e).flatten.length ≤ 100000000 := by omega
  have hq := fun (W : World) (hW : EdAt W lo b c most m) => edelete_any hW a e hae he (by first | exact .inr hf | exact .inl hf)
  have hcu := fun (W : World) (hW : EdAt W lo b c most m) => (by rw [← hf]; exact gcursor_any hW.buf : Calls Tryz.prog 26 #[.pointer (some ⟨c.g, 0, none⟩)] W fun ed w' => ed = .returned (.int .i64 (a : Nat)) ∧ Below W.heap.size W w')
  have hj := fun (W : World) (g2 : Nat) (hS : Sl W W.heap.size (some ⟨g2, 0, none⟩) (sv (seg (m.p ++ m.s) a e))) => join_any (seg (m.p ++ m.s) a e) (some ⟨g2, 0, none⟩) (e - a) (e - a) W.heap.size hsl.symm (Nat.le_refl _) W hS (Nat.le_refl _) (by omega) hfl
  rw [hy] at hj
  have hyl : (y :: ys).length ≤ 1000000 := by rw [← hy]; omega
  have hVF : flatV (k0 ++ seg (m.p ++ m.s) a e) = .string ⟨(k0.flatten ++ (y :: ys)).toArray⟩ := by unfold flatV; rw [List.flatten_append, hy]
  have HVF := Lib.hid hVF
  have HQ := Lib.hid hq
  have HCU := Lib.hid hcu
  have HJ := Lib.hid hj
  have HB0 := Lib.hid hb0
  have H0 := Lib.hid h0
  have HOL := Lib.hid h.own_lt
  have HKS := Lib.hid hk
  have HYL := Lib.hid hyl
  have kb := h0.cells.1
  have hea : ¬ (e : Int) = a := by omega
  have kt : (w.alloc (.cells #[.bool true, .bool yd, .int .i64 ki, .int .i64 fr] 48)).cell? ⟨w.heap.size, 0, none⟩ = some (.bool true) := (Blk.new w 48 [.bool true, .bool yd, .int .i64 ki, .int .i64 fr]).cell 0
  clear h hb0 h0 hq hj hi hsl hne hfl hf hy hVF hcu hk hyl hfl1
  go_enter Tryz.func79, Tryz.ntmps79
  go_wp2_with (first
    | (go_at_call 26; refine (HCU.out _ H0.out).mono ?_; rintro ed w1 ⟨rfl, hb1⟩; have H1 := Lib.hid (H0.out.below hb1); have kb1 := H1.out.cells.1; have kt1 := (hb1.cell (p := ⟨w.heap.size, 0, none⟩) (by simp)).trans kt; have HB1 := Lib.hid hb1; clear hb1)
    | (go_at_call 99; refine (HQ.out _ H1.out).mono ?_; rintro ed w2 ⟨g2, rfl, hs2, ⟨t', h2⟩, hc2⟩
       have kt2 := hc2.cell (p := ⟨w.heap.size, 0, none⟩) kt1 (fun hk => by have h9 := (HOL.out w.heap.size (.inr (.inl hk))).2; omega)
       have HS2 := Lib.hid hs2
       have H2 := Lib.hid h2
       have HC2 := Lib.hid hc2
       clear hs2 h2 hc2 kt kt1 kb1)
    | (go_at_call 67; refine (HJ.out _ g2 HS2.out).mono ?_; rintro ed w3 ⟨rfl, hb3⟩
       have H3 := Lib.hid (H2.out.below hb3)
       have kt3 := (hb3.cell (p := ⟨w.heap.size, 0, none⟩) (World.block_lt_of_cell? w2 _ kt2)).trans kt2
       have HB3 := Lib.hid hb3
       clear hb3 kt2
       obtain ⟨kb, hK, kc0, kf0, hkl, hkne, hed, hch⟩ := H3.out.k0' (r := r) HKS.out (k0 ++ seg (m.p ++ m.s) a e)
       have k2 : w3.cell? ⟨b, 2, none⟩ = some (.slice (some ⟨kb, 0, none⟩) m.ks.length c.kc) := by
         have h9 := H3.out.cells.2.1
         rw [hK] at h9
         exact h9
       have hst := H3.out.st
       have hkne' : ¬ b = kb := fun e => hkne e.symm
       have k4 : w3.cell? ⟨b, 4, none⟩ = some (.bool m.kd) := hst.cell 4
       have f4 := hst.frozen 4
       have hlen : (0 : Int) < (m.ks.length : Int) := by rw [HKS.out]; simp
       have hlenN : 0 < m.ks.length := by omega
       have HED := Lib.hid hed
       have HCH := Lib.hid hch
       unfold flatV at kc0
       obtain ⟨F, hF⟩ : ∃ F, F = k0.flatten := ⟨_, rfl⟩
       rw [← hF] at kc0 hk0
       have hVF := HVF.out
       rw [← hF, ← bytes_app] at hVF
       have HVF2 := Lib.hid hVF
       have hyl := HYL.out
       rw [List.length_cons] at hyl
       have hsum1 : ¬ 9223372036854775807 < ys.length + 1 + F.length := by omega
       have hsum2 : ¬ 9223372036854775807 < F.length + (ys.length + 1) := by omega
       have HKN := Lib.hid hkne
       clear hst hed hch hK hkl hF hVF hyl hkne))
  all_goals go_ret
  all_goals
    have h5 := HED.out
    have h6 := HCH.out
    rw [HVF2.out] at h5 h6
    obtain ⟨e6, c6⟩ := h5.kd'
    have hw : Chg (EdOwn b c) w w3 := ((((Chg.of_below HB0.out).trans (Chg.of_below (S := EdOwn b c) HB1.out) (fun _ h => .inl h)).trans HC2.out (fun k hk => .inl (.inr (.inl hk))))).trans (Chg.of_below (S := EdOwn b c) HB3.out) (fun _ h => .inl h)
    exact ⟨rfl, { c with t := t' }, rfl, e6, (hw.trans h6 (fun k hk => .inl hk)).trans c6 (fun k hk => .inl hk), fun k hk => .inl hk⟩
end Go.Proofs.YtfhfhjcdeeepbaaGreatDoor

namespace Go.Proofs.YtfhfhjcdeeepbaaGreatDoor
open Go.RowKit Go.Sort
set_option linter.unusedVariables false
set_option linter.unusedSimpArgs false

theorem EdAt.kill_cell {w : World} {lo b most : Nat} {c : EdC} {m : EdM} (h : EdAt w lo b c most m) {i : Nat} {k : List (List UInt8)} (hk : m.ks[i]? = some k) : ∃ kb, c.K = some ⟨kb, 0, none⟩ ∧ w.cell? ⟨kb, i, none⟩ = some (flatV k) ∧ kb < w.heap.size := by
  have hi : i < m.ks.length := (List.getElem?_eq_some_iff.1 hk).1
  obtain ⟨kb, cur, hK, hbk, hblk, htk, hnc, hcm, hcl⟩ := own_open h.ks (by omega)
  have hcur : cur = kV m.ks ++ cur.drop (m.ks.length * 1) := by rw [← htk, List.take_append_drop]
  refine ⟨kb, hK, ?_, hblk.lt⟩
  rw [hblk.cell, hcur, List.getElem?_append_left (by rw [kV_length]; exact hi)]
  simp [kV, hk]
/-- what a yank leaves -/
def EdM.yanked (m : EdM) (i fr : Nat) (k : List (List UInt8)) : EdM := { m with p := m.p.take fr ++ k, kd := false, yd := true, ki := i, fr := fr }
/-- the trace is set -/
theorem EdAt.tr' {w w' : World} {lo b most : Nat} {c : EdC} {m : EdM} (h : EdAt w lo b c most m) (i fr : Nat) (hb : Blk w' b 52 (edc b c { m with kd := false, yd := true, ki := i, fr := fr })) (hc : Chg (one b) w w') : EdAt w' lo b c most { m with kd := false, yd := true, ki := i, fr := fr } :=
  ⟨hb, h.buf.keep hc (fun k hk' e => h.b_gp ((show k = b from e) ▸ hk')), own_chg h.ks hc (fun k hk' e => h.b_K ((show k = b from e) ▸ hk')), own_chg h.ps hc (fun k hk' e => h.b_Q ((show k = b from e) ▸ hk')), h.ap, h.lo⟩
/-- Deleting up to the cursor. -/
theorem edel_cur {w : World} {lo b most : Nat} {c : EdC} {m : EdM} (h : EdAt w lo b c most m) (a : Nat) (ha : a ≤ m.p.length) :
    Calls Tryz.prog 99 #[.pointer (some ⟨c.g, 0, none⟩), .int .i64 a, .int .i64 (m.p.length : Nat)] w fun e w' => (∃ v, e = .returned v) ∧ (∃ t', EdAt w' lo b { c with t := t' } most { m with p := m.p.take a }) ∧ Chg (GpOwn c.g c.A) w w' := by
  have hL : m.p.length ≤ ln m.p m.s := by unfold ln; omega
  rcases Nat.lt_or_ge a m.p.length with hlt | hge
  · refine (edelete_any h a m.p.length hlt hL (.inr rfl)).mono ?_
    rintro e w' ⟨g2, rfl, hs, ⟨t', h1⟩, hc⟩
    refine ⟨⟨_, rfl⟩, ⟨t', ?_⟩, hc⟩
    rwa [List.take_append_of_le_length (Nat.le_of_lt hlt), List.drop_left] at h1
  · have : a = m.p.length := by omega
    subst this
    refine (gdelete_no h.buf m.p.length m.p.length (Nat.le_refl _)).mono ?_
    rintro e w' ⟨rfl, hb⟩
    refine ⟨⟨_, rfl⟩, ⟨c.t, ?_⟩, Chg.of_below hb⟩
    rw [List.take_length]
    exact h.below hb

set_option maxRecDepth 100000 in
set_option maxHeartbeats 4000000 in
theorem yank_no {w : World} {lo b most : Nat} {c : EdC} {m : EdM} (h : EdAt w lo b c most m) (hT : TL lo w) (i fr : Nat) (k : List (List UInt8)) (hk : m.ks[i]? = some k) (hki : ∀ x ∈ k, isC x = true) (hk4 : k.length ≤ 4096) (hfr : fr ≤ m.p.length) (hr : most - ln m.p m.s + (m.p.length - fr) < k.length) :
    Calls Tryz.prog 80 #[.pointer (some ⟨b, 1, none⟩), .int .i64 i, .int .i64 fr] w (EdStep w lo b c most m false) := by
  obtain ⟨kb, hK, hkc, hkl⟩ := h.kill_cell hk
  have hi : i < m.ks.length := (List.getElem?_eq_some_iff.1 hk).1
  have k2 : w.cell? ⟨b, 2, none⟩ = some (.slice (some ⟨kb, 0, none⟩) m.ks.length c.kc) := by
    have h9 := h.cells.2.1
    rw [hK] at h9
    exact h9
  have kb1 := h.cells.1
  have hfl := flat_le (fun c hc => isC_len (hki c hc))
  have hq := ccut_any ⟨(k.flatten).toArray⟩ (by rw [size_of]; omega) w hT.tb
  have hback := cut_back hki
  have hclen : (cls (rs k.flatten)).length = k.length := by rw [← congrArg List.length hback, List.length_map]
  rw [show (⟨(k.flatten).toArray⟩ : ByteArray).data.toList = k.flatten from rfl, hclen, hback] at hq
  unfold flatV at hkc
  have hii : (i : Int) < (m.ks.length : Int) := by omega
  have hLf : ln m.p m.s = m.p.length + m.s.length := rfl
  have hle := h.buf.ln_le
  have hm4 := h.buf.m4
  have h1i : (k.length : Int) > ((most - ln m.p m.s : Nat) : Int) + (m.p.length : Int) - (fr : Int) := by omega
  have hw1 : IntKind.i64.wrap (((most - ln m.p m.s : Nat) : Int) + (m.p.length : Int)) = ((most - ln m.p m.s : Nat) : Int) + (m.p.length : Int) := IntWalk.i64_in _ (by omega)
  have hw2 : IntKind.i64.wrap (((most - ln m.p m.s : Nat) : Int) + (m.p.length : Int) - (fr : Int)) = ((most - ln m.p m.s : Nat) : Int) + (m.p.length : Int) - (fr : Int) := IntWalk.i64_in _ (by omega)
  have hroom := fun (W : World) (hW : EdAt W lo b c most m) => groom_any hW.buf
  have hcur := fun (W : World) (hW : EdAt W lo b c most m) => gcursor_any hW.buf
  have hlob := h.lo
  have HQ := Lib.hid hq
  have H := Lib.hid h
  have HT := Lib.hid hT
  have HLT := Lib.hid h.st.lt
  have HOL := Lib.hid h.own_lt
  have HR := Lib.hid hroom
  have HC := Lib.hid hcur
  clear h hK hT hk hki hfr hr hi hfl hq hback hclen hLf hle hm4 hroom hcur
  generalize most - ln m.p m.s = r at *
  generalize hf : m.p.length = f at *
  clear hf
  go_enter Tryz.func80, Tryz.ntmps80
  go_wp2_with (go_at_call 46; refine HQ.out.mono ?_; rintro e w2 ⟨A2, c2, rfl, ho2, hb2⟩; have H2 := Lib.hid (H.out.below hb2); have HO2 := Lib.hid ho2; have HB2 := Lib.hid hb2; clear ho2 hb2)
  clear k2 hkc
  have kq := cell_regrown H2.out.cells.1
  have Q1 := Lib.hid (fun d os => Calls.regrown_of (HR.out _ (H2.out.below (below_regrown _ d os))))
  have Q2 := Lib.hid (fun d os => Calls.regrown_of (HC.out _ (H2.out.below (below_regrown _ d os))))
  refine region_below0 (by kernel_rfl) (by kernel_rfl) ?_
  repeat (first
    | go_big_quiet_step (first | exact Q1.out _ _ | exact Q2.out _ _)
    | quiet_step (first | exact Q1.out _ _ | exact Q2.out _ _))
  refine wpQuiet_nil ?_
  intro _ hw'
  obtain ⟨⟨dq, osq⟩, hw''⟩ := hw'
  subst hw''
  have HBQ := Lib.hid (below_regrown w2 dq osq)
  clear Q1 Q2 kq kb1
  generalize grow (redrawn w2 dq) osq = w3 at *
  go_wp2_with (fail)
  go_ret
  exact EdStep.of_below H.out (HB2.out.trans (HBQ.out.mono HB2.out.size))

set_option maxRecDepth 100000 in
set_option maxHeartbeats 4000000 in
theorem yank_yes {w : World} {lo b most : Nat} {c : EdC} {m : EdM} (h : EdAt w lo b c most m) (hT : TL lo w) (i fr : Nat) (k : List (List UInt8)) (hk : m.ks[i]? = some k) (hki : ∀ x ∈ k, isC x = true) (hk4 : k.length ≤ 4096) (hfr : fr ≤ m.p.length) (hr : k.length ≤ most - ln m.p m.s + (m.p.length - fr)) :
    Calls Tryz.prog 80 #[.pointer (some ⟨b, 1, none⟩), .int .i64 i, .int .i64 fr] w (EdStep w lo b c most (m.yanked i fr k) true) := by
  obtain ⟨kb, hK, hkc, hkl⟩ := h.kill_cell hk
  have hi : i < m.ks.length := (List.getElem?_eq_some_iff.1 hk).1
  have k2 : w.cell? ⟨b, 2, none⟩ = some (.slice (some ⟨kb, 0, none⟩) m.ks.length c.kc) := by
    have h9 := h.cells.2.1
    rw [hK] at h9
    exact h9
  have kb1 := h.cells.1
  have hfl := flat_le (fun c hc => isC_len (hki c hc))
  have hq := ccut_any ⟨(k.flatten).toArray⟩ (by rw [size_of]; omega) w hT.tb
  have hback := cut_back hki
  have hclen : (cls (rs k.flatten)).length = k.length := by rw [← congrArg List.length hback, List.length_map]
  rw [show (⟨(k.flatten).toArray⟩ : ByteArray).data.toList = k.flatten from rfl, hclen, hback] at hq
  unfold flatV at hkc
  have hii : (i : Int) < (m.ks.length : Int) := by omega
  have hLf : ln m.p m.s = m.p.length + m.s.length := rfl
  have hle := h.buf.ln_le
  have hm4 := h.buf.m4
  have h1i : ¬ (k.length : Int) > ((most - ln m.p m.s : Nat) : Int) + (m.p.length : Int) - (fr : Int) := by omega
  have hw1 : IntKind.i64.wrap (((most - ln m.p m.s : Nat) : Int) + (m.p.length : Int)) = ((most - ln m.p m.s : Nat) : Int) + (m.p.length : Int) := IntWalk.i64_in _ (by omega)
  have hw2 : IntKind.i64.wrap (((most - ln m.p m.s : Nat) : Int) + (m.p.length : Int) - (fr : Int)) = ((most - ln m.p m.s : Nat) : Int) + (m.p.length : Int) - (fr : Int) := IntWalk.i64_in _ (by omega)
  have hroom := fun (W : World) (hW : EdAt W lo b c most m) => groom_any hW.buf
  have hcur := fun (W : World) (hW : EdAt W lo b c most m) => gcursor_any hW.buf
  have hlob := h.lo
  have hdel := fun (W : World) (hW : EdAt W lo b c most m) => edel_cur hW fr hfr
  have hroom2 : k.length ≤ most - ln (m.p.take fr) m.s := by unfold ln; rw [List.length_take]; omega
  have hins := fun (W : World) (t' : Nat) (hW : EdAt W lo b { c with t := t' } most { m with p := m.p.take fr }) (hTW : Tabs W) (X : Option Addr) (d : Nat) (hX : Sl W W.heap.size X (sv k)) (hXg : ∀ b off, X = some ⟨b, off, none⟩ → b ≠ c.g) =>
    ginsert_ok hW.buf hTW k X k.length d rfl (by omega) hX hXg (fun c hc => by have := isC_len (hki c hc); omega) hki hroom2
  have HDEL := Lib.hid hdel
  have HINS := Lib.hid hins
  have HQ := Lib.hid hq
  have H := Lib.hid h
  have HT := Lib.hid hT
  have HLT := Lib.hid h.st.lt
  have HOL := Lib.hid h.own_lt
  have HR := Lib.hid hroom
  have HC := Lib.hid hcur
  clear h hK hT hk hki hfr hr hi hfl hq hback hclen hLf hle hm4 hroom hcur hdel hins hroom2
  generalize most - ln m.p m.s = r at *
  generalize hf : m.p.length = f at *
  clear hf
  go_enter Tryz.func80, Tryz.ntmps80
  go_wp2_with (go_at_call 46; refine HQ.out.mono ?_; rintro e w2 ⟨A2, c2, rfl, ho2, hb2⟩; have H2 := Lib.hid (H.out.below hb2); have HO2 := Lib.hid ho2; have HB2 := Lib.hid hb2; clear ho2 hb2)
  clear k2 hkc
  have kq := cell_regrown H2.out.cells.1
  have Q1 := Lib.hid (fun d os => Calls.regrown_of (HR.out _ (H2.out.below (below_regrown _ d os))))
  have Q2 := Lib.hid (fun d os => Calls.regrown_of (HC.out _ (H2.out.below (below_regrown _ d os))))
  refine region_below0 (by kernel_rfl) (by kernel_rfl) ?_
  repeat (first
    | go_big_quiet_step (first | exact Q1.out _ _ | exact Q2.out _ _)
    | quiet_step (first | exact Q1.out _ _ | exact Q2.out _ _))
  refine wpQuiet_nil ?_
  intro _ hw'
  obtain ⟨⟨dq, osq⟩, hw''⟩ := hw'
  subst hw''
  have HBQ := Lib.hid (below_regrown w2 dq osq)
  clear Q1 Q2 kq kb1
  generalize grow (redrawn w2 dq) osq = w3 at *
  have H3 := Lib.hid (H2.out.below HBQ.out)
  have kb3 := H3.out.cells.1
  have HB3 := Lib.hid (HB2.out.trans (HBQ.out.mono HB2.out.size))
  go_wp2_with (fail)
  go_region_law (first
    | (refine step_call rfl 26 _ _ rfl (enters_of Tryz.func26 (by kernel_rfl) rfl) #[.pointer (some ⟨c.g, 0, none⟩)] (by simp [Act.eval, Act.put]) (HC.out w3.drew (H3.out.below ((Below.refl _ _).drew))) ?_; rintro e w4 ⟨rfl, hb4⟩; refine ⟨_, rfl, ?_⟩; have hb34 : Below w3.heap.size w3 w4 := ((Below.refl _ w3).drew).trans hb4; have H4 := Lib.hid (H3.out.below hb34); have kb4 := H4.out.cells.1; have HB34 := Lib.hid hb34; clear hb4 hb34)
    | (refine step_call rfl 99 _ _ rfl (enters_of Tryz.func99 (by kernel_rfl) rfl) #[.pointer (some ⟨c.g, 0, none⟩), .int .i64 fr, .int .i64 f] (by simp [Act.eval, Act.put]) (HDEL.out _ H4.out) ?_; rintro e w5 ⟨⟨v, rfl⟩, ⟨t', h5⟩, hc5⟩; refine ⟨_, rfl, ?_⟩; have H5 := Lib.hid h5; have kb5 := H5.out.cells.1; have HC5 := Lib.hid hc5; clear h5 hc5))
  all_goals
    clear kb4
    have hc35 : Chg (EdOwn b c) w w5 := (((Chg.of_below HB3.out).trans (Chg.of_below (S := EdOwn b c) HB34.out) (fun _ h => .inl h))).trans HC5.out (fun k hk => .inl (.inr (.inl hk)))
    have hT5 : TL lo w5 := HT.out.chg hc35 (fun k hk => (HOL.out k hk).1)
    have hA2 : ∀ j, blk A2 = some j → w.heap.size ≤ j := fun j hj => (HO2.out.blk_lt j hj).1
    have hsl5 : Sl w5 w5.heap.size A2 (sv k) := (HC5.out.sl (((HO2.out.sl.below HBQ.out).more HBQ.out.size).below HB34.out |>.more HB34.out.size) (Nat.le_refl _) (fun j off e hj => by have h1 := (HOL.out j (.inr (.inl hj))).2; have h2 := hA2 j (by rw [e]; rfl); omega)).more HC5.out.size
    have hXg : ∀ j off, A2 = some ⟨j, off, none⟩ → j ≠ c.g := fun j off e => by have h1 := (HOL.out c.g (.inr (.inl (.inl rfl)))).2; have h2 := hA2 j (by rw [e]; rfl); omega
    have HC35 := Lib.hid hc35
    have HT5 := Lib.hid hT5
    have HSL5 := Lib.hid hsl5
    have HXG := Lib.hid hXg
    clear hc35 hT5 hA2 hsl5 hXg
    go_wp2_with (go_at_call 70; refine (HINS.out _ t' H5.out HT5.out.tb A2 c2 HSL5.out HXG.out).mono ?_; rintro e w6 ⟨rfl, A6, n6, C6, t6, hg6, hc6, hk6⟩
                 obtain ⟨h6, hch6, hko6⟩ := H5.out.buf' hg6 hc6 hk6
                 have hst := h6.st
                 have c4 : w6.cell? ⟨b, 4, none⟩ = some (.bool m.kd) := hst.cell 4
                 have c5 : w6.cell? ⟨b, 5, none⟩ = some (.bool m.yd) := hst.cell 5
                 have c6 : w6.cell? ⟨b, 6, none⟩ = some (.int .i64 m.ki) := hst.cell 6
                 have c7 : w6.cell? ⟨b, 7, none⟩ = some (.int .i64 m.fr) := hst.cell 7
                 have f4 := hst.frozen 4
                 have f5 := hst.frozen 5
                 have f6 := hst.frozen 6
                 have f7 := hst.frozen 7
                 have H6 := Lib.hid h6
                 have HCH6 := Lib.hid hch6
                 have HKO6 := Lib.hid hko6
                 clear hg6 hc6 hk6 h6 hch6 hko6 hst)
    go_ret
    have hb7 := (((H6.out.st.set_ 4 (.bool false)).set_ 5 (.bool true)).set_ 6 (.int .i64 i)).set_ 7 (.int .i64 fr)
    have hc7 : Chg (one b) w6 ((((w6.setCell ⟨b, 4, none⟩ (.bool false)).setCell ⟨b, 5, none⟩ (.bool true)).setCell ⟨b, 6, none⟩ (.int .i64 i)).setCell ⟨b, 7, none⟩ (.int .i64 fr)) :=
      ((((Chg.refl (one b) w6).setCell (p := ⟨b, 4, none⟩) (.inl rfl) _).setCell (p := ⟨b, 5, none⟩) (.inl rfl) _).setCell (p := ⟨b, 6, none⟩) (.inl rfl) _).setCell (p := ⟨b, 7, none⟩) (.inl rfl) _
    have e7 := H6.out.tr' i fr hb7 hc7
    exact ⟨rfl, { c with A := A6, n := n6, C := C6, t := t6 }, rfl, e7, (HC35.out.trans HCH6.out (fun k hk => .inl hk)).trans hc7 (fun k e => .inl (.inl e)), fun k hk => (HKO6.out k hk).imp id (fun h => Nat.le_trans HC35.out.size h)⟩
end Go.Proofs.YtfhfhjcdeeepbaaGreatDoor

namespace Go.Proofs.YtfhfhjcdeeepbaaGreatDoor
open Go.RowKit Go.Sort
set_option linter.unusedVariables false
set_option linter.unusedSimpArgs false

def trc (kd yd : Bool) (ki fr : Int) : List Value := [.bool kd, .bool yd, .int .i64 ki, .int .i64 fr]
theorem trc_new (w : World) (kd yd : Bool) (ki fr : Int) : Below w.heap.size w (w.alloc (.cells #[.bool kd, .bool yd, .int .i64 ki, .int .i64 fr] 48)) ∧ Blk (w.alloc (.cells #[.bool kd, .bool yd, .int .i64 ki, .int .i64 fr] 48)) w.heap.size 48 (trc kd yd ki fr) :=
  ⟨(Below.refl _ _).alloc (Nat.le_refl _) _, Blk.new w 48 [.bool kd, .bool yd, .int .i64 ki, .int .i64 fr]⟩
theorem blk_bel {w w' : World} {b : Nat} {T : TypeId} {cs : List Value} (h : Blk w b T cs) (hb : Below w.heap.size w w') : Blk w' b T cs := h.below hb h.lt
theorem EdR.chain {w w1 : World} {lo b most : Nat} {c : EdC} {m : EdM} {w' : World} (hb : Below w.heap.size w w1) (h : EdR w1 lo b c most m w') : EdR w lo b c most m w' := h.via hb

set_option maxRecDepth 100000 in
set_option maxHeartbeats 4000000 in
theorem change_9 {w : World} {lo b most : Nat} {c : EdC} {m m1 : EdM} {d : Bool} (h : EdAt w lo b c most m) (kd yd : Bool) (ki fr : Int)
    (hkill : ∀ W, Below w.heap.size w W → Calls Tryz.prog 79 #[.pointer (some ⟨b, 1, none⟩), .int .i64 (m.p.length : Nat), .int .i64 (ln m.p m.s : Nat), .agg #[.bool kd, .bool yd, .int .i64 ki, .int .i64 fr]] W (EdStep W lo b c most m1 d)) :
    Calls Tryz.prog 57 #[.pointer (some ⟨b, 1, none⟩), .int .i64 9, .agg #[.bool kd, .bool yd, .int .i64 ki, .int .i64 fr]] w (EdStep w lo b c most m1 d) := by
  obtain ⟨hb0, ht0⟩ := trc_new w kd yd ki fr
  have hcur := fun (W : World) (hW : EdAt W lo b c most m) => gcursor_any hW.buf
  have hq := fun (W : World) (hW : EdAt W lo b c most m) => glen_any hW.buf
  have HQ := Lib.hid hq
  have H0 := Lib.hid (h.below hb0)
  have HB0 := Lib.hid hb0
  have HT0 := Lib.hid ht0
  have HC := Lib.hid hcur
  have HK := Lib.hid hkill
  have kb0 := H0.out.cells.1
  clear h hb0 ht0 hcur hkill hq
  go_enter Tryz.func57, Tryz.ntmps57
  go_wp2_with (first
    | (go_at_call 26; refine (HC.out _ H0.out).mono ?_; rintro e w1 ⟨rfl, hb1⟩
       have H1 := Lib.hid (H0.out.below hb1)
       have ht1 := blk_bel HT0.out hb1
       have kb1 := H1.out.cells.1
       have z0 : w1.cell? ⟨w.heap.size, 0, none⟩ = some (.bool kd) := ht1.cell 0
       have z1 : w1.cell? ⟨w.heap.size, 1, none⟩ = some (.bool yd) := ht1.cell 1
       have z2 : w1.cell? ⟨w.heap.size, 2, none⟩ = some (.int .i64 ki) := ht1.cell 2
       have z3 : w1.cell? ⟨w.heap.size, 3, none⟩ = some (.int .i64 fr) := ht1.cell 3
       have HT1 := Lib.hid ht1
       have HB1 := Lib.hid (HB0.out.trans (hb1.mono HB0.out.size))
       clear hb1 ht1 kb0))
  go_region_law (first
    | (refine step_call rfl 32 _ _ rfl (enters_of Tryz.func32 (by kernel_rfl) rfl) #[.pointer (some ⟨c.g, 0, none⟩)] (by simp [Act.eval, Act.put]) (HQ.out w1.drew (H1.out.below ((Below.refl _ _).drew))) ?_; rintro e w2 ⟨rfl, hb2⟩; refine ⟨_, rfl, ?_⟩
       have hb12 : Below w1.heap.size w1 w2 := ((Below.refl _ w1).drew).trans hb2
       have ht2 := blk_bel HT1.out hb12
       have y0 : w2.cell? ⟨w.heap.size, 0, none⟩ = some (.bool kd) := ht2.cell 0
       have y1 : w2.cell? ⟨w.heap.size, 1, none⟩ = some (.bool yd) := ht2.cell 1
       have y2 : w2.cell? ⟨w.heap.size, 2, none⟩ = some (.int .i64 ki) := ht2.cell 2
       have y3 : w2.cell? ⟨w.heap.size, 3, none⟩ = some (.int .i64 fr) := ht2.cell 3
       have HB2 := Lib.hid (HB1.out.trans (hb12.mono HB1.out.size))
       clear hb2 hb12 ht2)
    | (refine step_call rfl 79 _ _ rfl (enters_of Tryz.func79 (by kernel_rfl) rfl) #[.pointer (some ⟨b, 1, none⟩), .int .i64 (m.p.length : Nat), .int .i64 (ln m.p m.s : Nat), .agg #[.bool kd, .bool yd, .int .i64 ki, .int .i64 fr]] (by simp [Act.eval, Act.put]) (HK.out _ HB2.out) ?_; rintro e w3 ⟨rfl, hr⟩; refine ⟨_, rfl, ?_⟩; have HR := Lib.hid (EdR.via HB2.out hr); clear hr))
  all_goals (go_wp2_with (fail); go_ret; exact ⟨rfl, HR.out⟩)

set_option maxRecDepth 100000 in
set_option maxHeartbeats 4000000 in
theorem change_11 {w : World} {lo b most : Nat} {c : EdC} {m m1 : EdM} {d : Bool} (h : EdAt w lo b c most m) (kd yd : Bool) (ki fr : Int)
    (hkill : ∀ W, Below w.heap.size w W → Calls Tryz.prog 79 #[.pointer (some ⟨b, 1, none⟩), .int .i64 (m.p.length : Nat), .int .i64 (m.p.length + wr m.s : Nat), .agg #[.bool kd, .bool yd, .int .i64 ki, .int .i64 fr]] W (EdStep W lo b c most m1 d)) :
    Calls Tryz.prog 57 #[.pointer (some ⟨b, 1, none⟩), .int .i64 11, .agg #[.bool kd, .bool yd, .int .i64 ki, .int .i64 fr]] w (EdStep w lo b c most m1 d) := by
  obtain ⟨hb0, ht0⟩ := trc_new w kd yd ki fr
  have hcur := fun (W : World) (hW : EdAt W lo b c most m) => gcursor_any hW.buf
  have hq := fun (W : World) (hW : EdAt W lo b c most m) => lwordr_any hW.buf
  have HQ := Lib.hid hq
  have H0 := Lib.hid (h.below hb0)
  have HB0 := Lib.hid hb0
  have HT0 := Lib.hid ht0
  have HC := Lib.hid hcur
  have HK := Lib.hid hkill
  have kb0 := H0.out.cells.1
  clear h hb0 ht0 hcur hkill hq
  go_enter Tryz.func57, Tryz.ntmps57
  go_wp2_with (first
    | (go_at_call 26; refine (HC.out _ H0.out).mono ?_; rintro e w1 ⟨rfl, hb1⟩
       have H1 := Lib.hid (H0.out.below hb1)
       have ht1 := blk_bel HT0.out hb1
       have kb1 := H1.out.cells.1
       have z0 : w1.cell? ⟨w.heap.size, 0, none⟩ = some (.bool kd) := ht1.cell 0
       have z1 : w1.cell? ⟨w.heap.size, 1, none⟩ = some (.bool yd) := ht1.cell 1
       have z2 : w1.cell? ⟨w.heap.size, 2, none⟩ = some (.int .i64 ki) := ht1.cell 2
       have z3 : w1.cell? ⟨w.heap.size, 3, none⟩ = some (.int .i64 fr) := ht1.cell 3
       have HT1 := Lib.hid ht1
       have HB1 := Lib.hid (HB0.out.trans (hb1.mono HB0.out.size))
       clear hb1 ht1 kb0))
  go_region_law (first
    | (refine step_call rfl 54 _ _ rfl (enters_of Tryz.func54 (by kernel_rfl) rfl) #[.agg #[.pointer (some ⟨c.g, 0, none⟩)]] (by simp [Act.eval, Act.put]) (HQ.out w1.drew (H1.out.below ((Below.refl _ _).drew))) ?_; rintro e w2 ⟨rfl, hb2⟩; refine ⟨_, rfl, ?_⟩
       have hb12 : Below w1.heap.size w1 w2 := ((Below.refl _ w1).drew).trans hb2
       have ht2 := blk_bel HT1.out hb12
       have y0 : w2.cell? ⟨w.heap.size, 0, none⟩ = some (.bool kd) := ht2.cell 0
       have y1 : w2.cell? ⟨w.heap.size, 1, none⟩ = some (.bool yd) := ht2.cell 1
       have y2 : w2.cell? ⟨w.heap.size, 2, none⟩ = some (.int .i64 ki) := ht2.cell 2
       have y3 : w2.cell? ⟨w.heap.size, 3, none⟩ = some (.int .i64 fr) := ht2.cell 3
       have HB2 := Lib.hid (HB1.out.trans (hb12.mono HB1.out.size))
       clear hb2 hb12 ht2)
    | (refine step_call rfl 79 _ _ rfl (enters_of Tryz.func79 (by kernel_rfl) rfl) #[.pointer (some ⟨b, 1, none⟩), .int .i64 (m.p.length : Nat), .int .i64 (m.p.length + wr m.s : Nat), .agg #[.bool kd, .bool yd, .int .i64 ki, .int .i64 fr]] (by simp [Act.eval, Act.put]) (HK.out _ HB2.out) ?_; rintro e w3 ⟨rfl, hr⟩; refine ⟨_, rfl, ?_⟩; have HR := Lib.hid (EdR.via HB2.out hr); clear hr))
  all_goals (go_wp2_with (fail); go_ret; exact ⟨rfl, HR.out⟩)

set_option maxRecDepth 100000 in
set_option maxHeartbeats 4000000 in
theorem change_12 {w : World} {lo b most : Nat} {c : EdC} {m m1 : EdM} {d : Bool} (h : EdAt w lo b c most m) (kd yd : Bool) (ki fr : Int)
    (hkill : ∀ W, Below w.heap.size w W → Calls Tryz.prog 79 #[.pointer (some ⟨b, 1, none⟩), .int .i64 (m.p.length - wl m.p : Nat), .int .i64 (m.p.length : Nat), .agg #[.bool kd, .bool yd, .int .i64 ki, .int .i64 fr]] W (EdStep W lo b c most m1 d)) :
    Calls Tryz.prog 57 #[.pointer (some ⟨b, 1, none⟩), .int .i64 12, .agg #[.bool kd, .bool yd, .int .i64 ki, .int .i64 fr]] w (EdStep w lo b c most m1 d) := by
  obtain ⟨hb0, ht0⟩ := trc_new w kd yd ki fr
  have hcur := fun (W : World) (hW : EdAt W lo b c most m) => gcursor_any hW.buf
  have hq := fun (W : World) (hW : EdAt W lo b c most m) => lwordl_any hW.buf
  have HQ := Lib.hid hq
  have H0 := Lib.hid (h.below hb0)
  have HB0 := Lib.hid hb0
  have HT0 := Lib.hid ht0
  have HC := Lib.hid hcur
  have HK := Lib.hid hkill
  have kb0 := H0.out.cells.1
  clear h hb0 ht0 hcur hkill hq
  go_enter Tryz.func57, Tryz.ntmps57
  go_wp2_with (first
    | (go_at_call 26; refine (HC.out _ H0.out).mono ?_; rintro e w1 ⟨rfl, hb1⟩
       have H1 := Lib.hid (H0.out.below hb1)
       have ht1 := blk_bel HT0.out hb1
       have kb1 := H1.out.cells.1
       have z0 : w1.cell? ⟨w.heap.size, 0, none⟩ = some (.bool kd) := ht1.cell 0
       have z1 : w1.cell? ⟨w.heap.size, 1, none⟩ = some (.bool yd) := ht1.cell 1
       have z2 : w1.cell? ⟨w.heap.size, 2, none⟩ = some (.int .i64 ki) := ht1.cell 2
       have z3 : w1.cell? ⟨w.heap.size, 3, none⟩ = some (.int .i64 fr) := ht1.cell 3
       have HT1 := Lib.hid ht1
       have HB1 := Lib.hid (HB0.out.trans (hb1.mono HB0.out.size))
       clear hb1 ht1 kb0))
  go_region_law (first
    | (refine step_call rfl 53 _ _ rfl (enters_of Tryz.func53 (by kernel_rfl) rfl) #[.agg #[.pointer (some ⟨c.g, 0, none⟩)]] (by simp [Act.eval, Act.put]) (HQ.out w1.drew (H1.out.below ((Below.refl _ _).drew))) ?_; rintro e w2 ⟨rfl, hb2⟩; refine ⟨_, rfl, ?_⟩
       have hb12 : Below w1.heap.size w1 w2 := ((Below.refl _ w1).drew).trans hb2
       have ht2 := blk_bel HT1.out hb12
       have y0 : w2.cell? ⟨w.heap.size, 0, none⟩ = some (.bool kd) := ht2.cell 0
       have y1 : w2.cell? ⟨w.heap.size, 1, none⟩ = some (.bool yd) := ht2.cell 1
       have y2 : w2.cell? ⟨w.heap.size, 2, none⟩ = some (.int .i64 ki) := ht2.cell 2
       have y3 : w2.cell? ⟨w.heap.size, 3, none⟩ = some (.int .i64 fr) := ht2.cell 3
       have HB2 := Lib.hid (HB1.out.trans (hb12.mono HB1.out.size))
       clear hb2 hb12 ht2)
    | (refine step_call rfl 79 _ _ rfl (enters_of Tryz.func79 (by kernel_rfl) rfl) #[.pointer (some ⟨b, 1, none⟩), .int .i64 (m.p.length - wl m.p : Nat), .int .i64 (m.p.length : Nat), .agg #[.bool kd, .bool yd, .int .i64 ki, .int .i64 fr]] (by simp [Act.eval, Act.put]) (HK.out _ HB2.out) ?_; rintro e w3 ⟨rfl, hr⟩; refine ⟨_, rfl, ?_⟩; have HR := Lib.hid (EdR.via HB2.out hr); clear hr))
  all_goals (go_wp2_with (fail); go_ret; exact ⟨rfl, HR.out⟩)

set_option maxRecDepth 100000 in
set_option maxHeartbeats 4000000 in
theorem change_10 {w : World} {lo b most : Nat} {c : EdC} {m m1 : EdM} {d : Bool} (h : EdAt w lo b c most m) (kd yd : Bool) (ki fr : Int)
    (hkill : ∀ W, Below w.heap.size w W → Calls Tryz.prog 79 #[.pointer (some ⟨b, 1, none⟩), .int .i64 (0 : Nat), .int .i64 (m.p.length : Nat), .agg #[.bool kd, .bool yd, .int .i64 ki, .int .i64 fr]] W (EdStep W lo b c most m1 d)) :
    Calls Tryz.prog 57 #[.pointer (some ⟨b, 1, none⟩), .int .i64 10, .agg #[.bool kd, .bool yd, .int .i64 ki, .int .i64 fr]] w (EdStep w lo b c most m1 d) := by
  obtain ⟨hb0, ht0⟩ := trc_new w kd yd ki fr
  have hcur := fun (W : World) (hW : EdAt W lo b c most m) => gcursor_any hW.buf
  have H0 := Lib.hid (h.below hb0)
  have HB0 := Lib.hid hb0
  have HT0 := Lib.hid ht0
  have HC := Lib.hid hcur
  have HK := Lib.hid hkill
  have kb0 := H0.out.cells.1
  clear h hb0 ht0 hcur hkill
  go_enter Tryz.func57, Tryz.ntmps57
  go_wp2_with (first
    | (go_at_call 26; refine (HC.out _ H0.out).mono ?_; rintro e w1 ⟨rfl, hb1⟩
       have H1 := Lib.hid (H0.out.below hb1)
       have ht1 := blk_bel HT0.out hb1
       have kb1 := H1.out.cells.1
       have z0 : w1.cell? ⟨w.heap.size, 0, none⟩ = some (.bool kd) := ht1.cell 0
       have z1 : w1.cell? ⟨w.heap.size, 1, none⟩ = some (.bool yd) := ht1.cell 1
       have z2 : w1.cell? ⟨w.heap.size, 2, none⟩ = some (.int .i64 ki) := ht1.cell 2
       have z3 : w1.cell? ⟨w.heap.size, 3, none⟩ = some (.int .i64 fr) := ht1.cell 3
       have HT1 := Lib.hid ht1
       have HB1 := Lib.hid (HB0.out.trans (hb1.mono HB0.out.size))
       clear hb1 ht1 kb0)
    | (go_at_call 79; refine (HK.out _ HB1.out).mono ?_; rintro e w3 ⟨rfl, hr⟩; have HR := Lib.hid (EdR.via HB1.out hr); clear hr))
  go_ret
  exact ⟨rfl, HR.out⟩
end Go.Proofs.YtfhfhjcdeeepbaaGreatDoor

namespace Go.Proofs.YtfhfhjcdeeepbaaGreatDoor
open Go.RowKit Go.Sort
set_option linter.unusedVariables false
set_option linter.unusedSimpArgs false

set_option maxRecDepth 100000 in
set_option maxHeartbeats 4000000 in
theorem change_13no {w : World} {lo b most : Nat} {c : EdC} {m m1 : EdM} {d : Bool} (h : EdAt w lo b c most m) (kd yd : Bool) (ki fr : Int) (hks : m.ks = []) :
    Calls Tryz.prog 57 #[.pointer (some ⟨b, 1, none⟩), .int .i64 13, .agg #[.bool kd, .bool yd, .int .i64 ki, .int .i64 fr]] w (EdStep w lo b c most m false) := by
  obtain ⟨hb0, ht0⟩ := trc_new w kd yd ki fr
  have hcur := fun (W : World) (hW : EdAt W lo b c most m) => gcursor_any hW.buf
  have hlen : m.ks.length = 0 := by rw [hks]; rfl
  have hl0 : ¬ (m.ks.length : Int) > 0 := by omega
  have HH := Lib.hid h
  have H0 := Lib.hid (h.below hb0)
  have HB0 := Lib.hid hb0
  have HT0 := Lib.hid ht0
  have HC := Lib.hid hcur
  have kb0 := H0.out.cells.1
  clear h hb0 ht0 hcur hlen hks
  go_enter Tryz.func57, Tryz.ntmps57
  go_wp2_with (first
    | (go_at_call 26; refine (HC.out _ H0.out).mono ?_; rintro e w1 ⟨rfl, hb1⟩
       have H1 := Lib.hid (H0.out.below hb1)
       have ht1 := blk_bel HT0.out hb1
       have kb1 := H1.out.cells.1
       have k21 := H1.out.cells.2.1
       have z0 : w1.cell? ⟨w.heap.size, 0, none⟩ = some (.bool kd) := ht1.cell 0
       have z1 : w1.cell? ⟨w.heap.size, 1, none⟩ = some (.bool yd) := ht1.cell 1
       have z2 : w1.cell? ⟨w.heap.size, 2, none⟩ = some (.int .i64 ki) := ht1.cell 2
       have z3 : w1.cell? ⟨w.heap.size, 3, none⟩ = some (.int .i64 fr) := ht1.cell 3
       have HT1 := Lib.hid ht1
       have HB1 := Lib.hid (HB0.out.trans (hb1.mono HB0.out.size))
       clear hb1 ht1 kb0))
  all_goals go_ret
  all_goals exact EdStep.of_below HH.out HB1.out

set_option maxRecDepth 100000 in
set_option maxHeartbeats 4000000 in
theorem change_13 {w : World} {lo b most : Nat} {c : EdC} {m m1 : EdM} {d : Bool} (h : EdAt w lo b c most m) (kd yd : Bool) (ki fr : Int) (hks : 0 < m.ks.length) (hy : ∀ W, Below w.heap.size w W → Calls Tryz.prog 80 #[.pointer (some ⟨b, 1, none⟩), .int .i64 0, .int .i64 (m.p.length : Nat)] W (EdStep W lo b c most m1 d)) :
    Calls Tryz.prog 57 #[.pointer (some ⟨b, 1, none⟩), .int .i64 13, .agg #[.bool kd, .bool yd, .int .i64 ki, .int .i64 fr]] w (EdStep w lo b c most m1 d) := by
  obtain ⟨hb0, ht0⟩ := trc_new w kd yd ki fr
  have hcur := fun (W : World) (hW : EdAt W lo b c most m) => gcursor_any hW.buf
  have hl0 : (m.ks.length : Int) > 0 := by omega
  have HY := Lib.hid hy
  have H0 := Lib.hid (h.below hb0)
  have HB0 := Lib.hid hb0
  have HT0 := Lib.hid ht0
  have HC := Lib.hid hcur
  have kb0 := H0.out.cells.1
  clear h hb0 ht0 hcur hy
  go_enter Tryz.func57, Tryz.ntmps57
  go_wp2_with (first
    | (go_at_call 26; refine (HC.out _ H0.out).mono ?_; rintro e w1 ⟨rfl, hb1⟩
       have H1 := Lib.hid (H0.out.below hb1)
       have ht1 := blk_bel HT0.out hb1
       have kb1 := H1.out.cells.1
       have k21 := H1.out.cells.2.1
       have z0 : w1.cell? ⟨w.heap.size, 0, none⟩ = some (.bool kd) := ht1.cell 0
       have z1 : w1.cell? ⟨w.heap.size, 1, none⟩ = some (.bool yd) := ht1.cell 1
       have z2 : w1.cell? ⟨w.heap.size, 2, none⟩ = some (.int .i64 ki) := ht1.cell 2
       have z3 : w1.cell? ⟨w.heap.size, 3, none⟩ = some (.int .i64 fr) := ht1.cell 3
       have HT1 := Lib.hid ht1
       have HB1 := Lib.hid (HB0.out.trans (hb1.mono HB0.out.size))
       clear hb1 ht1 kb0)
    | (go_at_call 80; refine (HY.out _ HB1.out).mono ?_; rintro e w3 ⟨rfl, hr⟩; have HR := Lib.hid (EdR.via HB1.out hr); clear hr))
  all_goals go_ret
  all_goals exact ⟨rfl, HR.out⟩

set_option maxRecDepth 100000 in
set_option maxHeartbeats 4000000 in
theorem change_14no {w : World} {lo b most : Nat} {c : EdC} {m m1 : EdM} {d : Bool} (h : EdAt w lo b c most m) (kd yd : Bool) (ki fr : Int) (hno : yd = false ∨ m.ks.length ≤ 1) :
    Calls Tryz.prog 57 #[.pointer (some ⟨b, 1, none⟩), .int .i64 14, .agg #[.bool kd, .bool yd, .int .i64 ki, .int .i64 fr]] w (EdStep w lo b c most m false) := by
  obtain ⟨hb0, ht0⟩ := trc_new w kd yd ki fr
  have hcur := fun (W : World) (hW : EdAt W lo b c most m) => gcursor_any hW.buf
  have HH := Lib.hid h
  have HNO := Lib.hid hno
  have H0 := Lib.hid (h.below hb0)
  have HB0 := Lib.hid hb0
  have HT0 := Lib.hid ht0
  have HC := Lib.hid hcur
  have kb0 := H0.out.cells.1
  clear h hb0 ht0 hcur hno
  go_enter Tryz.func57, Tryz.ntmps57
  go_wp2_with (first
    | (go_at_call 26; refine (HC.out _ H0.out).mono ?_; rintro e w1 ⟨rfl, hb1⟩
       have H1 := Lib.hid (H0.out.below hb1)
       have ht1 := blk_bel HT0.out hb1
       have kb1 := H1.out.cells.1
       have k21 := H1.out.cells.2.1
       have z0 : w1.cell? ⟨w.heap.size, 0, none⟩ = some (.bool kd) := ht1.cell 0
       have z1 : w1.cell? ⟨w.heap.size, 1, none⟩ = some (.bool yd) := ht1.cell 1
       have z2 : w1.cell? ⟨w.heap.size, 2, none⟩ = some (.int .i64 ki) := ht1.cell 2
       have z3 : w1.cell? ⟨w.heap.size, 3, none⟩ = some (.int .i64 fr) := ht1.cell 3
       have HT1 := Lib.hid ht1
       have HB1 := Lib.hid (HB0.out.trans (hb1.mono HB0.out.size))
       clear hb1 ht1 kb0))
  rcases HNO.out with rfl | hl
  · go_quiet (fail)
    go_wp2_with (fail)
    go_ret
    exact EdStep.of_below HH.out (HB1.out.trans ((gp_drewN _ _).mono HB1.out.size))
  · have hl0 : ¬ (m.ks.length : Int) > 1 := by omega
    cases yd
    all_goals
      go_quiet (fail)
      go_wp2_with (fail)
      go_ret
      exact EdStep.of_below HH.out (HB1.out.trans ((gp_drewN _ _).mono HB1.out.size))
end Go.Proofs.YtfhfhjcdeeepbaaGreatDoor

