/-
  Walk: cut of law 13.
  What the calls of EditorYanks leave.
  Walk: EditorYanks.
-/
import Derived.Test.YtfhfhjcdeeepbaaGreatDoorEgZ
import Derived.Test.YtfhfhjcdeeepbaaGreatDoorGfS
namespace Go.Proofs.YtfhfhjcdeeepbaaGreatDoor
open Go.RowKit Go.Sort
set_option linter.unusedVariables false
set_option linter.unusedSimpArgs false

set_option maxHeartbeats 400000 in
theorem ecut_any (s : ByteArray) (hs : s.size ≤ maxLen) (w : World) :
    Calls Tryz.prog 11 #[.string s] w fun e w' => (∃ x : ByteArray, e = .returned (.string x) ∧ x.size ≤ 200) ∧ w = w' := by
  unfold maxLen at hs
  by_cases h : s.size ≤ 200
  · have hi : (s.size : Int) ≤ 200 := by omega
    go_enter Tryz.func11, Tryz.ntmps11
    go_wp2
    go_ret
    exact ⟨⟨_, rfl, by simp; omega⟩, rfl⟩
  · have hi : ¬ (s.size : Int) ≤ 200 := by omega
    have h2 : 200 ≤ s.size := by omega
    go_enter Tryz.func11, Tryz.ntmps11
    go_wp2
    go_ret
    exact ⟨⟨_, rfl, by simp; omega⟩, rfl⟩
end Go.Proofs.YtfhfhjcdeeepbaaGreatDoor

namespace Go.Proofs.YtfhfhjcdeeepbaaGreatDoor
open Go.RowKit Go.Sort
set_option linter.unusedVariables false
set_option linter.unusedSimpArgs false
set_option maxRecDepth 100000

/-- an editor with a line, and no kills -/
def YkS (w : World) (lo b : Nat) (l : List (List UInt8)) : Prop := ∃ c m, EdAt w lo b c 300 m ∧ m.p ++ m.s = l ∧ m.ks = [] ∧ m.kd = false ∧ m.ps.length ≤ 64
theorem YkS.below {w w' : World} {lo b : Nat} {l : List (List UInt8)} (h : YkS w lo b l) (hb : Below w.heap.size w w') : YkS w' lo b l := by
  obtain ⟨c, m, h1, h2⟩ := h
  exact ⟨c, m, h1.below hb, h2⟩
theorem YkS.self {w : World} {lo b : Nat} {l : List (List UInt8)} (h : YkS w lo b l) : w.cell? ⟨b, 0, none⟩ = some (.pointer (some ⟨b, 0, none⟩)) := by
  obtain ⟨c, m, h1, h2⟩ := h
  exact h1.self
theorem YkS.len {w : World} {lo b : Nat} {l : List (List UInt8)} (h : YkS w lo b l) : l.length ≤ 300 := by
  obtain ⟨c, m, h1, h2, _⟩ := h
  rw [← h2, ← ln_eq]
  exact h1.buf.ln_le
theorem noted_p (a m : EdM) : (a.noted m).p = a.p := by unfold EdM.noted; split <;> rfl
theorem noted_s (a m : EdM) : (a.noted m).s = a.s := by unfold EdM.noted; split <;> rfl
theorem noted_ks (a m : EdM) : (a.noted m).ks = a.ks := by unfold EdM.noted; split <;> rfl
theorem noted_kd (a m : EdM) : (a.noted m).kd = a.kd := by unfold EdM.noted; split <;> rfl
theorem noted_ps (a m : EdM) (h : a.ps.length ≤ 64) : (a.noted m).ps.length ≤ 64 := by
  unfold EdM.noted
  split
  · exact h
  · simp; omega
theorem entered_ks (m : EdM) (n : Nat) (x : ByteArray) : (m.entered n x).ks = m.ks ∧ (m.entered n x).kd = m.kd ∧ (m.entered n x).ps = m.ps := by
  unfold EdM.entered
  split <;> exact ⟨rfl, rfl, rfl⟩
def YkI (w : World) (lo b : Nat) (e : Ending) (w' : World) : Prop := (∃ d, e = .returned (.bool d)) ∧ (∃ l, YkS w' lo b l) ∧ Below lo w w'
theorem yk_ins {w : World} {lo b : Nat} {c : EdC} (h : EdAt w lo b c 300 EdM.none) (hT : TL lo w) (hlo : lo ≤ w.heap.size) (x : ByteArray) (hx : x.size ≤ 200) :
    Calls Tryz.prog 10 #[.pointer (some ⟨b, 0, none⟩), .string x] w (YkI w lo b) := by
  refine (einsert_any h hT hlo (by decide) x (by omega)).mono ?_
  rintro e w' ⟨rfl, hr⟩
  obtain ⟨c', h1, h2⟩ := EdR.go h hlo hr
  obtain ⟨k1, k2, k3⟩ := entered_ks EdM.none.begun 300 x
  exact ⟨⟨_, rfl⟩, ⟨_, c', _, h1, rfl, by rw [noted_ks, k1]; rfl, by rw [noted_kd, k2]; rfl, noted_ps _ _ (by rw [k3]; decide)⟩, h2⟩
def YkL (w : World) (lo b : Nat) (l : List (List UInt8)) (e : Ending) (w' : World) : Prop := (∃ d, e = .returned (.bool d)) ∧ YkS w' lo b l ∧ Below lo w w'
theorem yk_left {w : World} {lo b : Nat} {l : List (List UInt8)} (h : YkS w lo b l) (hT : TL lo w) (hlo : lo ≤ w.heap.size) : DoC w b 1 (YkL w lo b l) := by
  obtain ⟨c, m, h1, h2, h3, h4, h5⟩ := h
  refine (edo_any h1 1 (do_left (m1 := m) (d := true) h1 hT hlo)).mono ?_
  rintro e w' ⟨rfl, hr⟩
  obtain ⟨c', k1, k2⟩ := EdR.go h1 hlo hr
  exact ⟨⟨_, rfl⟩, ⟨c', _, k1, by
    show ((m.p ++ m.s).take _) ++ ((m.p ++ m.s).drop _) = l
    rw [List.take_append_drop]; exact h2, h3, rfl, h5⟩, k2⟩
/-- behind a kill -/
def YkM (l : List (List UInt8)) (m : EdM) : Prop := ∃ k, m.ks = [k] ∧ (∀ x ∈ k, isC x = true) ∧ k.length ≤ 4096 ∧ k.length ≤ 300 - ln m.p m.s ∧ m.p ++ (k ++ m.s) = l ∧ m.ps.length ≤ 64
theorem yk_killed {w : World} {lo b : Nat} {c : EdC} {m : EdM} (h : EdAt w lo b c 300 m) (hks : m.ks = []) (hps : m.ps.length ≤ 64) (a e : Nat) (hae : a < e) (he : e ≤ ln m.p m.s) : YkM (m.p ++ m.s) ((m.begun.killed a e (seg (m.p ++ m.s) a e :: m.ks.take 15)).noted m.begun) := by
  have hl := h.buf.ln_le
  have hsl := seg_length (l := m.p ++ m.s) (Nat.le_of_lt hae) (by rw [← ln_eq]; exact he)
  refine ⟨seg (m.p ++ m.s) a e, ?_, seg_is h.buf.is a e, ?_, ?_, ?_, ?_⟩
  · rw [noted_ks, hks]; rfl
  · rw [hsl]; omega
  · rw [noted_p, noted_s, hsl, ln_eq]
    show e - a ≤ 300 - (((m.p ++ m.s).take a) ++ ((m.p ++ m.s).drop e)).length
    rw [List.length_append, List.length_take, List.length_drop]
    rw [ln_eq] at he hl
    omega
  · rw [noted_p, noted_s]
    show ((m.p ++ m.s).take a) ++ (((m.p ++ m.s).drop a).take (e - a) ++ ((m.p ++ m.s).drop e)) = m.p ++ m.s
    have h9 : (m.p ++ m.s).drop e = ((m.p ++ m.s).drop a).drop (e - a) := by rw [List.drop_drop]; congr 1; omega
    rw [h9, List.take_append_drop, List.take_append_drop]
  · exact noted_ps _ _ hps
theorem yk_kill {w : World} {lo b : Nat} {c : EdC} {m : EdM} (h : EdAt w lo b c 300 m) (hks : m.ks = []) (hkd : m.kd = false) (hps : m.ps.length ≤ 64) (hT : TL lo w) (hlo : lo ≤ w.heap.size) (a : Nat) (ha : a < 4) :
    (∃ m', YkM (m.p ++ m.s) m' ∧ DoC w b ((9 + a : Nat) : Int) (EdStep w lo b c 300 m' true)) ∨ DoC w b ((9 + a : Nat) : Int) (EdStep w lo b c 300 m.begun false) := by
  have hk16 : m.ks.length ≤ 16 := by rw [hks]; decide
  match a, ha with
  | 0, _ =>
    by_cases h9 : m.p.length < ln m.p m.s
    · exact .inl ⟨_, yk_killed h hks hps _ _ h9 (Nat.le_refl _), edo_9yes h hT hlo hps hk16 hkd h9⟩
    · exact .inr (edo_9no h hT hlo hps (by have := le_ln1 m; omega))
  | 1, _ =>
    by_cases h9 : 0 < m.p.length
    · exact .inl ⟨_, yk_killed h hks hps _ _ h9 (le_ln1 m), edo_10yes h hT hlo hps hk16 hkd h9⟩
    · exact .inr (edo_10no h hT hlo hps (by omega))
  | 2, _ =>
    by_cases h9 : m.p.length < m.p.length + wr m.s
    · exact .inl ⟨_, yk_killed h hks hps _ _ h9 (le_ln2 m), edo_11yes h hT hlo hps hk16 hkd h9⟩
    · exact .inr (edo_11no h hT hlo hps (by omega))
  | 3, _ =>
    by_cases h9 : m.p.length - wl m.p < m.p.length
    · exact .inl ⟨_, yk_killed h hks hps _ _ h9 (le_ln1 m), edo_12yes h hT hlo hps hk16 hkd h9⟩
    · exact .inr (edo_12no h hT hlo hps (by omega))
theorem yk_yank {w : World} {lo b : Nat} {c : EdC} {m : EdM} {l : List (List UInt8)} (h : EdAt w lo b c 300 m) (hm : YkM l m) (hT : TL lo w) (hlo : lo ≤ w.heap.size) :
    ∃ m', m'.p ++ m'.s = l ∧ DoC w b 13 (EdStep w lo b c 300 m' true) := by
  obtain ⟨k, h1, h2, h3, h4, h5, h6⟩ := hm
  refine ⟨_, ?_, edo_13 h hT hlo h6 h1 h2 h3 h4⟩
  rw [noted_p, noted_s]
  show (m.p.take m.p.length ++ k) ++ m.s = l
  rw [List.take_length, List.append_assoc]
  exact h5
/-- the line is told -/
theorem yk_line {w : World} {lo b most : Nat} {c : EdC} {m : EdM} {l : List (List UInt8)} (h : EdAt w lo b c most m) (hl : m.p ++ m.s = l) :
    Calls Tryz.prog 16 #[.pointer (some ⟨b, 0, none⟩)] w (CatP w l.length (sv l)) := by
  have h9 := eline_any h
  rw [ln_eq, hl] at h9
  exact h9
end Go.Proofs.YtfhfhjcdeeepbaaGreatDoor

namespace Go.Proofs.YtfhfhjcdeeepbaaGreatDoor
open Go.RowKit Go.Sort
set_option linter.unusedVariables false
set_option linter.unusedSimpArgs false

set_option maxRecDepth 100000 in
set_option maxHeartbeats 8000000 in
theorem editorYanks_walk (s : ByteArray) (hs : s.size ≤ maxLen) (x1 x2 : Int) (lo1 : 0 ≤ x1) (hi1 : x1 ≤ 255) (lo2 : 0 ≤ x2) (hi2 : x2 ≤ 255) (w : World) (hT : Tabs w) :
    Calls Tryz.prog 4 #[.string s, .int .u8 x1, .int .u8 x2] w fun e w' => e = .returned (.bool true) ∧ Below w.heap.size w w' := by
  have HT := Lib.hid hT
  clear hT
  go_enter Tryz.func4, Tryz.ntmps4
  go_wp2_with (fail)
  refine (enew_ok 300 (by omega) (by omega) w).mono ?_
  rintro e w1 ⟨b, c1, rfl, h1, hb1⟩
  have HE1 := Lib.hid h1
  have HB1 := Lib.hid hb1
  clear h1 hb1
  go_wp2_with (fail)
  refine (ecut_any s hs w1).mono ?_
  rintro e w2 ⟨⟨x, rfl, hx⟩, rfl⟩
  go_wp2_with (fail)
  refine (yk_ins HE1.out (TL.of HT.out HB1.out) HB1.out.size x hx).mono ?_
  rintro e w2 ⟨⟨d, rfl⟩, ⟨l, hy⟩, hb2⟩
  have HY2 := Lib.hid hy
  have HB2 := Lib.hid (HB1.out.trans hb2)
  clear hy hb2 hs
  go_wp2_with (fail)
  go_loopw [9] (fun v wr => ∃ i : Nat, v = .int .i64 i ∧ i ≤ 40 ∧ YkS wr w.heap.size b l ∧ Below w.heap.size w wr) (fun v _ => 40 - (intOf v).toNat)
  case atStart => exact ⟨0, rfl, by omega, HY2.out, HB2.out⟩
  case round =>
    obtain ⟨i, rfl, hi40, hyr, hbr⟩ := hrel
    have HYr := Lib.hid hyr
    have HBr := Lib.hid hbr
    clear hyr hbr
    by_cases hlt : (i : Int) < x1 % 40
    · have hle : x1 % 40 < 40 := by omega
      go_wp2_with (fail)
      refine (yk_left HYr.out (TL.of HT.out HBr.out) HBr.out.size).mono ?_
      rintro e w3 ⟨⟨d3, rfl⟩, hy, hb3⟩
      have HY3 := Lib.hid hy
      have HB3 := Lib.hid (HBr.out.trans hb3)
      clear hy hb3
      go_wp2_with (fail)
      go_roundw
      case rel => exact ⟨i + 1, by go_num, by omega, HY3.out, HB3.out⟩
      case measure => simp [intOf]; omega
    · obtain ⟨c, m, hem, hml, hks, hkd, hps⟩ := HYr.out
      have hl3 := HYr.out.len
      have hq4 : ∃ q : Nat, q < 4 ∧ x2 % 4 = q := ⟨(x2 % 4).toNat, by omega, by omega⟩
      obtain ⟨q, hq, hxq⟩ := hq4
      have HEm := Lib.hid hem
      have HKS := Lib.hid hks
      have HKD := Lib.hid hkd
      have HPS := Lib.hid hps
      have HML := Lib.hid hml
      have HL3 := Lib.hid hl3
      have HQ := Lib.hid hq
      clear hem hml hks hkd hps hl3 HE1 HB1 HY2 HB2 HYr
      obtain ⟨n, hn⟩ : ∃ n, n = l.length := ⟨_, rfl⟩
      have hline := yk_line HEm.out HML.out
      rw [← hn] at hline
      have HN := Lib.hid hn
      have HLI := Lib.hid hline
      clear hn hline
      go_wp2_with (fail)
      refine HLI.out.mono ?_
      rintro e w3 ⟨A1, n1, rfl, ho1, hb3⟩
      have HE3 := Lib.hid (HEm.out.below hb3)
      have HB3 := Lib.hid (HBr.out.trans (hb3.mono HBr.out.size))
      have HS3 := Lib.hid ho1.sl
      have HA3 : Hid (∀ bb off, A1 = some ⟨bb, off, none⟩ → bb < w3.heap.size ∧ ¬ EdOwn b c bb) := Lib.hid (fun bb off e => by
        have h1 := (ho1.blk_lt bb (by rw [e]; rfl))
        refine ⟨h1.2, fun h => ?_⟩
        have h2 := (HEm.out.own_lt bb h).2
        omega)
      clear ho1 hb3
      go_wp2_with (fail)
      have hv : ∀ (q : Nat) (h : q < 4), ([Value.int .i64 9, Value.int .i64 10, Value.int .i64 11, Value.int .i64 12] : List Value)[q] = Value.int .i64 ((9 + q : Nat) : Int) := by
        intro q h
        match q, h with
        | 0, _ => rfl
        | 1, _ => rfl
        | 2, _ => rfl
        | 3, _ => rfl
      rw [hv q hq]
      have hbx : Below w3.heap.size w3 (w3.alloc (.cells #[.int .i64 9, .int .i64 10, .int .i64 11, .int .i64 12] 30)) := (Below.refl _ w3).alloc (Nat.le_refl _) _
      have HBX := Lib.hid hbx
      have HEX := Lib.hid (HE3.out.below hbx)
      have HSX := Lib.hid ((HS3.out.below hbx).more hbx.size)
      have hkill := yk_kill HEX.out HKS.out HKD.out HPS.out (TL.of HT.out (HB3.out.trans (hbx.mono HB3.out.size))) (Nat.le_trans HB3.out.size hbx.size) q hq
      clear hv hbx
      rcases hkill with ⟨m4, hm4, hdo⟩ | hdo
      · have HM4 := Lib.hid hm4
        rw [HML.out] at HM4
        clear hm4
        refine hdo.mono ?_
        rintro e w4 ⟨rfl, c4, hg, h4, hc4, ho4⟩
        have HS4 := Lib.hid ((hc4.sl (HSX.out) (Nat.le_refl _) (fun bb off e => (HA3.out bb off e).2)).more hc4.size)
        have HA4 : Hid (∀ bb off, A1 = some ⟨bb, off, none⟩ → bb < w4.heap.size ∧ ¬ EdOwn b c4 bb) := Lib.hid (fun bb off e => by
          have h1 := HA3.out bb off e
          have h2 := HBX.out.size
          have h3 := hc4.size
          refine ⟨by omega, fun h => ?_⟩
          rcases ho4 bb h with h9 | h9
          · exact h1.2 h9
          · omega)
        have HE4 := Lib.hid h4
        have HB4 := Lib.hid ((HB3.out.trans (HBX.out.mono HB3.out.size)).trans (hc4.below (Nat.le_trans HB3.out.size HBX.out.size) (fun k hk => (HEX.out.own_lt k hk).1)))
        clear hg h4 hc4 ho4
        obtain ⟨m5, hm5, hdo5⟩ := yk_yank HE4.out HM4.out (TL.of HT.out HB4.out) HB4.out.size
        have HM5 := Lib.hid hm5
        have HDO5 := Lib.hid hdo5
        clear hm5 hdo5 hdo
        go_wp2_with (fail)
        refine HDO5.out.mono ?_
        rintro e w5 ⟨rfl, c5, hg, h5, hc5, ho5⟩
        have HS5 := Lib.hid ((hc5.sl (HS4.out) (Nat.le_refl _) (fun bb off e => (HA4.out bb off e).2)).more hc5.size)
        have HB5 := Lib.hid (HB4.out.trans (hc5.below HB4.out.size (fun k hk => (HE4.out.own_lt k hk).1)))
        have hlj := yk_line h5 HM5.out
        rw [← HN.out] at hlj
        have HLJ := Lib.hid hlj
        clear hg h5 hc5 ho5 hlj
        go_wp2_with (first
          | (go_at_call 16; refine HLJ.out.mono ?_; rintro e w9 ⟨A9, c9, rfl, ho9, hb9⟩; have HB9 := Lib.hid (HB5.out.trans (hb9.mono HB5.out.size)); have HS9 := Lib.hid (HS5.out.below hb9); have HO9 := Lib.hid ho9.sl; have h89 := hb9.size; clear ho9 hb9)
          | (go_at_call 17; refine (sameall_any l n n A9 A1 c9 n1 w9 (by have := HL3.out; omega) HN.out HN.out HO9.out (HS9.out.more h89)).mono ?_; rintro e w10 ⟨rfl, hb10⟩; have HB10 := Lib.hid (HB9.out.trans (hb10.mono HB9.out.size)); clear hb10)
          | (go_at_call 7; refine (eawake_any w10 (HT.out.below HB10.out)).mono ?_; rintro e w12 ⟨rfl, hb12⟩))
        go_ret
        exact ⟨rfl, HB10.out.trans (hb12.mono HB10.out.size)⟩
      · refine hdo.mono ?_
        rintro e w4 ⟨rfl, c4, hg, h4, hc4, ho4⟩
        have HS4 := Lib.hid ((hc4.sl (HSX.out) (Nat.le_refl _) (fun bb off e => (HA3.out bb off e).2)).more hc4.size)
        have HA4 : Hid (∀ bb off, A1 = some ⟨bb, off, none⟩ → bb < w4.heap.size ∧ ¬ EdOwn b c4 bb) := Lib.hid (fun bb off e => by
          have h1 := HA3.out bb off e
          have h2 := HBX.out.size
          have h3 := hc4.size
          refine ⟨by omega, fun h => ?_⟩
          rcases ho4 bb h with h9 | h9
          · exact h1.2 h9
          · omega)
        have HE4 := Lib.hid h4
        have HB4 := Lib.hid ((HB3.out.trans (HBX.out.mono HB3.out.size)).trans (hc4.below (Nat.le_trans HB3.out.size HBX.out.size) (fun k hk => (HEX.out.own_lt k hk).1)))
        clear hg h4 hc4 ho4
        have HS4' := Lib.hid (HS4.out)
        have hlj := yk_line HE4.out (by exact HML.out)
        rw [← HN.out] at hlj
        have HLJ := Lib.hid hlj
        clear hlj hdo
        go_wp2_with (first
          | (go_at_call 16; refine HLJ.out.mono ?_; rintro e w9 ⟨A9, c9, rfl, ho9, hb9⟩; have HB9 := Lib.hid (HB4.out.trans (hb9.mono HB4.out.size)); have HS9 := Lib.hid (HS4.out.below hb9); have HO9 := Lib.hid ho9.sl; have h89 := hb9.size; clear ho9 hb9)
          | (go_at_call 17; refine (sameall_any l n n A9 A1 c9 n1 w9 (by have := HL3.out; omega) HN.out HN.out HO9.out (HS9.out.more h89)).mono ?_; rintro e w10 ⟨rfl, hb10⟩; have HB10 := Lib.hid (HB9.out.trans (hb10.mono HB9.out.size)); clear hb10)
          | (go_at_call 7; refine (eawake_any w10 (HT.out.below HB10.out)).mono ?_; rintro e w12 ⟨rfl, hb12⟩))
        go_ret
        exact ⟨rfl, HB10.out.trans (hb12.mono HB10.out.size)⟩
end Go.Proofs.YtfhfhjcdeeepbaaGreatDoor

