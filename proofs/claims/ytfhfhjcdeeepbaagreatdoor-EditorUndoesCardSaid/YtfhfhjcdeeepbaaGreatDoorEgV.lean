/-
  Walk: EditorUndoes.
  Walk: EditorUndoes.
-/
import Derived.Test.YtfhfhjcdeeepbaaGreatDoorEgU
import Derived.Test.YtfhfhjcdeeepbaaGreatDoorEgY
import Derived.Test.YtfhfhjcdeeepbaaGreatDoorEgW
import Derived.Test.YtfhfhjcdeeepbaaGreatDoorEgZ
namespace Go.Proofs.YtfhfhjcdeeepbaaGreatDoor
open Go.RowKit Go.Sort
set_option linter.unusedVariables false
set_option linter.unusedSimpArgs false
set_option maxRecDepth 100000

/-- the editor between two calls: where it lies, what it holds -/
def ESt (w : World) (lo b i : Nat) (m : EdM) (X : World) : Prop := ∃ c, EdAt X lo b c 50 m ∧ EInv 50 i m ∧ Below lo w X
theorem ESt.below {w X Y : World} {lo b i : Nat} {m : EdM} (h : ESt w lo b i m X) (hlo : lo ≤ X.heap.size) (hb : Below X.heap.size X Y) : ESt w lo b i m Y := by
  obtain ⟨c, h1, h2, h3⟩ := h
  exact ⟨c, h1.below hb, h2, h3.trans (hb.mono hlo)⟩
theorem ESt.self {w X : World} {lo b i : Nat} {m : EdM} (h : ESt w lo b i m X) : X.cell? ⟨b, 0, none⟩ = some (.pointer (some ⟨b, 0, none⟩)) := by
  obtain ⟨c, h1, _⟩ := h
  exact h1.self
theorem ESt.step {w X Y : World} {lo b i : Nat} {c : EdC} {m m' : EdM} (h : EdAt X lo b c 50 m) (hb : Below lo w X) (hlo : lo ≤ X.heap.size) (hr : EdR X lo b c 50 m' Y) (hI : EInv 50 (i + 1) m') : ESt w lo b (i + 1) m' Y := by
  obtain ⟨c', hg, h1, h2, h3⟩ := hr
  exact ⟨c', h1, hI, hb.trans (h2.below hlo (fun k hk => (h.own_lt k hk).1))⟩
/-- what a call leaves -/
def EOut (w : World) (lo b i : Nat) (m : EdM) (e : Ending) (w' : World) : Prop :=
  ∃ m' ok, e = .returned (.bool ok) ∧ ESt w lo b (i + 1) m' w' ∧ (ok = false → m'.p ++ m'.s = m.p ++ m.s ∧ m'.p.length = m.p.length)
section
variable {w X : World} {lo b i : Nat} {m : EdM}
theorem eout_do (h : ESt w lo b i m X) (hT : TL lo w) (hlw : lo ≤ w.heap.size) (hi : i ≤ 60) (a : Int) : DoC X b a (EOut w lo b i m) := by
  obtain ⟨c, h1, h2, h3⟩ := h
  have hlo : lo ≤ X.heap.size := Nat.le_trans hlw h3.size
  have hTX : TL lo X := ⟨hT.tb.same (h3.block _ hT.ml) (h3.block _ hT.wl) h3.size, hT.ml, hT.wl⟩
  obtain ⟨m', ok, hq, hs⟩ := edo_all h1 hTX hlo (Nat.le_refl _) h2 hi a
  refine hq.mono ?_
  rintro e w' ⟨rfl, hr⟩
  exact ⟨m', ok, rfl, ESt.step h1 h3 hlo hr hs.1, hs.2⟩
theorem eout_set (h : ESt w lo b i m X) (hT : TL lo w) (hlw : lo ≤ w.heap.size) (x : ByteArray) (hx : x.size ≤ 200) : Calls Tryz.prog 12 #[.pointer (some ⟨b, 0, none⟩), .string x] X (EOut w lo b i m) := by
  obtain ⟨c, h1, h2, h3⟩ := h
  have hlo : lo ≤ X.heap.size := Nat.le_trans hlw h3.size
  have hTX : TL lo X := ⟨hT.tb.same (h3.block _ hT.ml) (h3.block _ hT.wl) h3.size, hT.ml, hT.wl⟩
  obtain ⟨m', ok, hq, hs⟩ := eset_all h1 hTX hlo h2 x (by omega)
  refine hq.mono ?_
  rintro e w' ⟨rfl, hr⟩
  exact ⟨m', ok, rfl, ESt.step h1 h3 hlo hr hs.1, hs.2⟩
theorem eout_ins (h : ESt w lo b i m X) (hT : TL lo w) (hlw : lo ≤ w.heap.size) (x : ByteArray) (hx : x.size ≤ 200) : Calls Tryz.prog 10 #[.pointer (some ⟨b, 0, none⟩), .string x] X (EOut w lo b i m) := by
  obtain ⟨c, h1, h2, h3⟩ := h
  have hlo : lo ≤ X.heap.size := Nat.le_trans hlw h3.size
  have hTX : TL lo X := ⟨hT.tb.same (h3.block _ hT.ml) (h3.block _ hT.wl) h3.size, hT.ml, hT.wl⟩
  obtain ⟨m', ok, hq, hs⟩ := einsert_all h1 hTX hlo h2 x (by omega)
  refine hq.mono ?_
  rintro e w' ⟨rfl, hr⟩
  exact ⟨m', ok, rfl, ESt.step h1 h3 hlo hr hs.1, hs.2⟩
theorem est_text (h : ESt w lo b i m X) : Calls Tryz.prog 8 #[.pointer (some ⟨b, 0, none⟩)] X (fun e w' => e = .returned (.string ⟨((m.p ++ m.s).flatten).toArray⟩) ∧ Below X.heap.size X w') := by
  obtain ⟨c, h1, _⟩ := h
  exact etext_any h1
theorem est_cursor (h : ESt w lo b i m X) : Calls Tryz.prog 9 #[.pointer (some ⟨b, 0, none⟩)] X (fun e w' => e = .returned (.int .i64 m.p.length) ∧ Below X.heap.size X w') := by
  obtain ⟨c, h1, _⟩ := h
  exact ecursor_any h1
theorem est_undos (h : ESt w lo b i m X) : Calls Tryz.prog 14 #[.pointer (some ⟨b, 0, none⟩)] X (fun e w' => e = .returned (.int .i64 m.ps.length) ∧ Below X.heap.size X w') := by
  obtain ⟨c, h1, _⟩ := h
  exact eundos_any h1
/-- the text of a noted line, or none -/
def befT (m : EdM) : ByteArray := match m.ps.getLast? with | none => ⟨#[]⟩ | some e => ⟨(e.1.flatten).toArray⟩
theorem est_before (h : ESt w lo b i m X) : Calls Tryz.prog 15 #[.pointer (some ⟨b, 0, none⟩), .int .i64 ((m.ps.length : Int) - 1)] X (fun e w' => e = .returned (.string (befT m)) ∧ Below X.heap.size X w') := by
  obtain ⟨c, h1, h2, _⟩ := h
  rcases Nat.eq_zero_or_pos m.ps.length with h0 | h0
  · have hn : m.ps = [] := List.eq_nil_of_length_eq_zero h0
    have hb : befT m = ⟨#[]⟩ := by unfold befT; rw [hn]; rfl
    rw [h0, hb]
    exact ebefore_none h1
  · obtain ⟨k, hk⟩ : ∃ k, m.ps.length = k + 1 := ⟨m.ps.length - 1, by omega⟩
    obtain ⟨e, he⟩ : ∃ e, m.ps[k]? = some e := ⟨_, List.getElem?_eq_getElem (by omega)⟩
    have hb : befT m = ⟨(e.1.flatten).toArray⟩ := by
      unfold befT; rw [List.getLast?_eq_getElem?, show m.ps.length - 1 = k by omega, he]
    have hz : ((m.ps.length : Int) - 1) = (k : Int) := by omega
    rw [hz, hb]
    exact ebefore_yes h1 k e he h2.pl
/-- an undo where there is one -/
def UOut (w : World) (lo b i : Nat) (m : EdM) (e : Ending) (w' : World) : Prop :=
  e = .returned (.bool true) ∧ ∃ m' x r, m.ps = x :: r ∧ m'.ps = r ∧ m'.p ++ m'.s = x.1 ∧ ESt w lo b i m' w'
theorem uout_do (h : ESt w lo b i m X) (hT : TL lo w) (hlw : lo ≤ w.heap.size) (h0 : m.ps ≠ []) : DoC X b 15 (UOut w lo b i m) := by
  obtain ⟨c, h1, h2, h3⟩ := h
  have hlo : lo ≤ X.heap.size := Nat.le_trans hlw h3.size
  have hTX : TL lo X := ⟨hT.tb.same (h3.block _ hT.ml) (h3.block _ hT.wl) h3.size, hT.ml, hT.wl⟩
  cases hq : m.ps with
  | nil => exact absurd hq h0
  | cons e r =>
    have he := h2.ps e (by rw [hq]; exact List.mem_cons_self ..)
    have hrl : r.length ≤ 64 := by have := h2.pl; rw [hq, List.length_cons] at this; omega
    refine (edo_any h1 15 (do_undo (m1 := m.begun.undone e.1 e.2 r) (d := true) h1 hTX hlo (fun W hW hTW hlW => undo_yes hW hTW hlW e.1 e.2 r hq hrl he.1 he.2.1 he.2.2))).mono ?_
    rintro e' w' ⟨rfl, c', hg, h5, h6, h7⟩
    exact ⟨rfl, m.begun.undone e.1 e.2 r, e, r, hq, rfl, List.take_append_drop _ _, c', h5, ⟨fun e' he' => h2.ps e' (by rw [hq]; exact List.mem_cons_of_mem _ he'), hrl, h2.ks, h2.kl, (fun h => by cases h), (fun h => by cases h)⟩, h3.trans (h6.below hlo (fun k hk => (h1.own_lt k hk).1))⟩
theorem uout_none (h : ESt w lo b i m X) (hT : TL lo w) (hlw : lo ≤ w.heap.size) (h0 : m.ps = []) : DoC X b 15 (fun e w' => e = .returned (.bool false) ∧ Below lo w w') := by
  obtain ⟨c, h1, h2, h3⟩ := h
  have hlo : lo ≤ X.heap.size := Nat.le_trans hlw h3.size
  have hTX : TL lo X := ⟨hT.tb.same (h3.block _ hT.ml) (h3.block _ hT.wl) h3.size, hT.ml, hT.wl⟩
  refine (edo_any h1 15 (do_undo (m1 := m.begun) (d := false) h1 hTX hlo (fun W hW _ _ => undo_no hW h0))).mono ?_
  rintro e w' ⟨rfl, c', hg, h5, h6, h7⟩
  exact ⟨rfl, h3.trans (h6.below hlo (fun k hk => (h1.own_lt k hk).1))⟩
end
end Go.Proofs.YtfhfhjcdeeepbaaGreatDoor

namespace Go.Proofs.YtfhfhjcdeeepbaaGreatDoor
open Go.RowKit Go.Sort
set_option linter.unusedVariables false
set_option linter.unusedSimpArgs false
set_option maxRecDepth 100000

theorem ESt.size {w X : World} {b i : Nat} {m : EdM} (h : ESt w w.heap.size b i m X) : w.heap.size ≤ X.heap.size := by
  obtain ⟨c, _, _, h3⟩ := h
  exact h3.size
theorem ESt.bel {w X : World} {b i lo : Nat} {m : EdM} (h : ESt w lo b i m X) : Below lo w X := by
  obtain ⟨c, _, _, h3⟩ := h
  exact h3
theorem ESt.none {w X : World} {b lo : Nat} {c : EdC} (h : EdAt X lo b c 50 EdM.none) (hb : Below lo w X) : ESt w lo b 0 EdM.none X :=
  ⟨c, h, ⟨(fun e he => by cases he), Nat.zero_le _, (fun e he => by cases he), Nat.zero_le _, (fun h => by cases h), (fun h => by cases h)⟩, hb⟩
/-- how far the undoing has come -/
def UGone (m : EdM) (j : Nat) (m' : EdM) : Prop := m'.ps = m.ps.drop j ∧ ∀ i, j = i + 1 → ∃ e, m.ps[i]? = some e ∧ m'.p ++ m'.s = e.1
theorem UGone.start (m : EdM) : UGone m 0 m := ⟨rfl, fun i h => by omega⟩
theorem UGone.more {m m' : EdM} {j : Nat} (h : UGone m j m') (hj : j < m.ps.length) : m'.ps ≠ [] := fun e => by
  have h1 := congrArg List.length (h.1.symm.trans e)
  rw [List.length_drop, List.length_nil] at h1
  omega
theorem UGone.next {m m' m'' : EdM} {j : Nat} {x : List (List UInt8) × Nat} {r : List (List (List UInt8) × Nat)} (h : UGone m j m') (k1 : m'.ps = x :: r) (k2 : m''.ps = r) (k3 : m''.p ++ m''.s = x.1) : UGone m (j + 1) m'' := by
  have h1 : m.ps.drop j = x :: r := h.1.symm.trans k1
  refine ⟨?_, fun i hi => ?_⟩
  · rw [k2, ← List.tail_drop, h1]
    rfl
  · obtain rfl : i = j := by omega
    refine ⟨x, ?_, k3⟩
    have h2 := List.getElem?_drop (xs := m.ps) (i := i) (j := 0)
    rw [h1] at h2
    exact h2.symm
theorem UGone.empty {m m' : EdM} (h : UGone m m.ps.length m') : m'.ps = [] := by rw [h.1]; exact List.drop_length
theorem UGone.text {m m' : EdM} (h : UGone m m.ps.length m') (h0 : ¬ m.ps.length = 0) : (⟨((m'.p ++ m'.s).flatten).toArray⟩ : ByteArray) = befT m := by
  obtain ⟨i, hi⟩ : ∃ i, m.ps.length = i + 1 := ⟨m.ps.length - 1, by omega⟩
  obtain ⟨e, he, h2⟩ := h.2 i hi
  unfold befT
  rw [List.getLast?_eq_getElem?, show m.ps.length - 1 = i by omega, he, h2]

set_option maxHeartbeats 16000000 in
theorem editorUndoes_walk (A : Option Addr) (nn c : Nat) (l : List OpE) (hn : nn = l.length) (hm : nn ≤ maxLen) (hok : ∀ o ∈ l, o.ok) (w : World) (hS : Sl w w.heap.size A (oec l)) (hT : Tabs w) :
    Calls Tryz.prog 3 #[.slice A nn c] w fun e w' => e = .returned (.bool true) ∧ Below w.heap.size w w' := by
  unfold maxLen at hm
  have HTL : Hid (TL w.heap.size w) := Lib.hid ⟨hT, hT.mg, hT.wg⟩
  have HT := Lib.hid hT
  have HOK := Lib.hid hok
  have HS := Lib.hid hS
  have HN := Lib.hid hn
  clear hT hok hS hn
  go_enter Tryz.func3, Tryz.ntmps3
  go_wp2_with (fail)
  refine (enew_ok 50 (by omega) (by omega) w).mono ?_
  rintro e w1 ⟨b, c1, rfl, h1, hb1⟩
  have HR1 := Lib.hid (ESt.none h1 hb1)
  clear h1 hb1
  go_wp2_with (fail)
  refine (eawake_any w1 (HT.out.below HR1.out.bel)).mono ?_
  rintro e w2 ⟨rfl, hb2⟩
  have HR2 := Lib.hid (HR1.out.below HR1.out.size hb2)
  clear hb2 HR1
  go_wp2_with (fail)
  go_loopw [5] (fun v wr => ∃ (k : Nat) (m : EdM), v = .int .i64 k ∧ k ≤ nn ∧ k ≤ 60 ∧ ESt w w.heap.size b k m wr) (fun v _ => 60 - (intOf v).toNat)
  case atStart => exact ⟨0, _, rfl, Nat.zero_le _, Nat.zero_le _, HR2.out⟩
  case round =>
    obtain ⟨k, m, rfl, hkn, hk60, hr⟩ := hrel
    have HR := Lib.hid hr
    clear hr HR2
    by_cases hg : k < nn ∧ k < 60
    · obtain ⟨hg1, hg2⟩ := hg
      have hgi1 : (k : Int) < nn := by omega
      have hgi2 : (k : Int) < 60 := by omega
      have hkl : k < l.length := by have := HN.out; omega
      obtain ⟨o, hx⟩ : ∃ o, l[k]? = some o := ⟨l[k], List.getElem?_eq_getElem hkl⟩
      have hoo := HOK.out o (List.mem_of_getElem? hx)
      obtain ⟨ab, off, rfl, hab, hcell⟩ := HS.out.open_ (by rw [oec_length]; omega)
      obtain ⟨hd0, hd1, hds⟩ := hoo
      obtain ⟨kd, ss, oa⟩ := o
      simp only at hd0 hd1 hds
      go_wp2_with (fail)
      refine (est_text HR.out).mono ?_
      rintro e w3 ⟨rfl, hb3⟩
      have HR3 := Lib.hid (HR.out.below HR.out.size hb3)
      clear hb3
      go_wp2_with (fail)
      refine (est_cursor HR3.out).mono ?_
      rintro e w4 ⟨rfl, hb4⟩
      have HR4 := Lib.hid (HR3.out.below HR3.out.size hb4)
      clear hb4 HR3
      have hcl : ∀ j v, (OpE.mk kd ss oa).cells[j]? = some v → w4.cell? ⟨ab, off + k * 3 + j, none⟩ = some v := fun j v hv => by
        rw [Nat.add_assoc]
        exact (HR4.out.bel.cell (p := ⟨ab, off + (k * 3 + j), none⟩) hab).trans (hcell _ v (oec_get hx hv))
      have e0 : w4.cell? ⟨ab, off + k * 3, none⟩ = some (.int .u8 kd) := hcl 0 _ rfl
      have e1 : w4.cell? ⟨ab, off + k * 3 + 1, none⟩ = some (.string ss) := hcl 1 _ rfl
      have e2 : w4.cell? ⟨ab, off + k * 3 + 2, none⟩ = some (.int .i64 oa) := hcl 2 _ rfl
      have HRA := Lib.hid (HR4.out.below HR4.out.size ((Below.refl _ w4).alloc (Nat.le_refl _) (.cells #[.int .u8 kd, .string ss, .int .i64 oa] 32)))
      clear hcl hcell hx
      by_cases h : kd % 8 = 0
      · have hq0 : (kd % 8 == 0) = true := by rw [h]; rfl
        have hq1 : (kd % 8 == 1) = false := by simp; omega
        have hq6 : (kd % 8 == 6) = false := by simp; omega
        go_wp2_with (fail)
        refine (ecut_any ss hds _).mono ?_
        rintro e w5 ⟨⟨x, rfl, hx⟩, rfl⟩
        go_wp2_with (fail)
        refine (eout_ins HRA.out HTL.out (Nat.le_refl _) x hx).mono ?_
        rintro e w6 ⟨m', ok, rfl, hr6, hno⟩
        have HR6 := Lib.hid hr6
        have HNO := Lib.hid hno
        clear hr6 hno
        cases ok with
        | true =>
          go_wp2_with (fail)
          go_roundw
          case rel => exact ⟨k + 1, m', by go_num, by omega, by omega, HR6.out⟩
          case measure => simp [intOf]; omega
        | false =>
          obtain ⟨hn1, hn2⟩ := HNO.out rfl
          have ht := est_text HR6.out
          rw [hn1] at ht
          have HT6 := Lib.hid ht
          clear ht hn1
          go_wp2_with (fail)
          refine HT6.out.mono ?_
          rintro e w7 ⟨rfl, hb7⟩
          have HR7 := Lib.hid (HR6.out.below HR6.out.size hb7)
          have hc := est_cursor HR7.out
          rw [hn2] at hc
          have HC7 := Lib.hid hc
          clear hb7 hc HT6 hn2
          go_wp2_with (fail)
          refine HC7.out.mono ?_
          rintro e w8 ⟨rfl, hb8⟩
          have HR8 := Lib.hid (HR7.out.below HR7.out.size hb8)
          clear hb8 HC7
          go_wp2_with (fail)
          go_roundw
          case rel => exact ⟨k + 1, m', by go_num, by omega, by omega, HR8.out⟩
          case measure => simp [intOf]; omega
      by_cases h : kd % 8 = 1
      · have hq0 : (kd % 8 == 0) = false := by simp; omega
        have hq1 : (kd % 8 == 1) = true := by rw [h]; rfl
        have hq6 : (kd % 8 == 6) = false := by simp; omega
        go_wp2_with (fail)
        refine (ecut_any ss hds _).mono ?_
        rintro e w5 ⟨⟨x, rfl, hx⟩, rfl⟩
        go_wp2_with (fail)
        refine (eout_ins HRA.out HTL.out (Nat.le_refl _) x hx).mono ?_
        rintro e w6 ⟨m', ok, rfl, hr6, hno⟩
        have HR6 := Lib.hid hr6
        have HNO := Lib.hid hno
        clear hr6 hno
        cases ok with
        | true =>
          go_wp2_with (fail)
          go_roundw
          case rel => exact ⟨k + 1, m', by go_num, by omega, by omega, HR6.out⟩
          case measure => simp [intOf]; omega
        | false =>
          obtain ⟨hn1, hn2⟩ := HNO.out rfl
          have ht := est_text HR6.out
          rw [hn1] at ht
          have HT6 := Lib.hid ht
          clear ht hn1
          go_wp2_with (fail)
          refine HT6.out.mono ?_
          rintro e w7 ⟨rfl, hb7⟩
          have HR7 := Lib.hid (HR6.out.below HR6.out.size hb7)
          have hc := est_cursor HR7.out
          rw [hn2] at hc
          have HC7 := Lib.hid hc
          clear hb7 hc HT6 hn2
          go_wp2_with (fail)
          refine HC7.out.mono ?_
          rintro e w8 ⟨rfl, hb8⟩
          have HR8 := Lib.hid (HR7.out.below HR7.out.size hb8)
          clear hb8 HC7
          go_wp2_with (fail)
          go_roundw
          case rel => exact ⟨k + 1, m', by go_num, by omega, by omega, HR8.out⟩
          case measure => simp [intOf]; omega
      by_cases h : kd % 8 = 6
      · have hq0 : (kd % 8 == 0) = false := by simp; omega
        have hq1 : (kd % 8 == 1) = false := by simp; omega
        have hq6 : (kd % 8 == 6) = true := by rw [h]; rfl
        go_wp2_with (fail)
        refine (ecut_any ss hds _).mono ?_
        rintro e w5 ⟨⟨x, rfl, hx⟩, rfl⟩
        go_wp2_with (fail)
        refine (eout_set HRA.out HTL.out (Nat.le_refl _) x hx).mono ?_
        rintro e w6 ⟨m', ok, rfl, hr6, hno⟩
        have HR6 := Lib.hid hr6
        have HNO := Lib.hid hno
        clear hr6 hno
        cases ok with
        | true =>
          go_wp2_with (fail)
          go_roundw
          case rel => exact ⟨k + 1, m', by go_num, by omega, by omega, HR6.out⟩
          case measure => simp [intOf]; omega
        | false =>
          obtain ⟨hn1, hn2⟩ := HNO.out rfl
          have ht := est_text HR6.out
          rw [hn1] at ht
          have HT6 := Lib.hid ht
          clear ht hn1
          go_wp2_with (fail)
          refine HT6.out.mono ?_
          rintro e w7 ⟨rfl, hb7⟩
          have HR7 := Lib.hid (HR6.out.below HR6.out.size hb7)
          have hc := est_cursor HR7.out
          rw [hn2] at hc
          have HC7 := Lib.hid hc
          clear hb7 hc HT6 hn2
          go_wp2_with (fail)
          refine HC7.out.mono ?_
          rintro e w8 ⟨rfl, hb8⟩
          have HR8 := Lib.hid (HR7.out.below HR7.out.size hb8)
          clear hb8 HC7
          go_wp2_with (fail)
          go_roundw
          case rel => exact ⟨k + 1, m', by go_num, by omega, by omega, HR8.out⟩
          case measure => simp [intOf]; omega
      have hq0 : (kd % 8 == 0) = false := by simp; omega
      have hq1 : (kd % 8 == 1) = false := by simp; omega
      have hq6 : (kd % 8 == 6) = false := by simp; omega
      go_wp2_with (fail)
      refine (eout_do HRA.out HTL.out (Nat.le_refl _) (by omega) oa).mono ?_
      rintro e w6 ⟨m', ok, rfl, hr6, hno⟩
      have HR6 := Lib.hid hr6
      have HNO := Lib.hid hno
      clear hr6 hno
      cases ok with
      | true =>
        go_wp2_with (fail)
        go_roundw
        case rel => exact ⟨k + 1, m', by go_num, by omega, by omega, HR6.out⟩
        case measure => simp [intOf]; omega
      | false =>
        obtain ⟨hn1, hn2⟩ := HNO.out rfl
        have ht := est_text HR6.out
        rw [hn1] at ht
        have HT6 := Lib.hid ht
        clear ht hn1
        go_wp2_with (fail)
        refine HT6.out.mono ?_
        rintro e w7 ⟨rfl, hb7⟩
        have HR7 := Lib.hid (HR6.out.below HR6.out.size hb7)
        have hc := est_cursor HR7.out
        rw [hn2] at hc
        have HC7 := Lib.hid hc
        clear hb7 hc HT6 hn2
        go_wp2_with (fail)
        refine HC7.out.mono ?_
        rintro e w8 ⟨rfl, hb8⟩
        have HR8 := Lib.hid (HR7.out.below HR7.out.size hb8)
        clear hb8 HC7
        go_wp2_with (fail)
        go_roundw
        case rel => exact ⟨k + 1, m', by go_num, by omega, by omega, HR8.out⟩
        case measure => simp [intOf]; omega
    · have HI : Hid (m.ps.length ≤ 64) := by
        obtain ⟨cc, _, hI, _⟩ := HR.out
        exact Lib.hid hI.pl
      have hpl := HI.out
      by_cases hz : (k : Int) < nn
      · have hz6 : ¬ ((k : Int) < 60) := by omega
        clear hg
        go_wp2_with (fail)
        refine (est_undos HR.out).mono ?_
        rintro e w3 ⟨rfl, hb3⟩
        have HR3 := Lib.hid (HR.out.below HR.out.size hb3)
        clear hb3
        go_wp2_with (fail)
        refine (est_before HR3.out).mono ?_
        rintro e w4 ⟨rfl, hb4⟩
        have HR4 := Lib.hid (HR3.out.below HR3.out.size hb4)
        clear hb4 HR3
        go_wp2_with (fail)
        go_loopw [12] (fun v wr => ∃ (j : Nat) (m' : EdM), v = .int .i64 j ∧ j ≤ m.ps.length ∧ UGone m j m' ∧ ESt w w.heap.size b k m' wr) (fun v _ => m.ps.length - (intOf v).toNat)
        case atStart => exact ⟨0, m, rfl, Nat.zero_le _, UGone.start m, HR4.out⟩
        case round =>
          obtain ⟨j, m', rfl, hjn, hug, hr⟩ := hrel
          have HU := Lib.hid hug
          have HRF := Lib.hid hr
          clear hr hug HR HR4
          by_cases hj : (j : Int) < m.ps.length
          · go_wp2_with (fail)
            refine (uout_do HRF.out HTL.out (Nat.le_refl _) (HU.out.more (by omega))).mono ?_
            rintro e w5 ⟨rfl, m'', x, r, k1, k2, k3, hr5⟩
            have HR5 := Lib.hid hr5
            have HU5 := Lib.hid (HU.out.next k1 k2 k3)
            clear hr5 k1 k2 k3
            go_wp2_with (fail)
            go_roundw
            case rel => exact ⟨j + 1, m'', by go_num, by omega, HU5.out, HR5.out⟩
            case measure => simp [intOf]; omega
          · obtain rfl : j = m.ps.length := by omega
            have HMT := Lib.hid HU.out.empty
            by_cases h0 : m.ps.length = 0
            · have h0i : (m.ps.length : Int) = 0 := by omega
              go_wp2_with (fail)
              refine (uout_none HRF.out HTL.out (Nat.le_refl _) HMT.out).mono ?_
              rintro e w9 ⟨rfl, hb9⟩
              go_wp2_with (fail)
              go_ret
              exact ⟨rfl, hb9⟩
            · have h0i : ¬ (m.ps.length : Int) = 0 := by omega
              have ht := est_text HRF.out
              rw [HU.out.text h0] at ht
              have HT5 := Lib.hid ht
              clear ht
              go_wp2_with (fail)
              refine HT5.out.mono ?_
              rintro e w6 ⟨rfl, hb6⟩
              have HR6 := Lib.hid (HRF.out.below HRF.out.size hb6)
              clear hb6
              go_wp2_with (fail)
              refine (uout_none HR6.out HTL.out (Nat.le_refl _) HMT.out).mono ?_
              rintro e w9 ⟨rfl, hb9⟩
              go_wp2_with (fail)
              go_ret
              exact ⟨rfl, hb9⟩
      · clear hg
        go_wp2_with (fail)
        refine (est_undos HR.out).mono ?_
        rintro e w3 ⟨rfl, hb3⟩
        have HR3 := Lib.hid (HR.out.below HR.out.size hb3)
        clear hb3
        go_wp2_with (fail)
        refine (est_before HR3.out).mono ?_
        rintro e w4 ⟨rfl, hb4⟩
        have HR4 := Lib.hid (HR3.out.below HR3.out.size hb4)
        clear hb4 HR3
        go_wp2_with (fail)
        go_loopw [12] (fun v wr => ∃ (j : Nat) (m' : EdM), v = .int .i64 j ∧ j ≤ m.ps.length ∧ UGone m j m' ∧ ESt w w.heap.size b k m' wr) (fun v _ => m.ps.length - (intOf v).toNat)
        case atStart => exact ⟨0, m, rfl, Nat.zero_le _, UGone.start m, HR4.out⟩
        case round =>
          obtain ⟨j, m', rfl, hjn, hug, hr⟩ := hrel
          have HU := Lib.hid hug
          have HRF := Lib.hid hr
          clear hr hug HR HR4
          by_cases hj : (j : Int) < m.ps.length
          · go_wp2_with (fail)
            refine (uout_do HRF.out HTL.out (Nat.le_refl _) (HU.out.more (by omega))).mono ?_
            rintro e w5 ⟨rfl, m'', x, r, k1, k2, k3, hr5⟩
            have HR5 := Lib.hid hr5
            have HU5 := Lib.hid (HU.out.next k1 k2 k3)
            clear hr5 k1 k2 k3
            go_wp2_with (fail)
            go_roundw
            case rel => exact ⟨j + 1, m'', by go_num, by omega, HU5.out, HR5.out⟩
            case measure => simp [intOf]; omega
          · obtain rfl : j = m.ps.length := by omega
            have HMT := Lib.hid HU.out.empty
            by_cases h0 : m.ps.length = 0
            · have h0i : (m.ps.length : Int) = 0 := by omega
              go_wp2_with (fail)
              refine (uout_none HRF.out HTL.out (Nat.le_refl _) HMT.out).mono ?_
              rintro e w9 ⟨rfl, hb9⟩
              go_wp2_with (fail)
              go_ret
              exact ⟨rfl, hb9⟩
            · have h0i : ¬ (m.ps.length : Int) = 0 := by omega
              have ht := est_text HRF.out
              rw [HU.out.text h0] at ht
              have HT5 := Lib.hid ht
              clear ht
              go_wp2_with (fail)
              refine HT5.out.mono ?_
              rintro e w6 ⟨rfl, hb6⟩
              have HR6 := Lib.hid (HRF.out.below HRF.out.size hb6)
              clear hb6
              go_wp2_with (fail)
              refine (uout_none HR6.out HTL.out (Nat.le_refl _) HMT.out).mono ?_
              rintro e w9 ⟨rfl, hb9⟩
              go_wp2_with (fail)
              go_ret
              exact ⟨rfl, hb9⟩
end Go.Proofs.YtfhfhjcdeeepbaaGreatDoor

