/-
  The law RunesPieces: where bytes are cut, and that pieces give what all gives at once: it returns true, and nothing that was there is written.
-/
import Derived.Test.YtgalkmbocbpgiaaRnCut
import Derived.Test.YtgalkmbocbpgiaaRnText
import Derived.Test.YtgalkmbocbpgiaaRnLaw1
import Derived.Test.YtgalkmbocbpgiaaRnRunes
namespace Go.Proofs.Ytgalkmbocbpgiaa
open Go.RowKit
set_option linter.unusedVariables false

def txtR (D : List Int) : List UInt8 := D.flatMap fun r => enc (rfix r)
theorem txt_dec (l : List UInt8) : txt (rnsOf l) = txtR (decR l) := by simp [txt, txtR, decR, List.flatMap_map]
theorem txtR_append (D E : List Int) : txtR (D ++ E) = txtR D ++ txtR E := by simp [txtR]

theorem txtR_dec_le (l : List UInt8) : (txtR (decR l)).length ≤ 4 * l.length := by
  rw [← txt_dec]
  have h1 := txt_le (rnsOf l)
  have h2 := rnsOf_le l
  omega
theorem str_append (a b : List UInt8) : (⟨a.toArray⟩ : ByteArray) ++ ⟨b.toArray⟩ = ⟨(a ++ b).toArray⟩ := by
  apply ByteArray.ext
  rw [ByteArray.data_append]
  simp

/-- what a slice of slices of bytes shows: each element a slice of bytes -/
structure Pc where
  (A : Option Addr) (n c : Nat) (l : List UInt8)
def Pc.ok (w : World) (p : Pc) : Prop := p.n = p.l.length ∧ p.n ≤ p.c ∧ p.c ≤ maxLen ∧ (p.A = none → p.c = 0) ∧ Sl w w.heap.size p.A (bv p.l)
def pv (ps : List Pc) : List Value := ps.map fun p => .slice p.A p.n p.c

theorem ne_flip {x y : Option Nat} (h : x = none ∨ x ≠ y) : y = none ∨ y ≠ x := by
  rcases h with rfl | h
  · cases y with
    | none => exact .inl rfl
    | some g => exact .inr (fun e => by cases e)
  · exact .inr (Ne.symm h)
theorem OB.cap_ {w : World} {base n c : Nat} {A : Option Addr} {l : List UInt8} (h : OB w base A n c l) : n ≤ c ∧ c ≤ maxLen := by
  rcases h.1.2 with ⟨e, hn⟩ | ⟨g, cap, cur, hv, h1, h2, h3, h4, h5⟩
  · injection e with _ e1 e2
    subst e1; subst e2
    exact ⟨Nat.le_refl _, by simp [maxLen]⟩
  · injection hv with _ _ e2
    subst e2
    exact ⟨h3, h4⟩

set_option maxRecDepth 100000 in
set_option maxHeartbeats 4000000 in
theorem law3_walk (A : Option Addr) (n cap : Nat) (ps : List Pc) (w : World) (hn : n = ps.length) (hnm : n ≤ 9223372036854775807) (hS : Sl w w.heap.size A (pv ps)) (hps : ∀ p ∈ ps, p.ok w) :
    Calls Try.prog 5 #[.slice A n cap] w fun e w' => e = .returned (.bool true) ∧ Below w.heap.size w w' := by
  subst hn
  have HS := Lib.hid hS
  have HPS := Lib.hid hps
  clear hS hps
  go_enter Try.func5, Try.ntmps5
  go_wp2
  go_loopw [3, 4, 5, 6] (fun v3 v4 v5 v6 wr => ∃ (k : Nat) (A3 : Option Addr) (n3 c3 : Nat) (al : List UInt8) (A4 : Option Addr) (n4 c4 : Nat) (le : List UInt8) (D : List Int),
      v6 = .int .i64 k ∧ k ≤ ps.length ∧ k ≤ 20 ∧ v3 = .slice A3 n3 c3 ∧ v4 = .slice A4 n4 c4 ∧ v5 = .string ⟨(txtR D).toArray⟩ ∧
      OB wr w.heap.size A3 n3 c3 al ∧ OB wr w.heap.size A4 n4 c4 le ∧ (blk A3 = none ∨ blk A3 ≠ blk A4) ∧ n3 ≤ 30 * k ∧ n4 ≤ 3 ∧ (txtR D).length ≤ 200 * k ∧
      (∀ q, decR (al ++ q) = D ++ decR (le ++ q)) ∧ Below w.heap.size w wr) (fun _ _ _ v6 _ => 20 - (intOf v6).toNat)
  case atStart => exact ⟨0, none, 0, 0, [], none, 0, 0, [], [], rfl, by omega, by omega, rfl, rfl, rfl, OB.none_ _ _, OB.none_ _ _, .inl rfl, by omega, by omega, by simp [txtR], fun q => rfl, Below.refl _ _⟩
  case round =>
    obtain ⟨k, A3, n3, c3, al, A4, n4, c4, le, D, rfl, hk, hk20, rfl, rfl, rfl, h3, h4, hne, hn3, hn4, hT, hdec, hbw⟩ := hrel
    have HDec := Lib.hid hdec
    have Hne := Lib.hid hne
    clear hdec hne
    by_cases hlt : k < ps.length ∧ k < 20
    · obtain ⟨hlt1, hlt2⟩ := hlt
      have hi1 : (k : Int) < (ps.length : Int) := by omega
      have hi2 : (k : Int) < 20 := by omega
      obtain ⟨b, off, rfl, hbb, hcell⟩ := HS.out.open_ (by simp [pv]; omega)
      have hx0 := hcell k (.slice ps[k].A ps[k].n ps[k].c) (by simp [pv, hlt1])
      have hx : wr.cell? ⟨b, off + k, none⟩ = some (.slice ps[k].A ps[k].n ps[k].c) := (hbw.cell (p := ⟨b, off + k, none⟩) hbb).trans hx0
      have hok := HPS.out ps[k] (List.getElem_mem hlt1)
      generalize ps[k] = pk at hx hok
      obtain ⟨Ap, np, cp, lp⟩ := pk
      obtain ⟨hp1, hp2, hp3, hp4, hp5⟩ := hok
      simp only at hx hp1 hp2 hp3 hp4 hp5
      unfold maxLen at hp3
      clear hcell hx0
      -- the piece, cut to thirty bytes
      have hpl : ∃ pl : List UInt8, pl = lp.take 30 := ⟨_, rfl⟩
      obtain ⟨pl, hpl⟩ := hpl
      have hpll : pl.length = min np 30 := by rw [hpl]; simp; omega
      have hSp : Sl w w.heap.size Ap (bv pl) := by rw [hpl, ← bv_take]; exact hp5.take 30
      have HSp := Lib.hid hSp
      have Hpl := Lib.hid hpll
      have Hp4 := Lib.hid hp4
      clear hpl hpll hSp hp4 hp5 hp1
      by_cases h30 : np ≤ 30
      all_goals
        have hm30 : pl.length ≤ 30 := by rw [Hpl.out]; omega
        have hi3 : (np : Int) ≤ 30 ∨ ¬ (np : Int) ≤ 30 := by omega
        clear hi3
        go_wp2_with (fail)
        go_quiet (fail)
        have hs0 := hbw.size
        go_wp2_with (first
          | (at_builtin
             refine wpList_app_u8 _ rfl (.tmp 34) (.tmp 35) rfl w.heap.size A3 n3 c3 al rfl (h3.drewN _) Ap _ cp pl w.heap.size rfl ((HSp.out.below hbw).drewN _) (by rw [Hpl.out]; omega) Hp4.out (n3 + pl.length) (by rw [Hpl.out]; omega) (by omega) hs0 ?_
             intro A5 c5 w5 h5 hg5 hat5
             have hb5 : Below w.heap.size w w5 := (below_drewN hbw _).grown hg5 hs0 (fun g hg => (h3.blk_lt g hg).1)
             have h4' := (h4.drewN _).kept hg5 (ne_flip Hne.out)
             have hs5 := hb5.size)
          | (at_builtin
             refine wpList_app_u8 _ rfl (.tmp 37) (.tmp 38) rfl w5.heap.size (some ⟨w5.heap.size, 0, none⟩) 0 0 [] rfl (OB.lit w5 [] (Nat.le_refl _) (by simp)) A4 n4 c4 le w5.heap.size rfl (h4'.sl.alloc (Nat.le_refl _) _) h4'.len h4'.2 n4 (by omega) (by omega) (by simp) ?_
             intro A6 c6 w6 h6 hg6 hat6
             have hb56 : Below w5.heap.size w5 w6 := ((Below.refl _ _).alloc (Nat.le_refl _) _).grown hg6 (by simp) (by simp [blk]))
          | (at_builtin
             refine wpList_app_u8 _ rfl (.tmp 39) (.tmp 40) rfl w5.heap.size A6 n4 c6 ([] ++ le) rfl h6 Ap _ cp pl w.heap.size rfl ((HSp.out.below hb5).below (hb56.mono hs5)) (by rw [Hpl.out]; omega) Hp4.out (n4 + pl.length) (by rw [Hpl.out]; omega) (by omega) hb56.size ?_
             intro A7 c7 w7 h7 hg7 hat7))
        have hb57 : Below w5.heap.size w5 w7 := hb56.grown hg7 hb56.size (fun g hg => (h6.blk_lt g hg).1)
        have h5w := h5.below hb57 (fun g hg => (h5.blk_lt g hg).2)
        have hb7 : Below w.heap.size w w7 := hb5.trans (hb57.mono hs5)
        have hbl : ([] ++ le ++ pl).length ≤ 33 := by have := h4'.len; simp; omega
        generalize hbq : [] ++ le ++ pl = bq at h7 hbl
        have HBq := Lib.hid hbq
        have hcap7 := h7.cap_
        clear hbq h6 hg6 hat6 hb56 hg7 hat7 h5 hg5 hat5 h3 h4 h4' hb57
        have H7 := Lib.hid h7
        refine (cut2_any A7 (n4 + pl.length) c7 bq w7 h7.len (by omega) hcap7.1 hcap7.2 h7.2 h7.sl).mono ?_
        rintro e w8 ⟨A8, c8, A9, c9, rfl, h8, h9, hb8⟩
        have hs7 := hb7.size
        have hb87 : Below w.heap.size w w8 := hb7.trans (hb8.mono hs7)
        have hS8 := (h7.sl.below hb8).more hb8.size
        have h5x := h5w.below hb8 (fun g hg => (h5w.blk_lt g hg).2)
        clear h5w hb7
        go_wp2_with (fail)
        refine (rcut_any A7 (n4 + pl.length) c7 bq w8 h7.len (by omega) hcap7.1 hcap7.2 h7.2 hS8).mono ?_
        rintro e w9 ⟨A10, c10, A11, c11, rfl, hS10, hS11, hb9⟩
        clear h7 hcap7 hS8
        have hs8 := hb87.size
        have hb97 : Below w.heap.size w w9 := hb87.trans (hb9.mono hs8)
        have h8' := h8.below hb9 (fun g hg => (h8.blk_lt g hg).2)
        have h9' := h9.below hb9 (fun g hg => (h9.blk_lt g hg).2)
        have h5y := h5x.below hb9 (fun g hg => (h5x.blk_lt g hg).2)
        clear h8 h9 h5x hb8 hb87
        have cv1 := run_str_sl w9 _ A8 (cutW bq).length c8 (cutW bq) h8'.sl rfl
        have cv2 := run_str_sl w9 _ A10 (cutW bq).length c10 (cutW bq) hS10 rfl
        have cv3 := run_str_sl w9 _ A9 (cutR bq).length c9 (cutR bq) h9'.sl rfl
        have cv4 := run_str_sl w9 _ A11 (cutR bq).length c11 (cutR bq) hS11 rfl
        have hr3 := cutR_le bq
        have hr3' : ¬ (3 : Int) < ((cutR bq).length : Int) := by omega
        have hwl : (cutW bq).length ≤ 33 := by unfold cutW; split <;> (try simp) <;> omega
        go_wp2_with (fail)
        clear cv1 cv2 cv3 cv4
        refine (text_any A8 (cutW bq).length c8 (cutW bq) w9.heap.size w9 rfl (by omega) h8'.sl (Nat.le_refl _)).mono ?_
        rintro e w10 ⟨rfl, hb10⟩
        rw [txt_dec]
        have hs9 := hb97.size
        have hbA : Below w.heap.size w w10 := hb97.trans (hb10.mono hs9)
        have h9z := h9'.below hb10 (fun g hg => (h9'.blk_lt g hg).2)
        have h5z := h5y.below hb10 (fun g hg => (h5y.blk_lt g hg).2)
        clear h8' h9' h5y hb97 hS10 hS11
        have hsA := hbA.size
        have hcat : ¬ 9223372036854775807 < (txtR D).length + (txtR (decR (cutW bq))).length := by have := txtR_dec_le (cutW bq); omega
        go_wp2_with (at_builtin
                     refine wpList_app_u8 _ rfl (.tmp 73) (.tmp 74) rfl w10.heap.size (some ⟨w10.heap.size, 0, none⟩) 0 0 [] rfl (OB.lit w10 [] (Nat.le_refl _) (by simp)) A9 (cutR bq).length c9 (cutR bq) w10.heap.size rfl (h9z.sl.alloc (Nat.le_refl _) _) rfl h9z.2 (cutR bq).length (by omega) (by omega) (by simp) ?_
                     intro A12 c12 w12 h12 hg12 hat12)
        have hbB : Below w10.heap.size w10 w12 := ((Below.refl _ _).alloc (Nat.le_refl _) _).grown hg12 (by simp) (by simp [blk])
        have e5 := h5z.below hbB (fun g hg => (h5z.blk_lt g hg).2)
        have hTl := txtR_dec_le (cutW bq)
        have hn3' : n3 + pl.length ≤ 30 * (k + 1) := by omega
        refine ⟨⟨k + 1, A5, n3 + pl.length, c5, al ++ pl, A12, (cutR bq).length, c12, [] ++ cutR bq, D ++ decR (cutW bq), by go_num, by omega, by omega, rfl, rfl, by rw [str_append, txtR_append], e5, h12.weaken hsA, ?_, hn3', hr3, by rw [txtR_append, List.length_append]; omega, ?_, hbA.trans (hbB.mono hsA)⟩, by simp only [intOf]; omega⟩
        · cases hA5 : blk A5 with
          | none => exact .inl rfl
          | some g =>
            have hg := (h5z.blk_lt g hA5).2
            refine .inr fun e => ?_
            rcases hat12 with h | h
            · rw [h] at e; simp [blk] at e; omega
            · rw [h] at e; simp at e; omega
        · intro q
          have e1 := HDec.out (pl ++ q)
          have e2 := HBq.out
          rw [List.nil_append] at e2
          rw [List.append_assoc, e1, ← List.append_assoc, e2, dec_cut bq q]
          simp
    · have hge : ¬ ((k : Int) < (ps.length : Int) ∧ (k : Int) < 20) := by omega
      have hfin : le = [] → txtR D = txtR (decR al) := by
        intro h
        have := HDec.out []
        rw [h] at this
        simp [decR_nil] at this
        rw [this]
      have HF := Lib.hid hfin
      have hs0 := hbw.size
      have hl4 := h4.len
      have Hl4 := Lib.hid hl4
      clear hfin hl4
      by_cases h0 : 0 < n4
      · have h0' : (0 : Int) < (n4 : Int) := by omega
        by_cases hc1 : k < ps.length
        · have hc2 : ¬ (k : Int) < 20 := by omega
          have hc1' : (k : Int) < (ps.length : Int) := by omega
          go_wp2_with (go_at_call 12; refine (awake_any _).mono ?_; rintro e w' ⟨rfl, hb9⟩)
          go_ret
          exact ⟨rfl, hbw.trans (hb9.mono hs0)⟩
        · have hc1' : ¬ (k : Int) < (ps.length : Int) := by omega
          go_wp2_with (go_at_call 12; refine (awake_any _).mono ?_; rintro e w' ⟨rfl, hb9⟩)
          go_ret
          exact ⟨rfl, hbw.trans (hb9.mono hs0)⟩
      · have h0' : ¬ (0 : Int) < (n4 : Int) := by omega
        have hle : le = [] := List.eq_nil_of_length_eq_zero (by have := Hl4.out; omega)
        have heq := HF.out hle
        have HEq := Lib.hid heq
        have hal := h3.len
        have Hal := Lib.hid hal
        have halm : al.length ≤ 100000 := by omega
        have Halm := Lib.hid halm
        clear hle heq hal halm
        by_cases hc1 : k < ps.length
        · have hc2 : ¬ (k : Int) < 20 := by omega
          have hc1' : (k : Int) < (ps.length : Int) := by omega
          go_wp2_with (fail)
          refine (text_any A3 n3 c3 al wr.heap.size wr Hal.out Halm.out h3.sl (Nat.le_refl _)).mono ?_
          rintro e w' ⟨rfl, hb8⟩
          rw [txt_dec, ← HEq.out]
          have hb9' := hbw.trans (hb8.mono hs0)
          go_wp2_with (go_at_call 12; refine (awake_any _).mono ?_; rintro e w'' ⟨rfl, hb9⟩)
          go_ret
          exact ⟨rfl, hb9'.trans (hb9.mono hb9'.size)⟩
        · have hc1' : ¬ (k : Int) < (ps.length : Int) := by omega
          go_wp2_with (fail)
          refine (text_any A3 n3 c3 al wr.heap.size wr Hal.out Halm.out h3.sl (Nat.le_refl _)).mono ?_
          rintro e w' ⟨rfl, hb8⟩
          rw [txt_dec, ← HEq.out]
          have hb9' := hbw.trans (hb8.mono hs0)
          go_wp2_with (go_at_call 12; refine (awake_any _).mono ?_; rintro e w'' ⟨rfl, hb9⟩)
          go_ret
          exact ⟨rfl, hb9'.trans (hb9.mono hb9'.size)⟩
end Go.Proofs.Ytgalkmbocbpgiaa
