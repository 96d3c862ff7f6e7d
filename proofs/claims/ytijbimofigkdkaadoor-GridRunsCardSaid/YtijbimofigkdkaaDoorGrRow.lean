/-
  Walks: slices.Clone at cells, Row; Text of no row.
-/
import Derived.Test.YtijbimofigkdkaaDoorGrOps
import Derived.Test.YtijbimofigkdkaaDoorGrText
namespace Go.Proofs.YtijbimofigkdkaaDoor
open Go.RowKit
set_option linter.unusedVariables false
set_option linter.unusedSimpArgs false

theorem erase_any {w : World} {lo g rb W : Nat} {bs : List Nat} {L : List (List Cl)} (h : GrAt w lo g rb bs W L) (hT : BlankT w) (hlo : 0 < lo) (row a z : Int) (ha1 : -9223372036854775808 ≤ a) (ha2 : a ≤ 9223372036854775807) :
    Calls Tryd.prog 27 #[.pointer (some ⟨g, 0, none⟩), .int .i64 row, .int .i64 a, .int .i64 z] w fun e w' => e = .returned (.int .i64 (eraseG W L row a z).2) ∧
      GrAt w' lo g rb bs W (eraseG W L row a z).1 ∧ Chg (GrOwn g rb bs) w w' := by
  unfold eraseG
  by_cases h1 : inB row 0 W L.length = false
  · rw [if_pos h1]
    exact (erase_range h row a z h1).mono fun e w' ⟨he, hb⟩ => ⟨he, h.below hb, Chg.of_below hb⟩
  · rw [if_neg h1]
    have a' : inB row 0 W L.length = true := by simpa using h1
    obtain ⟨a0, a1, a2, a3⟩ : 0 ≤ row ∧ row < L.length ∧ (0 : Int) ≤ 0 ∧ (0 : Int) < W := by have := h.w1; simp [inB] at a'; omega
    obtain ⟨r, rfl⟩ := Int.eq_ofNat_of_zero_le a0
    exact erase_ok h hT hlo r a z ha1 ha2 _ (getD_some (by omega))

theorem Sl.own_k {w : World} {base n c size : Nat} {e : TypeId} {A : Option Addr} {xs : List Value} (h : w.ownsRow base e size (.slice A n c) n xs) : Sl w w.heap.size A xs := by
  rcases h with ⟨hl, ⟨hv, rfl⟩ | ⟨g, cap, cur, hv, hb, hh, hn, hc, hcur, ht⟩⟩
  · have : xs = [] := List.eq_nil_of_length_eq_zero (by simpa using hl)
    exact .inl this
  · injection hv with hA _ _
    subst hA
    refine .inr ⟨g, 0, rfl, (Array.getElem?_eq_some_iff.1 hh).1, fun j u hu => ?_⟩
    rw [← ht, List.getElem?_take] at hu
    split at hu
    · simp [World.cell?, hh]
      simpa using hu
    · cases hu

theorem run_eql_snil (a : Addr) (m c : Nat) (w : World) : Sem.run Tryd.prog (binOp .eql 46 (.slice (some a) m c) (.slice none 0 0)) w = .ok (.bool false) w := by
  have h : ∀ d : Nat, (Op.equalIn (d + 1) 46 (.slice (some a) m c) (.slice none 0 0)).run Tryd.prog w = .ok false w := fun d => by
    simp [Op.equalIn, run_underlying Tryd.underlying46]
  simp only [binOp]
  simp [Op.equal, Op.maxDepth, h 9999]
set_option maxRecDepth 100000 in
set_option maxHeartbeats 4000000 in
theorem clone_any (l : List Cl) (m cap b off B : Nat) (hm : m = l.length) (h1 : m ≤ 100000) (w : World) (hS : Sl w B (some ⟨b, off, none⟩) (rc l)) (hB : B ≤ w.heap.size) :
    Calls Tryd.prog 45 #[.slice (some ⟨b, off, none⟩) m cap] w fun e w' => ∃ A c, e = .returned (.slice A m c) ∧ Sl w' w'.heap.size A (rc l) ∧ Below w.heap.size w w' := by
  obtain ⟨i0, hi0, hz0, hz1, hz2⟩ := info_parts cl_info
  have HI0 := Lib.hid hi0
  have HZ0 := Lib.hid hz0
  have HZ1 := Lib.hid hz1
  have HZ2 := Lib.hid hz2
  have HM := Lib.hid hm
  have HS := Lib.hid (hS.more hB)
  clear hi0 hz0 hz1 hz2 hm hS
  have he := run_eql_snil ⟨b, off, none⟩ m cap
  go_enter Tryd.func45, Tryd.ntmps45
  go_wp2_with (at_builtin; go_loud (refine wpList_append_sl _ rfl (.tmp 5) (.tmp 6) _ rfl w.heap.size 51 i0 _ 7 48 Tryd.underlying46 HI0.out HZ0.out HZ1.out HZ2.out rfl (by omega) (.slice (some ⟨w.heap.size, 0, none⟩) 0 0) 0 [] rfl (by have := World.ownsRow_lit (base := w.heap.size) (e := 51) (size := 7) w #[] 0 (Nat.le_refl _) (by simp only [maxLen]; omega) (by simp); simpa using this) w.heap.size (some ⟨b, off, none⟩) m cap (rc l) rfl (HS.out.alloc (Nat.le_refl _) _) (by rw [rc_length, HM.out]) (fun h => by cases h) (rc_one l) (by simp only [maxLen]; omega) (by omega) (by simp) ?_); intro v' w2 ho hg hat)
  obtain ⟨A', c', hv', _, _⟩ := own_of ho
  rw [Nat.zero_add, List.nil_append] at ho
  rw [Nat.zero_add] at hv'
  subst hv'
  go_wp2
  go_ret
  refine ⟨A', c', rfl, Sl.own_k ho, ((Below.refl _ _).alloc (Nat.le_refl _) _).grown hg (by simp) (fun k hk => by simp [Value.ownBlock] at hk; omega)⟩

set_option maxRecDepth 100000 in
set_option maxHeartbeats 1000000 in
theorem row_yes {w : World} {lo g rb W : Nat} {bs : List Nat} {L : List (List Cl)} (h : GrAt w lo g rb bs W L) (row : Nat) (l : List Cl) (hl : L[row]? = some l) :
    Calls Tryd.prog 18 #[.pointer (some ⟨g, 0, none⟩), .int .i64 row] w fun e w' => ∃ A c, e = .returned (.slice A W c) ∧ Sl w' w'.heap.size A (rc l) ∧ Below w.heap.size w w' := by
  have hr : row < L.length := (List.getElem?_eq_some_iff.1 hl).1
  have hw5 := h.w5
  have hw1 := h.w1
  have hh5 := h.h5
  have hri : (row : Int) < L.length := by omega
  obtain ⟨hlen, hwf⟩ := h.some_at hl
  have HIN := Lib.hid (show inB row 0 W L.length = true by unfold inB; simp; omega)
  have H := Lib.hid h
  have HL := Lib.hid hl
  have HLEN := Lib.hid hlen
  clear h hl hlen hwf
  go_enter Tryd.func18, Tryd.ntmps18
  go_wp2_with (fail)
  refine (has_bel H.out row 0).mono ?_
  rintro e w1 ⟨rfl, hb1⟩
  rw [HIN.out]
  have H1 := Lib.hid (H.out.below hb1)
  have HB1 := Lib.hid hb1
  have hs1 := H1.out.rws
  obtain ⟨b, l', hbi, hl', hrv, hlen', hwf', hb⟩ := H1.out.at_ hr
  obtain rfl : l' = l := by have := HL.out; rw [this] at hl'; injection hl' with hl'; exact hl'.symm
  unfold rowV at hrv
  have HB := Lib.hid hb
  clear hb1 hl' hlen' hwf' hb hbi
  go_wp2_with (go_at_call 45; refine (clone_any l' W W b 0 w1.heap.size HLEN.out.symm (by omega) w1 HB.out.sl (Nat.le_refl _)).mono ?_; rintro e w2 ⟨A, c, rfl, hs2, hb2⟩)
  go_ret
  exact ⟨A, c, rfl, hs2, HB1.out.trans (hb2.mono HB1.out.size)⟩

theorem row_no {w : World} {p : Option Addr} (row : Int) (hh : Calls Tryd.prog 35 #[.pointer p, .int .i64 row, .int .i64 0] w fun e w'' => e = .returned (.bool false) ∧ Below w.heap.size w w'') :
    Calls Tryd.prog 18 #[.pointer p, .int .i64 row] w fun e w' => e = .returned (.slice none 0 0) ∧ Below w.heap.size w w' := by
  have HH := Lib.hid hh
  clear hh
  go_enter Tryd.func18, Tryd.ntmps18
  go_wp2_with (go_at_call 35; refine HH.out.mono ?_; rintro e w1 ⟨rfl, hb1⟩)
  go_ret
  exact ⟨rfl, hb1⟩
theorem text_no {w : World} {p : Option Addr} (row : Int) (hh : Calls Tryd.prog 35 #[.pointer p, .int .i64 row, .int .i64 0] w fun e w'' => e = .returned (.bool false) ∧ Below w.heap.size w w'') :
    Calls Tryd.prog 26 #[.pointer p, .int .i64 row] w fun e w' => e = .returned (.string ⟨#[]⟩) ∧ Below w.heap.size w w' := by
  have HH := Lib.hid hh
  clear hh
  go_enter Tryd.func26, Tryd.ntmps26
  go_wp2_with (go_at_call 35; refine HH.out.mono ?_; rintro e w1 ⟨rfl, hb1⟩)
  go_ret
  exact ⟨rfl, hb1⟩
end Go.Proofs.YtijbimofigkdkaaDoor
