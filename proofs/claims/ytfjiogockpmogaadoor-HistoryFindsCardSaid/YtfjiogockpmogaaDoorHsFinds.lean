/-
  Walk: HistoryFinds.
-/
import Derived.Test.YtfjiogockpmogaaDoorHsFind2
import Derived.Test.YtfjiogockpmogaaDoorHsFil
import Derived.Test.YtfjiogockpmogaaDoorHsAwake
namespace Go.Proofs.YtfjiogockpmogaaDoor
open Go.RowKit Go.Shelf Go.Sort
set_option linter.unusedVariables false
set_option linter.unusedSimpArgs false
set_option maxRecDepth 100000

theorem findR_all {L : List (List UInt8)} : findR (fun l => Lib.contains l []) ((hats L).drop 0) = (0, decide (0 < L.length)) := by
  cases L with
  | nil => rfl
  | cons x l =>
    have h := findR_at (P := fun l => Lib.contains l []) (L := x :: l) (a := 0) (k := 0) (x := x) rfl (Nat.le_refl _) (fun j h1 h2 => by omega) (by simp [Lib.contains, Lib.index_empty])
    rw [h]
    simp
set_option maxHeartbeats 8000000 in
theorem historyFinds_walk (X : Option Addr) (m dd : Nat) (l0 : List (List UInt8)) (s1 : ByteArray) (hs1 : s1.size ≤ maxLen) (a : Int) (ha : a ≤ 9223372036854775807) (w : World) (hT : Tabs w) (mx : Int) (hM : MaxL w mx) (hm : m = l0.length) (hmx : m ≤ maxLen) (hX : Sl w w.heap.size X (sv l0)) (hlen : ∀ s ∈ l0, s.length ≤ maxLen) :
    Calls Tryd.prog 4 #[.slice X m dd, .string s1, .int .i64 a] w fun e w' => e = .returned (.bool true) ∧ Below w.heap.size w w' := by
  have HT := Lib.hid hT
  have HM := Lib.hid hM
  have HFIL := Lib.hid (filled_any 30 (by omega) (by omega) l0 X m dd hm hmx w hT hX hlen)
  have HC1 := Lib.hid (hcut_any s1 hs1)
  have hd60 := cut60_len s1.data.toList
  generalize cut60 s1.data.toList = d at *
  clear hT hM hm hmx hX hlen hs1
  go_enter Tryd.func4, Tryd.ntmps4
  go_wp2_with (fail)
  refine HFIL.out.mono ?_
  rintro e w1 ⟨h, A, c, rfl, hq1, hb1⟩
  generalize fillL 30 [] (l0.take 40) = L at hq1
  have hl4 : L.length ≤ 30 := hq1.le
  have hok : ∀ x ∈ L, x.length ≤ 3000 := fun x hx => (hq1.ok x hx).2
  have HOK := Lib.hid hok
  have Q1 := Lib.hid hq1
  have HB1 := Lib.hid hb1
  clear hq1 hb1 HFIL hok
  have HTOLD : Hid (∀ V, Below w1.heap.size w1 V → Calls Tryd.prog 13 #[.pointer (some ⟨h, 0, none⟩), .int .i64 1000] V (ToldH V L)) := Lib.hid (fun V hV => by
    have h1 := told_yes (Q1.out.below hV) 1000
    rw [List.take_of_length_le (by omega)] at h1
    exact h1)
  obtain ⟨r, hr⟩ : ∃ r, findR (fun l => Lib.contains l d) ((hats L).drop (max a 0).toNat) = r := ⟨_, rfl⟩
  have HF : Hid (∀ V, Below w1.heap.size w1 V → Calls Tryd.prog 17 #[.pointer (some ⟨h, 0, none⟩), .string ⟨d.toArray⟩, .int .i64 a] V fun e w' => e = .returned (.tuple #[.int .i64 r.1, .bool r.2]) ∧ Below V.heap.size V w') := Lib.hid (fun V hV => by
    have h1 := hfind_yes (Q1.out.below hV) d a ha (HM.out.below (HB1.out.trans (hV.mono HB1.out.size)))
    rw [hr] at h1
    exact h1)
  have HF0 : Hid (∀ V, Below w1.heap.size w1 V → Calls Tryd.prog 17 #[.pointer (some ⟨h, 0, none⟩), .string ⟨#[]⟩, .int .i64 0] V fun e w' => e = .returned (.tuple #[.int .i64 0, .bool (decide (0 < L.length))]) ∧ Below V.heap.size V w') := Lib.hid (fun V hV => by
    have h1 := hfind_yes (Q1.out.below hV) [] 0 (by omega) (HM.out.below (HB1.out.trans (hV.mono HB1.out.size)))
    have e : (max (0 : Int) 0).toNat = 0 := by omega
    rw [e, findR_all] at h1
    exact h1)
  have HRF : Hid (∀ V A9 c9, Sl V V.heap.size A9 (sv L) → Calls Tryd.prog 18 #[.agg #[.int .i64 0, .slice A9 L.length c9, .bool false, .string ⟨#[]⟩, .string ⟨#[]⟩, .int .i64 0], .string ⟨d.toArray⟩, .int .i64 a] V fun e w' => e = .returned (.tuple #[.int .i64 r.1, .bool r.2]) ∧ Below V.heap.size V w') := Lib.hid (fun V A9 c9 hS => by
    have h1 := rfind14_any L HOK.out A9 L.length c9 d (by omega) a V rfl (by omega) hS
    rw [hr] at h1
    exact h1)
  clear hr
  obtain ⟨r1, r2⟩ := r
  simp only at HF HRF
  have hB8 := Blk.new w1 29 [.int .i64 0, .slice none 0 0, .bool false, .string ⟨#[]⟩, .string ⟨#[]⟩, .int .i64 0]
  have hb8 := (Below.refl w1.heap.size w1).alloc (Nat.le_refl _) (.cells #[.int .i64 0, .slice none 0 0, .bool false, .string ⟨#[]⟩, .string ⟨#[]⟩, .int .i64 0] 29)
  obtain ⟨w2, hw2⟩ : ∃ w2, w2 = w1.alloc (.cells #[.int .i64 0, .slice none 0 0, .bool false, .string ⟨#[]⟩, .string ⟨#[]⟩, .int .i64 0] 29) := ⟨_, rfl⟩
  have HB8 : Hid (Blk w2 w1.heap.size 29 [.int .i64 0, .slice none 0 0, .bool false, .string ⟨#[]⟩, .string ⟨#[]⟩, .int .i64 0]) := Lib.hid (by rw [hw2]; exact hB8)
  have HB2 : Hid (Below w1.heap.size w1 w2) := Lib.hid (by rw [hw2]; exact hb8)
  clear hB8 hb8
  go_wp2_with (go_at_call 13; rw [← hw2]; refine (HTOLD.out _ HB2.out).mono ?_; rintro e w3 ⟨A9, c9, rfl, ho3, hb3⟩; have HO3 := Lib.hid ho3; have HB3 := Lib.hid hb3; have hB3 := HB8.out.below hb3 HB8.out.lt; have HK3 := Lib.hid hB3; have m1 := hB3.cell 1; have f1 := hB3.frozen 1; clear ho3 hb3 hB3)
  refine (HC1.out _).mono ?_
  rintro e w4 ⟨rfl, rfl⟩
  have hz2 : w2.heap.size = w1.heap.size + 1 := by rw [hw2]; simp
  have hb4 : Below w1.heap.size w1 (w3.setCell ⟨w1.heap.size, 1, none⟩ (.slice A9 L.length c9)) := (HB2.out.trans (HB3.out.mono HB2.out.size)).setCell (p := ⟨w1.heap.size, 1, none⟩) (Nat.le_refl _) _
  have ho4 : OR (w3.setCell ⟨w1.heap.size, 1, none⟩ (.slice A9 L.length c9)) w2.heap.size 9 A9 L.length c9 (sv L) := HO3.out.kept (grown_setO w3 w1.heap.size 1 _) (.inr (fun e => by have := (HO3.out.blk_lt _ e).1; omega))
  have hk4 := HK3.out.set_ 1 (.slice A9 L.length c9)
  have HB4 := Lib.hid hb4
  have HO4 := Lib.hid ho4
  have HK4 : Hid (Blk (w3.setCell ⟨w1.heap.size, 1, none⟩ (.slice A9 L.length c9)) w1.heap.size 29 [.int .i64 0, .slice A9 L.length c9, .bool false, .string ⟨#[]⟩, .string ⟨#[]⟩, .int .i64 0]) := Lib.hid hk4
  clear hb4 ho4 hk4 hw2 hz2 m1 f1
  generalize w3.setCell ⟨w1.heap.size, 1, none⟩ (.slice A9 L.length c9) = w4 at *
  go_wp2_with (fail)
  refine (HF.out _ HB4.out).mono ?_
  rintro e w5 ⟨rfl, hb5⟩
  have HB5 := Lib.hid (HB4.out.trans (hb5.mono HB4.out.size))
  have HK5 := Lib.hid (HK4.out.below hb5 HK4.out.lt)
  have HO5 := Lib.hid (HO4.out.on hb5)
  clear hb5
  have n0 := HK5.out.cell 0
  have n1 := HK5.out.cell 1
  have n2 := HK5.out.cell 2
  have n3 := HK5.out.cell 3
  have n4 := HK5.out.cell 4
  have n5 := HK5.out.cell 5
  simp only [List.getElem?_cons_succ, List.getElem?_cons_zero] at n0 n1 n2 n3 n4 n5
  go_wp2_with (fail)
  refine (HRF.out _ _ _ HO5.out.sl).mono ?_
  rintro e w6 ⟨rfl, hb6⟩
  have HB6 := Lib.hid (HB5.out.trans (hb6.mono HB5.out.size))
  clear hb6 n0 n1 n2 n3 n4 n5
  rcases Nat.eq_zero_or_pos L.length with hz | hz
  · obtain rfl : L = [] := List.eq_nil_of_length_eq_zero hz
    simp only [List.length_nil, Nat.lt_irrefl, decide_false] at HF0
    have HF1 := Lib.hid HF0.out
    clear HF0 hz
    simp only [List.length_nil]
    go_wp2_with (fail)
    refine (HF1.out _ HB6.out).mono ?_
    rintro e w7 ⟨rfl, hb7⟩
    have HB7 := Lib.hid (HB6.out.trans (hb7.mono HB6.out.size))
    clear hb7
    go_wp2_with (fail)
    refine (hawake_any _ (HT.out.below (HB1.out.trans (HB7.out.mono HB1.out.size)))).mono ?_
    rintro e w8 ⟨rfl, hb8⟩
    have HB8' := Lib.hid (HB7.out.trans (hb8.mono HB7.out.size))
    clear hb8
    go_wp2_with (fail)
    go_ret
    exact ⟨rfl, HB1.out.trans (HB8'.out.mono HB1.out.size)⟩
  · have hq : (0 : Int) < (L.length : Int) := by omega
    simp only [hz, decide_true] at HF0
    have HF1 := Lib.hid HF0.out
    clear HF0 hz
    go_wp2_with (fail)
    refine (HF1.out _ HB6.out).mono ?_
    rintro e w7 ⟨rfl, hb7⟩
    have HB7 := Lib.hid (HB6.out.trans (hb7.mono HB6.out.size))
    clear hb7
    go_wp2_with (fail)
    refine (hawake_any _ (HT.out.below (HB1.out.trans (HB7.out.mono HB1.out.size)))).mono ?_
    rintro e w8 ⟨rfl, hb8⟩
    have HB8' := Lib.hid (HB7.out.trans (hb8.mono HB7.out.size))
    clear hb8
    go_wp2_with (fail)
    go_ret
    exact ⟨rfl, HB1.out.trans (HB8'.out.mono HB1.out.size)⟩
end Go.Proofs.YtfjiogockpmogaaDoor
