/-
  Walks: unmodified, Name.
-/
import Derived.Test.YteolafeeggjblaaDoorKnDec
import Derived.Test.YteolafeeggjblaaDoorKnShelf
namespace Go.Proofs.YteolafeeggjblaaDoor
open Go.RowKit Go.Sort
set_option linter.unusedVariables false
set_option linter.unusedSimpArgs false

def nameT : List (List UInt8) := [[], [116, 101, 120, 116], [101, 110, 116, 101, 114], [116, 97, 98], [98, 97, 99, 107, 116, 97, 98], [101, 115, 99, 97, 112, 101], [98, 97, 99, 107, 115, 112, 97, 99, 101], [100, 101, 108, 101, 116, 101], [117, 112], [100, 111, 119, 110], [108, 101, 102, 116], [114, 105, 103, 104, 116], [104, 111, 109, 101], [101, 110, 100], [112, 97, 103, 101, 117, 112], [112, 97, 103, 101, 100, 111, 119, 110], [112, 97, 115, 116, 101]]
def baseN (k : Kv) : List UInt8 :=
  if k.c = 17 then [99, 116, 114, 108, 45] ++ k.s
  else if k.c = 18 ∧ 1 ≤ k.n ∧ k.n ≤ 12 then 102 :: Lib.decDigits k.n.toNat
  else if 1 ≤ k.c ∧ k.c ≤ 16 then nameT.getD k.c.toNat [] else []
/-- the names' table lies in memory -/
def NamesT (w : World) : Prop := ∀ i, i < 17 → w.cell? ⟨0, i, none⟩ = some (.string ⟨(nameT.getD i []).toArray⟩)
theorem cat_arr (a b : List UInt8) : (⟨a.toArray⟩ : ByteArray) ++ ⟨b.toArray⟩ = ⟨(a ++ b).toArray⟩ := by
  apply ByteArray.ext
  simp

set_option maxRecDepth 100000 in
set_option maxHeartbeats 4000000 in
theorem unmodified_any (k : Kv) (hs : k.s.length ≤ 140737488351232) (w : World) (hT : NamesT w) :
    Calls Tryd.prog 28 #[.agg #[.int .i64 k.c, .string ⟨k.s.toArray⟩, .int .i64 k.n, .bool k.a, .bool k.h, .bool k.t]] w fun e w' => e = .returned (.string ⟨(baseN k).toArray⟩) ∧ Below w.heap.size w w' := by
  obtain ⟨c, s, n, a, h, t⟩ := k
  obtain ⟨R, hR⟩ : ∃ R : ByteArray, R = ⟨(baseN ⟨c, s, n, a, h, t⟩).toArray⟩ := ⟨_, rfl⟩
  rw [← hR]
  have HR := Lib.hid hR
  have HT := Lib.hid hT
  clear hR hT
  obtain ⟨b, hb⟩ : ∃ b : ByteArray, b = ⟨s.toArray⟩ := ⟨_, rfl⟩
  have hsz : b.size = s.length := by rw [hb]; simp [ByteArray.size]
  have HB := Lib.hid hb
  show Calls _ _ #[.agg #[.int .i64 c, .string ⟨s.toArray⟩, .int .i64 n, .bool a, .bool h, .bool t]] w _
  rw [← hb]
  clear hb
  have hs' : s.length ≤ 140737488351232 := hs
  have hno : ¬ 9223372036854775807 < 5 + s.length := by omega
  clear hs
  by_cases h17 : c = 17
  · subst h17
    have HE : Hid (R = ⟨#[99, 116, 114, 108, 45]⟩ ++ b) := Lib.hid (by rw [HR.out, HB.out, show (⟨#[99, 116, 114, 108, 45]⟩ : ByteArray) = ⟨[99, 116, 114, 108, 45].toArray⟩ from rfl, cat_arr]; rfl)
    go_enter Tryd.func28, Tryd.ntmps28
    go_wp2_with (fail)
    go_ret
    exact ⟨by rw [HE.out]; rfl, kbel _ _⟩
  have i17 : (c == 17) = false := by simpa using h17
  by_cases h18 : c = 18 ∧ 1 ≤ n ∧ n ≤ 12
  · obtain ⟨rfl, hn1, hn2⟩ := h18
    obtain ⟨m, rfl⟩ : ∃ m : Nat, n = m := ⟨n.toNat, by omega⟩
    have HI := Lib.hid (sh_Itoa_small m (by omega))
    have HE : Hid (R = ⟨#[102]⟩ ++ ⟨(Lib.decDigits m).toArray⟩) := Lib.hid (by rw [HR.out, show (⟨#[102]⟩ : ByteArray) = ⟨[102].toArray⟩ from rfl, cat_arr]; unfold baseN; rw [if_neg h17, if_pos ⟨rfl, hn1, hn2⟩]; rfl)
    have hd : (Lib.decDigits m).length ≤ 2 := by
      have : m = 1 ∨ m = 2 ∨ m = 3 ∨ m = 4 ∨ m = 5 ∨ m = 6 ∨ m = 7 ∨ m = 8 ∨ m = 9 ∨ m = 10 ∨ m = 11 ∨ m = 12 := by omega
      rcases this with rfl | rfl | rfl | rfl | rfl | rfl | rfl | rfl | rfl | rfl | rfl | rfl <;> simp [Lib.decDigits]
    obtain ⟨d, hd'⟩ : ∃ d : ByteArray, d = ⟨(Lib.decDigits m).toArray⟩ := ⟨_, rfl⟩
    have hdz : d.size ≤ 2 := by rw [hd']; simpa [ByteArray.size] using hd
    rw [← hd'] at HI HE
    have hno2 : ¬ 9223372036854775807 < 1 + d.size := by omega
    clear hd hd' i17 h17
    go_enter Tryd.func28, Tryd.ntmps28
    go_wp2_with (go_at_call 37; refine (HI.out _).mono ?_; rintro e w1 ⟨rfl, rfl⟩)
    go_ret
    exact ⟨by rw [HE.out]; rfl, kbel _ _⟩
  by_cases hi : 1 ≤ c ∧ c ≤ 16
  · obtain ⟨i, rfl⟩ : ∃ i : Nat, c = i := ⟨c.toNat, by omega⟩
    have HE : Hid (R = ⟨(nameT.getD i []).toArray⟩) := Lib.hid (by rw [HR.out]; unfold baseN; rw [if_neg h17, if_neg h18, if_pos hi]; rfl)
    have hx := HT.out i (by omega)
    obtain ⟨d, hd⟩ : ∃ d : ByteArray, d = ⟨(nameT.getD i []).toArray⟩ := ⟨_, rfl⟩
    rw [← hd] at HE hx
    have hx2 : (w.alloc (.cells #[.int .i64 i, .string b, .int .i64 n, .bool a, .bool h, .bool t] 40)).cell? ⟨0, i, none⟩ = some (.string d) := (World.cell?_alloc_old _ _ _ (Nat.ne_of_lt (World.block_lt_of_cell? _ _ hx))).trans hx
    have i18 : ((i : Int) == 18) = false := by simp; omega
    have hi1 : 0 < (i : Int) := by omega
    have hi2 : (i : Int) < 17 := by omega
    clear hd h17 h18 hi hx
    go_enter Tryd.func28, Tryd.ntmps28
    go_wp2_with (fail)
    go_ret
    exact ⟨by rw [HE.out]; rfl, kbel _ _⟩
  · have HE : Hid (R = ⟨#[]⟩) := Lib.hid (by rw [HR.out]; unfold baseN; rw [if_neg h17, if_neg h18, if_neg hi])
    have hc : (c ≤ 0 ∧ ¬ c = 18) ∨ (c = 18 ∧ n < 1) ∨ (c = 18 ∧ ¬ n < 1 ∧ 12 < n) ∨ (18 < c ∧ ¬ c = 18) := by omega
    clear h18 hi h17
    rcases hc with ⟨h1, h2⟩ | ⟨rfl, h2⟩ | ⟨rfl, h1, h2⟩ | ⟨h1, h2⟩
    · have i18 : (c == 18) = false := by simpa using h2
      clear h2
      go_enter Tryd.func28, Tryd.ntmps28
      go_wp2_with (fail)
      go_ret
      exact ⟨by rw [HE.out]; rfl, kbel _ _⟩
    · go_enter Tryd.func28, Tryd.ntmps28
      go_wp2_with (fail)
      go_ret
      exact ⟨by rw [HE.out]; rfl, kbel _ _⟩
    · go_enter Tryd.func28, Tryd.ntmps28
      go_wp2_with (fail)
      go_ret
      exact ⟨by rw [HE.out]; rfl, kbel _ _⟩
    · have i18 : (c == 18) = false := by simpa using h2
      have h3 : ¬ c < 17 := by omega
      have h4 : 0 < c := by omega
      clear h2
      go_enter Tryd.func28, Tryd.ntmps28
      go_wp2_with (fail)
      go_ret
      exact ⟨by rw [HE.out]; rfl, kbel _ _⟩

def nameK (k : Kv) : List UInt8 :=
  if baseN k = [] then []
  else (if k.a = true then [97, 108, 116, 45] else []) ++ ((if k.t = true then [99, 116, 108, 45] else []) ++ ((if k.h = true then [115, 104, 105, 102, 116, 45] else []) ++ baseN k))
theorem baseN_len (k : Kv) (hs : k.s.length ≤ 140737488351232) : (baseN k).length ≤ 140737488351237 := by
  unfold baseN
  by_cases h1 : k.c = 17
  · rw [if_pos h1]; simp; omega
  · rw [if_neg h1]
    by_cases h2 : k.c = 18 ∧ 1 ≤ k.n ∧ k.n ≤ 12
    · rw [if_pos h2]
      obtain ⟨_, h3, h4⟩ := h2
      obtain ⟨m, hm⟩ : ∃ m : Nat, k.n = m := ⟨k.n.toNat, by omega⟩
      rw [hm, Int.toNat_natCast]
      have : m = 1 ∨ m = 2 ∨ m = 3 ∨ m = 4 ∨ m = 5 ∨ m = 6 ∨ m = 7 ∨ m = 8 ∨ m = 9 ∨ m = 10 ∨ m = 11 ∨ m = 12 := by omega
      rcases this with rfl | rfl | rfl | rfl | rfl | rfl | rfl | rfl | rfl | rfl | rfl | rfl <;> simp [Lib.decDigits]
    · rw [if_neg h2]
      by_cases h3 : 1 ≤ k.c ∧ k.c ≤ 16
      · rw [if_pos h3]
        obtain ⟨m, hm⟩ : ∃ m : Nat, k.c = m := ⟨k.c.toNat, by omega⟩
        rw [hm, Int.toNat_natCast]
        have hml : m < 17 := by omega
        have : ∀ m, m < 17 → (nameT.getD m []).length ≤ 140737488351237 := by decide
        exact this m hml
      · rw [if_neg h3]; simp

set_option maxRecDepth 100000 in
set_option maxHeartbeats 8000000 in
theorem name_any (k : Kv) (hs : k.s.length ≤ 140737488351232) (w : World) (hT : NamesT w) :
    Calls Tryd.prog 17 #[.agg #[.int .i64 k.c, .string ⟨k.s.toArray⟩, .int .i64 k.n, .bool k.a, .bool k.h, .bool k.t]] w fun e w' => e = .returned (.string ⟨(nameK k).toArray⟩) ∧ Below w.heap.size w w' := by
  have hlen := baseN_len k hs
  have HQ := Lib.hid (fun W (hW : Below w.heap.size w W) => unmodified_any k hs W (fun i hi => (hW.cell (p := ⟨0, i, none⟩) (World.block_lt_of_cell? _ _ (hT i hi))).trans (hT i hi)))
  obtain ⟨N, hN⟩ : ∃ N : ByteArray, N = ⟨(baseN k).toArray⟩ := ⟨_, rfl⟩
  rw [← hN] at HQ
  have hNs : N.size ≤ 140737488351237 := by rw [hN]; simpa [ByteArray.size] using hlen
  have hNl : N.toList = baseN k := by rw [hN, Lib.toList_data]
  have HW : Hid (Below w.heap.size w (w.alloc (.cells #[.int .i64 k.c, .string ⟨k.s.toArray⟩, .int .i64 k.n, .bool k.a, .bool k.h, .bool k.t] 40))) := Lib.hid (kbel _ _)
  have HBK : Hid (Blk (w.alloc (.cells #[.int .i64 k.c, .string ⟨k.s.toArray⟩, .int .i64 k.n, .bool k.a, .bool k.h, .bool k.t] 40)) w.heap.size 40 k.cells) := Lib.hid (Blk.new w 40 k.cells)
  obtain ⟨R, hR⟩ : ∃ R : ByteArray, R = ⟨(nameK k).toArray⟩ := ⟨_, rfl⟩
  rw [← hR]
  have HR := Lib.hid hR
  have HN := Lib.hid hN
  clear hR hN hlen hT hs
  have hl0 : (w.alloc (.cells #[.int .i64 k.c, .string ⟨k.s.toArray⟩, .int .i64 k.n, .bool k.a, .bool k.h, .bool k.t] 40)).cell? ⟨w.heap.size, 0, none⟩ = some (.int .i64 k.c) := HBK.out.cell 0
  by_cases h0 : baseN k = []
  · have HE : Hid (R = ⟨#[]⟩) := Lib.hid (by rw [HR.out]; unfold nameK; rw [if_pos h0])
    have hE1 : N.toList.isEmpty = true := by rw [hNl, h0]; rfl
    have hE2 : N.toList = [] := by rw [hNl, h0]
    clear h0 hNl hl0
    go_enter Tryd.func17, Tryd.ntmps17
    go_wp2_with (go_at_call 28; refine (HQ.out _ HW.out).mono ?_; rintro e w1 ⟨rfl, hb1⟩; have HB1 := Lib.hid (kstep HW.out hb1); clear hb1)
    go_ret
    exact ⟨by rw [HE.out]; rfl, HB1.out⟩
  · have hE1 : N.toList.isEmpty = false := by
      rw [hNl]
      cases hb : baseN k with
      | nil => exact absurd hb h0
      | cons => rfl
    have HE : Hid (R = ⟨((if k.a = true then [97, 108, 116, 45] else []) ++ ((if k.t = true then [99, 116, 108, 45] else []) ++ ((if k.h = true then [115, 104, 105, 102, 116, 45] else []) ++ baseN k))).toArray⟩) := Lib.hid (by rw [HR.out]; unfold nameK; rw [if_neg h0])
    clear h0 hNl hl0
    cases ha : k.a <;> cases hh : k.h <;> cases ht : k.t
    all_goals
      rw [ha, hh, ht] at HE
      have HF := Lib.hid ha
      have HG := Lib.hid hh
      have HJ := Lib.hid ht
      rw [ha, hh, ht] at HQ HW HBK
      clear ha hh ht
      go_enter Tryd.func17, Tryd.ntmps17
      go_wp2_with (go_at_call 28; refine (HQ.out _ HW.out).mono ?_; rintro e w1 ⟨rfl, hb1⟩; have HB1 := Lib.hid (kstep HW.out hb1); have hk1 := HBK.out.below hb1 HBK.out.lt; have c3 := hk1.cell 3; have c4 := hk1.cell 4; have c5 := hk1.cell 5; simp only [Kv.cells, List.getElem?_cons_succ, List.getElem?_cons_zero, HF.out, HG.out, HJ.out] at c3 c4 c5; clear hb1 hk1)
      go_ret
      refine ⟨?_, HB1.out⟩
      rw [HE.out, HN.out]
      simp only [cat_arr]
      rfl
end Go.Proofs.YteolafeeggjblaaDoor
