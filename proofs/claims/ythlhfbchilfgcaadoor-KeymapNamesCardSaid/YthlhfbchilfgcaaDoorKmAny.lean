/-
  Walks: Check and Name of any key whose text is short.
-/
import Derived.Test.YthlhfbchilfgcaaDoorKmBind
import Derived.Test.YthlhfbchilfgcaaDoorKmShelf2
namespace Go.Proofs.YthlhfbchilfgcaaDoor
open Go.RowKit
set_option linter.unusedVariables false
set_option linter.unusedSimpArgs false

/-- the digits of a number from 1 to 12 -/
def digK (n : Int) : List UInt8 := Lib.decDigits n.toNat
/-- a key's name without modifiers -/
def baseF (k : Kv) : List UInt8 := if k.c = 18 then 102 :: digK k.n else baseN k
def nameF (k : Kv) : List UInt8 :=
  if chk k = true then (if k.a = true then [97, 108, 116, 45] else []) ++ ((if k.t = true then [99, 116, 108, 45] else []) ++ ((if k.h = true then [115, 104, 105, 102, 116, 45] else []) ++ baseF k)) else []

theorem isC8_no (c : UInt8) (h : isC8 c = false) : (c.toNat : Int) ≠ 64 ∧ (c.toNat : Int) ≠ 91 ∧ (c.toNat : Int) ≠ 92 ∧ (c.toNat : Int) ≠ 93 ∧ (c.toNat : Int) ≠ 94 ∧ (c.toNat : Int) ≠ 95 ∧ ((c.toNat : Int) < 97 ∨ 122 < (c.toNat : Int)) := by
  unfold isC8 at h
  simp [UInt8.le_iff_toNat_le] at h
  obtain ⟨⟨⟨⟨⟨⟨h1, h2⟩, h3⟩, h4⟩, h5⟩, h6⟩, h7⟩ := h
  have e : ∀ n : Nat, n < 256 → c ≠ UInt8.ofNat n → (c.toNat : Int) ≠ n := fun n hn hne h => hne ((u8_of c n hn).1 h)
  refine ⟨e 64 (by omega) h1, e 91 (by omega) h2, e 92 (by omega) h3, e 93 (by omega) h4, e 94 (by omega) h5, e 95 (by omega) h6, ?_⟩
  by_cases h8 : 97 ≤ c.toNat
  · have := h7 h8
    right
    have h9 : 122 < c.toNat := by simpa [UInt8.lt_iff_toNat_lt] using this
    omega
  · left; omega
set_option maxRecDepth 100000 in
set_option maxHeartbeats 2000000 in
theorem isControlled_any (c : UInt8) (w : World) :
    Calls Tryd.prog 57 #[.int .u8 c.toNat] w fun e w' => e = .returned (.bool (isC8 c)) ∧ w = w' := by
  cases h : isC8 c with
  | true => exact isControlled_yes c h w
  | false =>
    obtain ⟨h1, h2, h3, h4, h5, h6, h7⟩ := isC8_no c h
    clear h
    generalize (c.toNat : Int) = z at h1 h2 h3 h4 h5 h6 h7 ⊢
    have e1 : (z == 64) = false := by simp; omega
    have e2 : (z == 91) = false := by simp; omega
    have e3 : (z == 92) = false := by simp; omega
    have e4 : (z == 93) = false := by simp; omega
    have e5 : (z == 94) = false := by simp; omega
    have e6 : (z == 95) = false := by simp; omega
    by_cases h8 : 97 ≤ z
    · have h9 : ¬ z ≤ 122 := by omega
      clear h1 h2 h3 h4 h5 h6 h7
      go_enter Tryd.func57, Tryd.ntmps57
      go_wp2_with (fail)
      go_ret
      exact ⟨rfl, rfl⟩
    · clear h1 h2 h3 h4 h5 h6 h7
      go_enter Tryd.func57, Tryd.ntmps57
      go_wp2_with (fail)
      go_ret
      exact ⟨rfl, rfl⟩
set_option maxRecDepth 100000 in
set_option maxHeartbeats 4000000 in
theorem validText_any (k : Kv) (hk : k.s.length ≤ 100) (w : World) :
    Calls Tryd.prog 39 #[.agg #[.int .i64 k.c, .string ⟨k.s.toArray⟩, .int .i64 k.n, .bool k.a, .bool k.h, .bool k.t]] w fun e w' => e = .returned (.bool (vText k)) ∧ Below w.heap.size w w' := by
  obtain ⟨c, s, n, a, h, t⟩ := k
  simp only at hk ⊢
  by_cases h1 : c = 1 ∨ c = 16
  · have hv : vText ⟨c, s, n, a, h, t⟩ = true := by unfold vText; rw [if_pos h1]; simp; omega
    rw [hv]
    obtain ⟨q, hq⟩ : ∃ q : ByteArray, q = ⟨s.toArray⟩ := ⟨_, rfl⟩
    have hsz : (q.size : Int) ≤ 65536 := by rw [hq]; simp [ByteArray.size]; omega
    rw [← hq]
    clear hq hk hv
    rcases h1 with rfl | rfl
    all_goals
      go_enter Tryd.func39, Tryd.ntmps39
      go_wp2_with (fail)
      go_ret
      exact ⟨rfl, kbel _ _⟩
  · have h2 : c ≠ 1 := fun e => h1 (.inl e)
    have h3 : c ≠ 16 := fun e => h1 (.inr e)
    have e1 : (c == 1) = false := by simpa using h2
    have e2 : (c == 16) = false := by simpa using h3
    by_cases h4 : c = 17
    · subst h4
      clear e1 e2
      match s, hk with
      | [], _ =>
        have hv : vText ⟨17, [], n, a, h, t⟩ = false := rfl
        rw [hv]
        clear hv h1 h2 h3
        go_enter Tryd.func39, Tryd.ntmps39
        go_wp2_with (fail)
        go_ret
        exact ⟨rfl, kbel _ _⟩
      | [b], _ =>
        have hv : vText ⟨17, [b], n, a, h, t⟩ = isC8 b := rfl
        rw [hv]
        have HC := Lib.hid (isControlled_any b)
        clear hv h1 h2 h3
        generalize isC8 b = v at HC ⊢
        go_enter Tryd.func39, Tryd.ntmps39
        go_wp2_with (go_at_call 57; refine (HC.out _).mono ?_; rintro e w1 ⟨rfl, rfl⟩)
        go_ret
        exact ⟨rfl, kbel _ _⟩
      | b :: d :: s, hk =>
        have hv : vText ⟨17, b :: d :: s, n, a, h, t⟩ = false := rfl
        rw [hv]
        obtain ⟨q, hq⟩ : ∃ q : ByteArray, q = ⟨(b :: d :: s).toArray⟩ := ⟨_, rfl⟩
        have hsz : ((q.size : Int) == 1) = false := by rw [hq]; simp [ByteArray.size]; omega
        rw [← hq]
        clear hv h1 h2 h3 hq hk
        go_enter Tryd.func39, Tryd.ntmps39
        go_wp2_with (fail)
        go_ret
        exact ⟨rfl, kbel _ _⟩
    · have e3 : (c == 17) = false := by simpa using h4
      have hv : vText ⟨c, s, n, a, h, t⟩ = decide (1 ≤ c ∧ c ≤ 18 ∧ s = []) := by unfold vText; rw [if_neg h1, if_neg h4]
      rw [hv]
      clear hv h1
      by_cases h5 : 1 ≤ c
      · by_cases h6 : c ≤ 18
        · have hd : decide (1 ≤ c ∧ c ≤ 18 ∧ s = []) = (⟨s.toArray⟩ : ByteArray).toList.isEmpty := by
            rw [Lib.toList_data]
            cases s with
            | nil => simp; omega
            | cons b s => simp
          rw [hd]
          generalize (⟨s.toArray⟩ : ByteArray) = q
          clear hd hk h2 h3 h4
          go_enter Tryd.func39, Tryd.ntmps39
          go_wp2_with (fail)
          go_ret
          exact ⟨rfl, kbel _ _⟩
        · have hd : decide (1 ≤ c ∧ c ≤ 18 ∧ s = []) = false := by simp; intro _ h; omega
          rw [hd]
          generalize (⟨s.toArray⟩ : ByteArray) = q
          clear hd hk h2 h3 h4
          go_enter Tryd.func39, Tryd.ntmps39
          go_wp2_with (fail)
          go_ret
          exact ⟨rfl, kbel _ _⟩
      · have hd : decide (1 ≤ c ∧ c ≤ 18 ∧ s = []) = false := by simp; intro h; omega
        rw [hd]
        generalize (⟨s.toArray⟩ : ByteArray) = q
        clear hd hk h2 h3 h4
        go_enter Tryd.func39, Tryd.ntmps39
        go_wp2_with (fail)
        go_ret
        exact ⟨rfl, kbel _ _⟩
set_option maxRecDepth 100000 in
set_option maxHeartbeats 2000000 in
theorem validNumber_any (k : Kv) (w : World) :
    Calls Tryd.prog 40 #[.agg #[.int .i64 k.c, .string ⟨k.s.toArray⟩, .int .i64 k.n, .bool k.a, .bool k.h, .bool k.t]] w fun e w' => e = .returned (.bool (vNum k)) ∧ Below w.heap.size w w' := by
  obtain ⟨c, s, n, a, h, t⟩ := k
  simp only
  generalize hv : vNum ⟨c, s, n, a, h, t⟩ = v
  generalize (⟨s.toArray⟩ : ByteArray) = q
  by_cases h1 : c = 18
  · subst h1
    by_cases h2 : 1 ≤ n
    · by_cases h3 : n ≤ 12
      · have : v = true := by rw [← hv]; unfold vNum; rw [if_pos rfl]; simp; omega
        subst this
        clear hv
        go_enter Tryd.func40, Tryd.ntmps40
        go_wp2_with (fail)
        go_ret
        exact ⟨rfl, kbel _ _⟩
      · have : v = false := by rw [← hv]; unfold vNum; rw [if_pos rfl]; simp; omega
        subst this
        clear hv
        go_enter Tryd.func40, Tryd.ntmps40
        go_wp2_with (fail)
        go_ret
        exact ⟨rfl, kbel _ _⟩
    · have : v = false := by rw [← hv]; unfold vNum; rw [if_pos rfl]; simp; omega
      subst this
      clear hv
      go_enter Tryd.func40, Tryd.ntmps40
      go_wp2_with (fail)
      go_ret
      exact ⟨rfl, kbel _ _⟩
  · have e1 : (c == 18) = false := by simpa using h1
    have : v = (n == 0) := by rw [← hv]; unfold vNum; rw [if_neg h1]; by_cases h0 : n = 0 <;> simp [h0]
    subst this
    clear hv h1
    go_enter Tryd.func40, Tryd.ntmps40
    go_wp2_with (fail)
    go_ret
    exact ⟨rfl, kbel _ _⟩
set_option maxRecDepth 100000 in
set_option maxHeartbeats 2000000 in
theorem check_any (k : Kv) (hk : k.s.length ≤ 100) (w : World) :
    Calls Tryd.prog 11 #[.agg #[.int .i64 k.c, .string ⟨k.s.toArray⟩, .int .i64 k.n, .bool k.a, .bool k.h, .bool k.t]] w fun e w' => e = .returned (.int .i64 (if chk k = true then 0 else 80)) ∧ Below w.heap.size w w' := by
  have H1 := Lib.hid (validText_any k hk)
  have H2 := Lib.hid (validNumber_any k)
  have hb0 : Blk (w.alloc (.cells #[.int .i64 k.c, .string ⟨k.s.toArray⟩, .int .i64 k.n, .bool k.a, .bool k.h, .bool k.t] 24)) w.heap.size 24 k.cells := Blk.new w _ _
  have HB0 := Lib.hid hb0
  have hc : chk k = (vText k && vNum k) := rfl
  rw [hc]
  generalize vText k = v1 at H1 ⊢
  generalize vNum k = v2 at H2 ⊢
  clear hb0 hc hk
  cases v1 with
  | false =>
    go_enter Tryd.func11, Tryd.ntmps11
    go_wp2_with (go_at_call 39; refine (H1.out _).mono ?_; rintro e w1 ⟨rfl, hb1⟩; have HB1 := Lib.hid ((kbel w _).trans (hb1.mono (by simp))); clear hb1)
    go_ret
    exact ⟨rfl, HB1.out⟩
  | true =>
    cases v2 with
    | false =>
      go_enter Tryd.func11, Tryd.ntmps11
      go_wp2_with (first
        | (go_at_call 39; refine (H1.out _).mono ?_; rintro e w1 ⟨rfl, hb1⟩; have hk1 := HB0.out.below hb1 HB0.out.lt; have r0 : w1.cell? ⟨w.heap.size, 0, none⟩ = some (.int .i64 k.c) := hk1.cell 0; have r1 : w1.cell? ⟨w.heap.size, 1, none⟩ = some (.string ⟨k.s.toArray⟩) := hk1.cell 1; have r2 : w1.cell? ⟨w.heap.size, 2, none⟩ = some (.int .i64 k.n) := hk1.cell 2; have r3 : w1.cell? ⟨w.heap.size, 3, none⟩ = some (.bool k.a) := hk1.cell 3; have r4 : w1.cell? ⟨w.heap.size, 4, none⟩ = some (.bool k.h) := hk1.cell 4; have r5 : w1.cell? ⟨w.heap.size, 5, none⟩ = some (.bool k.t) := hk1.cell 5; have HB1 := Lib.hid ((kbel w _).trans (hb1.mono (by simp))); clear hb1 hk1)
        | (go_at_call 40; refine (H2.out _).mono ?_; rintro e w2 ⟨rfl, hb2⟩; have HB2 := Lib.hid hb2; clear hb2))
      go_ret
      exact ⟨rfl, kstep HB1.out HB2.out⟩
    | true =>
      go_enter Tryd.func11, Tryd.ntmps11
      go_wp2_with (first
        | (go_at_call 39; refine (H1.out _).mono ?_; rintro e w1 ⟨rfl, hb1⟩; have hk1 := HB0.out.below hb1 HB0.out.lt; have r0 : w1.cell? ⟨w.heap.size, 0, none⟩ = some (.int .i64 k.c) := hk1.cell 0; have r1 : w1.cell? ⟨w.heap.size, 1, none⟩ = some (.string ⟨k.s.toArray⟩) := hk1.cell 1; have r2 : w1.cell? ⟨w.heap.size, 2, none⟩ = some (.int .i64 k.n) := hk1.cell 2; have r3 : w1.cell? ⟨w.heap.size, 3, none⟩ = some (.bool k.a) := hk1.cell 3; have r4 : w1.cell? ⟨w.heap.size, 4, none⟩ = some (.bool k.h) := hk1.cell 4; have r5 : w1.cell? ⟨w.heap.size, 5, none⟩ = some (.bool k.t) := hk1.cell 5; have HB1 := Lib.hid ((kbel w _).trans (hb1.mono (by simp))); clear hb1 hk1)
        | (go_at_call 40; refine (H2.out _).mono ?_; rintro e w2 ⟨rfl, hb2⟩; have HB2 := Lib.hid hb2; clear hb2))
      go_ret
      exact ⟨rfl, kstep HB1.out HB2.out⟩
end Go.Proofs.YthlhfbchilfgcaaDoor
