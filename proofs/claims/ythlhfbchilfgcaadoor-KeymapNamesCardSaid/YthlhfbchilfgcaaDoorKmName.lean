/-
  Walks: Check and Name of keys that are valid (functions and pastes aside).
-/
import Derived.Test.YthlhfbchilfgcaaDoorKmMade
namespace Go.Proofs.YthlhfbchilfgcaaDoor
open Go.RowKit
set_option linter.unusedVariables false
set_option linter.unusedSimpArgs false

/-- valid keys: texts, Ctrl keys, keys that their codes alone tell -/
def okN (k : Kv) : Prop := k.n = 0 ∧ ((k.c = 1 ∧ k.s.length ≤ 65536) ∨ (k.c = 17 ∧ ∃ b, k.s = [b] ∧ isC8 b = true) ∨ (2 ≤ k.c ∧ k.c ≤ 15 ∧ k.s = []))
theorem isC8_z (c : UInt8) (h : isC8 c = true) : ((c.toNat : Int) = 64 ∨ (c.toNat : Int) = 91 ∨ (c.toNat : Int) = 92 ∨ (c.toNat : Int) = 93 ∨ (c.toNat : Int) = 94 ∨ (c.toNat : Int) = 95) ∨ (97 ≤ (c.toNat : Int) ∧ (c.toNat : Int) ≤ 122) := by
  unfold isC8 at h
  simp [UInt8.le_iff_toNat_le] at h
  rcases h with h | h
  · left
    rcases h with ((((h | h) | h) | h) | h) | h <;> subst h <;> simp
  · right; omega
set_option maxRecDepth 100000 in
set_option maxHeartbeats 2000000 in
theorem isControlled_yes (c : UInt8) (h : isC8 c = true) (w : World) :
    Calls Tryd.prog 57 #[.int .u8 c.toNat] w fun e w' => e = .returned (.bool true) ∧ w = w' := by
  have hz := isC8_z c h
  clear h
  generalize (c.toNat : Int) = z at hz ⊢
  rcases hz with (rfl | rfl | rfl | rfl | rfl | rfl) | ⟨h1, h2⟩
  all_goals
    first
    | (have e1 : (z == 64) = false := by simp; omega
       have e2 : (z == 91) = false := by simp; omega
       have e3 : (z == 92) = false := by simp; omega
       have e4 : (z == 93) = false := by simp; omega
       have e5 : (z == 94) = false := by simp; omega
       have e6 : (z == 95) = false := by simp; omega
       go_enter Tryd.func57, Tryd.ntmps57
       go_wp2_with (fail)
       go_ret
       exact ⟨rfl, rfl⟩)
    | (go_enter Tryd.func57, Tryd.ntmps57
       go_wp2_with (fail)
       go_ret
       exact ⟨rfl, rfl⟩)
set_option maxRecDepth 100000 in
set_option maxHeartbeats 4000000 in
theorem validText_yes (k : Kv) (hk : okN k) (w : World) :
    Calls Tryd.prog 39 #[.agg #[.int .i64 k.c, .string ⟨k.s.toArray⟩, .int .i64 k.n, .bool k.a, .bool k.h, .bool k.t]] w fun e w' => e = .returned (.bool true) ∧ Below w.heap.size w w' := by
  obtain ⟨c, s, n, a, h, t⟩ := k
  obtain ⟨hn, hk⟩ := hk
  simp only at hn hk ⊢
  subst hn
  rcases hk with ⟨rfl, hs⟩ | ⟨rfl, b, rfl, hb⟩ | ⟨h1, h2, rfl⟩
  · obtain ⟨q, hq⟩ : ∃ q : ByteArray, q = ⟨s.toArray⟩ := ⟨_, rfl⟩
    have hsz : (q.size : Int) ≤ 65536 := by rw [hq]; simp [ByteArray.size]; omega
    rw [← hq]
    clear hq hs
    go_enter Tryd.func39, Tryd.ntmps39
    go_wp2_with (fail)
    go_ret
    exact ⟨rfl, kbel _ _⟩
  · have HC := Lib.hid (isControlled_yes b hb)
    clear hb
    go_enter Tryd.func39, Tryd.ntmps39
    go_wp2_with (go_at_call 57; refine (HC.out _).mono ?_; rintro e w1 ⟨rfl, rfl⟩)
    go_ret
    exact ⟨rfl, kbel _ _⟩
  · have e1 : (c == 1) = false := by simp; omega
    have e2 : (c == 16) = false := by simp; omega
    have e3 : (c == 17) = false := by simp; omega
    have h3 : 1 ≤ c := by omega
    have h4 : c ≤ 18 := by omega
    go_enter Tryd.func39, Tryd.ntmps39
    go_wp2_with (fail)
    go_ret
    exact ⟨rfl, kbel _ _⟩
set_option maxRecDepth 100000 in
set_option maxHeartbeats 2000000 in
theorem validNumber_yes (k : Kv) (hk : okN k) (w : World) :
    Calls Tryd.prog 40 #[.agg #[.int .i64 k.c, .string ⟨k.s.toArray⟩, .int .i64 k.n, .bool k.a, .bool k.h, .bool k.t]] w fun e w' => e = .returned (.bool true) ∧ Below w.heap.size w w' := by
  obtain ⟨c, s, n, a, h, t⟩ := k
  obtain ⟨hn, hk⟩ := hk
  simp only at hn hk ⊢
  subst hn
  have e1 : (c == 18) = false := by
    simp
    rcases hk with ⟨rfl, _⟩ | ⟨rfl, _⟩ | ⟨h1, h2, _⟩ <;> omega
  clear hk
  generalize (⟨s.toArray⟩ : ByteArray) = q
  go_enter Tryd.func40, Tryd.ntmps40
  go_wp2_with (fail)
  go_ret
  exact ⟨rfl, kbel _ _⟩
set_option maxRecDepth 100000 in
set_option maxHeartbeats 2000000 in
theorem check_yes (k : Kv) (hk : okN k) (w : World) :
    Calls Tryd.prog 11 #[.agg #[.int .i64 k.c, .string ⟨k.s.toArray⟩, .int .i64 k.n, .bool k.a, .bool k.h, .bool k.t]] w fun e w' => e = .returned (.int .i64 0) ∧ Below w.heap.size w w' := by
  have H1 := Lib.hid (validText_yes k hk)
  have H2 := Lib.hid (validNumber_yes k hk)
  clear hk
  have hb0 : Blk (w.alloc (.cells #[.int .i64 k.c, .string ⟨k.s.toArray⟩, .int .i64 k.n, .bool k.a, .bool k.h, .bool k.t] 24)) w.heap.size 24 k.cells := Blk.new w _ _
  have HB0 := Lib.hid hb0
  clear hb0
  go_enter Tryd.func11, Tryd.ntmps11
  go_wp2_with (first
    | (go_at_call 39; refine (H1.out _).mono ?_; rintro e w1 ⟨rfl, hb1⟩; have hk1 := HB0.out.below hb1 HB0.out.lt; have r0 : w1.cell? ⟨w.heap.size, 0, none⟩ = some (.int .i64 k.c) := hk1.cell 0; have r1 : w1.cell? ⟨w.heap.size, 1, none⟩ = some (.string ⟨k.s.toArray⟩) := hk1.cell 1; have r2 : w1.cell? ⟨w.heap.size, 2, none⟩ = some (.int .i64 k.n) := hk1.cell 2; have r3 : w1.cell? ⟨w.heap.size, 3, none⟩ = some (.bool k.a) := hk1.cell 3; have r4 : w1.cell? ⟨w.heap.size, 4, none⟩ = some (.bool k.h) := hk1.cell 4; have r5 : w1.cell? ⟨w.heap.size, 5, none⟩ = some (.bool k.t) := hk1.cell 5; have HB1 := Lib.hid ((kbel w _).trans (hb1.mono (by simp))); clear hb1 hk1)
    | (go_at_call 40; refine (H2.out _).mono ?_; rintro e w2 ⟨rfl, hb2⟩; have HB2 := Lib.hid hb2; clear hb2))
  go_ret
  exact ⟨rfl, kstep HB1.out HB2.out⟩
end Go.Proofs.YthlhfbchilfgcaaDoor
