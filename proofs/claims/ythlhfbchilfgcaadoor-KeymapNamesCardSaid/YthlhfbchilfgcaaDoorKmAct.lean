/-
  Walks: Act of a map that was made, and of one that nobody made; Word.
-/
import Derived.Test.YthlhfbchilfgcaaDoorKmName2
import Derived.Test.YthlhfbchilfgcaaDoorKmUsual
import Derived.Test.YthlhfbchilfgcaaDoorQuietB
namespace Go.Proofs.YthlhfbchilfgcaaDoor
open Go.RowKit Go.Maps Go.Sort
set_option linter.unusedVariables false
set_option linter.unusedSimpArgs false

theorem mowns_same {w w' : World} {b n : Nat} {D : DataW Unit} (h : MOwns w b n D) (hs : w'.heap[b]? = w.heap[b]?) : MOwns w' b n D := by
  obtain ⟨es, clock, h1, h2⟩ := h
  exact ⟨es, clock, hs.trans h1, h2⟩
theorem zero_act (w : World) : (zeroValue 35).run Tryd.prog w = .ok (.int .i64 0) w := by kernel_rfl
set_option maxRecDepth 100000 in
set_option maxHeartbeats 1000000 in
theorem act_not {w : World} {p : Option Addr} (h : MNo w p) (k : Kv) :
    Calls Tryd.prog 28 #[.pointer p, .agg #[.int .i64 k.c, .string ⟨k.s.toArray⟩, .int .i64 k.n, .bool k.a, .bool k.h, .bool k.t]] w fun e w' => e = .returned (.tuple #[.int .i64 0, .bool false]) ∧ Below w.heap.size w w' := by
  have H := Lib.hid h
  clear h
  go_enter Tryd.func28, Tryd.ntmps28
  go_wp2_with (go_at_call 51; refine (made_not (H.out.bel (kbel w _))).mono ?_; rintro e w' ⟨rfl, rfl⟩)
  go_ret2
  exact ⟨rfl, kbel _ _⟩
theorem nameK_len (k : Kv) (hk : okN k) : (nameK k).length ≤ 65620 := by
  have := baseN_len k hk
  unfold nameK
  cases k.a <;> cases k.t <;> cases k.h <;> simp <;> omega
theorem look_act {w : World} {b n : Nat} {D : DataW Unit} (ho : MOwns w b n D) (l : List UInt8) (hl : l.length ≤ 100000) (c : Int) (hh : Maps.has D (.string l) = true) (hv : D.atKey (.string l) (.lit (.int .i64 0)) = .lit (.int .i64 c)) :
    (Instr.lookup 66 (.map (some b)) (.string ⟨l.toArray⟩) true).run Tryd.prog w = .ok (.tuple #[.int .i64 c, .bool true]) w := by
  have hkey : keyOf Tryd.prog 9 (.string ⟨l.toArray⟩) = some (.string l) := WideMaps.keyOf_string_mk Tryd.underlying9 (by show l.toArray.size ≤ _; rw [List.size_toArray]; simp only [maxLen]; omega)
  obtain ⟨v, ps, hrun, hR⟩ := ho.look_ok key_law Tryd.underlying66 (zero_act w) (plainElem_int Tryd.underlying35 (by decide)) hkey
  rw [hv] at hR
  obtain ⟨c', rfl, hc, _⟩ := plainElem_int_inv Tryd.underlying35 hR
  have e : c = c' := by
    have := congrArg Prod.fst hc
    simpa using this
  rw [hrun, hh, e]

set_option maxRecDepth 100000 in
set_option maxHeartbeats 4000000 in
theorem act_yes (M b n : Nat) (D : DataW Unit) (k : Kv) (hk : okN k) (c : Int) (w : World) (hM : MBlk w M b) (ho : MOwns w b n D) (hT : StrT w 2 nameT)
    (hh : Maps.has D (.string (nameK k)) = true) (hv : D.atKey (.string (nameK k)) (.lit (.int .i64 0)) = .lit (.int .i64 c)) :
    Calls Tryd.prog 28 #[.pointer (some ⟨M, 0, none⟩), .agg #[.int .i64 k.c, .string ⟨k.s.toArray⟩, .int .i64 k.n, .bool k.a, .bool k.h, .bool k.t]] w fun e w' => e = .returned (.tuple #[.int .i64 c, .bool true]) ∧ Below w.heap.size w w' := by
  have H := Lib.hid hM
  have hb1 := kbel w (.cells #[.int .i64 k.c, .string ⟨k.s.toArray⟩, .int .i64 k.n, .bool k.a, .bool k.h, .bool k.t] 24)
  have hk1 : Blk (w.alloc (.cells #[.int .i64 k.c, .string ⟨k.s.toArray⟩, .int .i64 k.n, .bool k.a, .bool k.h, .bool k.t] 24)) w.heap.size 24 k.cells := Blk.new w _ _
  have hM1 := hM.below hb1 hM.lt
  have ho1 : MOwns (w.alloc (.cells #[.int .i64 k.c, .string ⟨k.s.toArray⟩, .int .i64 k.n, .bool k.a, .bool k.h, .bool k.t] 24)) b n D := ho.alloc _
  have hT1 := hT.below (by decide) hb1 (Nat.le_refl _)
  go_enter Tryd.func28, Tryd.ntmps28
  go_upto_region 3 with (go_at_call 51; refine (made_yes M b _ hM1).mono ?_; rintro e w' ⟨rfl, rfl⟩)
  generalize w.alloc (.cells #[.int .i64 k.c, .string ⟨k.s.toArray⟩, .int .i64 k.n, .bool k.a, .bool k.h, .bool k.t] 24) = w1 at hb1 hk1 hM1 ho1 hT1 ⊢
  have HB1 := Lib.hid hb1
  have HK := Lib.hid (fun d os => Calls.regrown_of (name_yes k hk (grow (redrawn w1 d) os) (hT1.below (by decide) (below_regrown w1 d os) (Nat.le_refl _))))
  have x0 : ∀ d os, (grow (redrawn w1 d) os).cell? ⟨w.heap.size, 0, none⟩ = some (.int .i64 k.c) := cell_regrown (hk1.cell 0)
  have x1 : ∀ d os, (grow (redrawn w1 d) os).cell? ⟨w.heap.size, 1, none⟩ = some (.string ⟨k.s.toArray⟩) := cell_regrown (hk1.cell 1)
  have x2 : ∀ d os, (grow (redrawn w1 d) os).cell? ⟨w.heap.size, 2, none⟩ = some (.int .i64 k.n) := cell_regrown (hk1.cell 2)
  have x3 : ∀ d os, (grow (redrawn w1 d) os).cell? ⟨w.heap.size, 3, none⟩ = some (.bool k.a) := cell_regrown (hk1.cell 3)
  have x4 : ∀ d os, (grow (redrawn w1 d) os).cell? ⟨w.heap.size, 4, none⟩ = some (.bool k.h) := cell_regrown (hk1.cell 4)
  have x5 : ∀ d os, (grow (redrawn w1 d) os).cell? ⟨w.heap.size, 5, none⟩ = some (.bool k.t) := cell_regrown (hk1.cell 5)
  have y1 : ∀ d os, (grow (redrawn w1 d) os).cell? ⟨M, 1, none⟩ = some (.map (some b)) := cell_regrown (hM1.cell 1)
  have ho2 : ∀ d os, MOwns (grow (redrawn w1 d) os) b n D := fun d os => mowns_same ho1 ((below_regrown w1 d os).block b ho1.lt)
  have hlk := fun d os => look_act (ho2 d os) (nameK k) (by have := nameK_len k hk; omega) c hh hv
  clear hM ho hT hb1 hk1 hM1 ho1 hT1 hk H ho2 hh hv
  refine region_below0 (by kernel_rfl) (by kernel_rfl) ?_
  repeat (first
    | go_big_quiet_step (first | with_reducible exact HK.out _ _)
    | quiet_step (first | with_reducible exact HK.out _ _))
  refine wpQuiet_nil ?_
  intro _ hw'
  obtain ⟨⟨dq, osq⟩, hw''⟩ := hw'
  subst hw''
  have HB9 := Lib.hid (below_regrown w1 dq osq)
  clear x0 x1 x2 x3 x4 x5 y1 hlk HK
  generalize grow (redrawn w1 dq) osq = w9 at HB9 ⊢
  go_wp2_with (fail)
  go_ret2
  exact ⟨rfl, kstep HB1.out HB9.out⟩
end Go.Proofs.YthlhfbchilfgcaaDoor
