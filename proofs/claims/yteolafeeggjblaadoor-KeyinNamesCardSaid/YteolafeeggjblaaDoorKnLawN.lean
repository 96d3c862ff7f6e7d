/-
  The law KeyinNames, walked.
-/
import Derived.Test.YteolafeeggjblaaDoorKnAwake
import Derived.Test.YteolafeeggjblaaDoorKnRName
import Derived.Test.YteolafeeggjblaaDoorQuietB
namespace Go.Proofs.YteolafeeggjblaaDoor
open Go.RowKit Go.Sort
set_option linter.unusedVariables false
set_option linter.unusedSimpArgs false

theorem run_neqn_none (w : World) : Sem.run Tryd.prog (binOp .neq 24 (.pointer none) (.pointer none)) w = .ok (.bool false) w := by
  have h : ∀ d : Nat, (Op.equalIn (d + 1) 24 (.pointer none) (.pointer none)).run Tryd.prog w = .ok true w := fun d => by
    simp [Op.equalIn, run_underlying Tryd.underlying24]
  simp only [binOp]
  simp [Op.equal, Op.maxDepth, h 9999]
theorem DNo.bel {w w' : World} {p : Option Addr} (h : DNo w p) (hb : Below w.heap.size w w') : DNo w' p := h.same (fun k hk => hb.block k (h.lt k hk))

set_option maxRecDepth 100000 in
set_option maxHeartbeats 8000000 in
theorem keyinNames_walk (k : Kv) (hs : k.s.length ≤ 140737488351232) (w : World) (hT : NamesT w) :
    Calls Tryd.prog 5 #[.agg #[.int .i64 k.c, .string ⟨k.s.toArray⟩, .int .i64 k.n, .bool k.a, .bool k.h, .bool k.t]] w fun e w' => e = .returned (.bool true) ∧ Below w.heap.size w w' := by
  have HT := Lib.hid hT
  have HS := Lib.hid hs
  have kcv := fun (w : World) (C : Array Value) (n c : Nat) => Lib.run_convert_bytes_const (P := Tryd.prog) w 22 5 C n c Tryd.underlying22 Tryd.underlying5
  have hnn := run_neqn_none
  clear hT hs
  go_enter Tryd.func5, Tryd.ntmps5
  go_upto_region 3 with fail
  have hk1 : Blk (((w.alloc (.cells #[.int .i64 k.c, .string ⟨k.s.toArray⟩, .int .i64 k.n, .bool k.a, .bool k.h, .bool k.t] 40)).alloc (.cells #[.pointer none, .string ⟨#[]⟩, .pointer none] 45)).alloc (.cells #[.pointer none, .pointer (some ⟨w.heap.size + 1, 0, none⟩)] 24)) w.heap.size 40 k.cells := ((Blk.new w 40 k.cells).alloc (.cells #[.pointer none, .string ⟨#[]⟩, .pointer none] 45)).alloc (.cells #[.pointer none, .pointer (some ⟨w.heap.size + 1, 0, none⟩)] 24)
  have hk2 := (Blk.new (w.alloc (.cells #[.int .i64 k.c, .string ⟨k.s.toArray⟩, .int .i64 k.n, .bool k.a, .bool k.h, .bool k.t] 40)) 45 [.pointer none, .string ⟨#[]⟩, .pointer none]).alloc (.cells #[.pointer none, .pointer (some ⟨w.heap.size + 1, 0, none⟩)] 24)
  have hk3 := Blk.new ((w.alloc (.cells #[.int .i64 k.c, .string ⟨k.s.toArray⟩, .int .i64 k.n, .bool k.a, .bool k.h, .bool k.t] 40)).alloc (.cells #[.pointer none, .string ⟨#[]⟩, .pointer none] 45)) 24 [.pointer none, .pointer (some ⟨w.heap.size + 1, 0, none⟩)]
  simp only [World.size_alloc] at hk2 hk3
  have hb0 : Below w.heap.size w (((w.alloc (.cells #[.int .i64 k.c, .string ⟨k.s.toArray⟩, .int .i64 k.n, .bool k.a, .bool k.h, .bool k.t] 40)).alloc (.cells #[.pointer none, .string ⟨#[]⟩, .pointer none] 45)).alloc (.cells #[.pointer none, .pointer (some ⟨w.heap.size + 1, 0, none⟩)] 24)) := (((Below.refl _ w).alloc (Nat.le_refl _) _).alloc (by simp) _).alloc (by simp; omega) _
  generalize hw2 : ((w.alloc (.cells #[.int .i64 k.c, .string ⟨k.s.toArray⟩, .int .i64 k.n, .bool k.a, .bool k.h, .bool k.t] 40)).alloc (.cells #[.pointer none, .string ⟨#[]⟩, .pointer none] 45)).alloc (.cells #[.pointer none, .pointer (some ⟨w.heap.size + 1, 0, none⟩)] 24) = w2 at hk1 hk2 hk3 hb0 ⊢
  clear hw2
  have HK1 := Lib.hid hk1
  have HK2 := Lib.hid hk2
  have HK3 := Lib.hid hk3
  have HB0 := Lib.hid hb0
  clear hk1 hk2 hk3 hb0
  go_loopw [13] (fun a wr => ∃ i : Nat, a = .int .i64 (i : Int) ∧ i ≤ 2 ∧ Below w2.heap.size w2 wr) (fun a _ => 2 - (intOf a).toNat)
  case atStart => exact ⟨0, rfl, by omega, Below.refl _ _⟩
  case round =>
    obtain ⟨i, rfl, hi, hbr⟩ := hrel
    have HBR := Lib.hid hbr
    have hrow := HK3.out.below hbr HK3.out.lt
    have hzr := hbr.size
    clear hbr
    by_cases hlt : i < 2
    · have hki : (i : Int) < 2 := by omega
      obtain ⟨p, hpc, hp⟩ : ∃ p, wr.cell? ⟨w.heap.size + 1 + 1, i, none⟩ = some (.pointer p) ∧ DNo wr p := by
        have hd := HK2.out.below HBR.out HK2.out.lt
        have : i = 0 ∨ i = 1 := by omega
        rcases this with rfl | rfl
        · exact ⟨none, hrow.cell 0, .inl rfl⟩
        · exact ⟨some ⟨w.heap.size + 1, 0, none⟩, hrow.cell 1, .inr ⟨_, rfl, hd.cell 0⟩⟩
      have HP : Hid (∀ W, Below wr.heap.size wr W → DNo W p) := Lib.hid (fun W hW => hp.bel hW)
      clear hrow hp hi
      go_wp2_with (first
        | (go_at_call 13; refine (one_not p _ _ _ _ (HP.out _ ((Below.refl _ wr).alloc (Nat.le_refl _) _))).mono ?_; rintro e w3 ⟨rfl, hb3⟩; have HB3 : Hid (Below wr.heap.size wr w3) := Lib.hid (((Below.refl _ wr).alloc (Nat.le_refl _) _).trans (hb3.mono (by simp))); clear hb3)
        | (go_at_call 8; refine (feed_not p _ _ _ _ (HP.out _ (HB3.out.alloc HB3.out.size _))).mono ?_; rintro e w4 ⟨⟨A4, c4, rfl⟩, hb4⟩; have HB4 : Hid (Below wr.heap.size wr w4) := Lib.hid ((HB3.out.alloc HB3.out.size _).trans (hb4.mono (by have := HB3.out.size; simp; omega))); clear hb4)
        | (go_at_call 14; refine (tick_not (HP.out _ HB4.out)).mono ?_; rintro e w5 ⟨rfl, rfl⟩)
        | (go_at_call 10; refine (waits_not (HP.out _ HB4.out)).mono ?_; rintro e w5 ⟨rfl, rfl⟩)
        | (go_at_call 15; refine (pasting_not (HP.out _ HB4.out)).mono ?_; rintro e w5 ⟨rfl, rfl⟩)
        | (go_at_call 16; refine (fork_not (HP.out _ HB4.out)).mono ?_; rintro e w5 ⟨rfl, rfl⟩))
      go_roundw
      case rel => exact ⟨i + 1, by go_num, by omega, HBR.out.trans (HB4.out.mono hzr)⟩
      case measure => simp [intOf]; omega
    · have hki : ¬ (i : Int) < 2 := by omega
      clear hrow hi kcv hnn
      have hk := HK1.out.below HBR.out HK1.out.lt
      have hNT : NamesT wr := namesT_below (namesT_below HT.out HB0.out (Nat.le_refl _)) HBR.out (Nat.le_refl _)
      have x0 : ∀ d os, (grow (redrawn wr d) os).cell? ⟨w.heap.size, 0, none⟩ = some (.int .i64 k.c) := cell_regrown (hk.cell 0)
      have x1 : ∀ d os, (grow (redrawn wr d) os).cell? ⟨w.heap.size, 1, none⟩ = some (.string ⟨k.s.toArray⟩) := cell_regrown (hk.cell 1)
      have x2 : ∀ d os, (grow (redrawn wr d) os).cell? ⟨w.heap.size, 2, none⟩ = some (.int .i64 k.n) := cell_regrown (hk.cell 2)
      have x3 : ∀ d os, (grow (redrawn wr d) os).cell? ⟨w.heap.size, 3, none⟩ = some (.bool k.a) := cell_regrown (hk.cell 3)
      have x4 : ∀ d os, (grow (redrawn wr d) os).cell? ⟨w.heap.size, 4, none⟩ = some (.bool k.h) := cell_regrown (hk.cell 4)
      have x5 : ∀ d os, (grow (redrawn wr d) os).cell? ⟨w.heap.size, 5, none⟩ = some (.bool k.t) := cell_regrown (hk.cell 5)
      have hN2 : ∀ d os, NamesT (grow (redrawn wr d) os) := fun d os => namesT_below hNT (below_regrown wr d os) (Nat.le_refl _)
      have Q1 := Lib.hid (fun d os => Calls.regrown_of (name_any k HS.out (grow (redrawn wr d) os) (hN2 d os)))
      have Q2 := Lib.hid (fun d os => Calls.regrown_of (rname_any k HS.out (grow (redrawn wr d) os)))
      have Q3 := Lib.hid (fun d os => Calls.regrown_of (kawake_any (grow (redrawn wr d) os) (hN2 d os)))
      generalize (⟨(nameK k).toArray⟩ : ByteArray) = nm at Q1 Q2
      clear hk hNT hN2
      go_wp2_with (fail)
      refine region_below0 (by kernel_rfl) (by kernel_rfl) ?_
      repeat (first
        | go_big_quiet_step (first | with_reducible exact Q1.out _ _ | with_reducible exact Q2.out _ _ | with_reducible exact Q3.out _ _)
        | quiet_step (first | with_reducible exact Q1.out _ _ | with_reducible exact Q2.out _ _ | with_reducible exact Q3.out _ _))
      refine wpQuiet_nil ?_
      intro _ hw'
      obtain ⟨⟨dq, osq⟩, hw''⟩ := hw'
      subst hw''
      have HB9 := Lib.hid (below_regrown wr dq osq)
      clear x0 x1 x2 x3 x4 x5 Q1 Q2 Q3
      generalize grow (redrawn wr dq) osq = w9 at HB9 ⊢
      go_wp2_with (fail)
      go_ret
      exact ⟨rfl, (HB0.out.trans (HBR.out.mono HB0.out.size)).trans (HB9.out.mono (by have := HB0.out.size; omega))⟩
end Go.Proofs.YteolafeeggjblaaDoor
