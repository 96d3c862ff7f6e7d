/-
  Walks: control, modified, the undecoded bytes, behind, number.
-/
import Derived.Test.YteolafeeggjblaaDoorKnFns
namespace Go.Proofs.YteolafeeggjblaaDoor
open Go.RowKit
set_option linter.unusedVariables false
set_option linter.unusedSimpArgs false

theorem ctl_let {c : UInt8} (h : c < 32 ∨ c = 127) (h1 : ¬ (c = 13 ∨ c = 10)) (h2 : ¬ c = 9) (h3 : ¬ (c = 8 ∨ c = 127)) : ctlK c = { Kv.no with c := 17, s := [if 1 ≤ c ∧ c ≤ 26 then c + 96 else c + 64] } := by
  unfold ctlK; rw [if_neg h1, if_neg h2, if_neg h3]

set_option maxRecDepth 100000 in
set_option maxHeartbeats 2000000 in
theorem control_any (c : UInt8) (h : c < 32 ∨ c = 127) (w : World) :
    Calls Tryd.prog 60 #[.int .u8 c.toNat] w fun e w' => e = .returned (ctlK c).agg ∧ Below w.heap.size w w' := by
  by_cases h1 : c = 13 ∨ c = 10
  · rcases h1 with rfl | rfl
    all_goals
      go_enter Tryd.func60, Tryd.ntmps60
      go_wp2
      refine bodyPost_ret (v := (ctlK _).agg) ?_ rfl ⟨rfl, kbel _ _⟩
      simp [results, Tryd.results60, go_sem]; rfl
  by_cases h2 : c = 9
  · subst h2
    go_enter Tryd.func60, Tryd.ntmps60
    go_wp2
    refine bodyPost_ret (v := (ctlK _).agg) ?_ rfl ⟨rfl, kbel _ _⟩
    simp [results, Tryd.results60, go_sem]; rfl
  by_cases h3 : c = 8 ∨ c = 127
  · rcases h3 with rfl | rfl
    all_goals
      go_enter Tryd.func60, Tryd.ntmps60
      go_wp2
      refine bodyPost_ret (v := (ctlK _).agg) ?_ rfl ⟨rfl, kbel _ _⟩
      simp [results, Tryd.results60, go_sem]; rfl
  have HE := Lib.hid (ctl_let h h1 h2 h3)
  have hlt : (c.toNat : Int) < 32 := by
    rcases h with h | h
    · have := UInt8.lt_iff_toNat_lt.1 h; simp at this; omega
    · exact absurd (.inr h) h3
  have i1 : ((c.toNat : Int) == 13) = false := by simp; exact fun e => h1 (.inl ((u8_of c 13 (by omega)).1 (by omega)))
  have i2 : ((c.toNat : Int) == 10) = false := by simp; exact fun e => h1 (.inr ((u8_of c 10 (by omega)).1 (by omega)))
  have i3 : ((c.toNat : Int) == 9) = false := by simp; exact fun e => h2 ((u8_of c 9 (by omega)).1 (by omega))
  have i4 : ((c.toNat : Int) == 8) = false := by simp; exact fun e => h3 (.inl ((u8_of c 8 (by omega)).1 (by omega)))
  have i5 : ((c.toNat : Int) == 127) = false := by simp; omega
  have hp : 0 ≤ (c.toNat : Int) := by omega
  have e1 : IntKind.u8.wrap ((c.toNat : Int) + 64) = (c.toNat : Int) + 64 := IntWalk.u8_in _ (by omega)
  have e2 : IntKind.u8.wrap ((c.toNat : Int) + 64 + 32) = (c.toNat : Int) + 64 + 32 := IntWalk.u8_in _ (by omega)
  have hm : (1 : UInt8) ≤ c ∧ c ≤ (26 : UInt8) ↔ 1 ≤ (c.toNat : Int) ∧ (c.toNat : Int) ≤ 26 := by
    rw [UInt8.le_iff_toNat_le, UInt8.le_iff_toNat_le]
    simp
    omega
  obtain ⟨d, hd, hs⟩ : ∃ d : UInt8, (if (1 : UInt8) ≤ c ∧ c ≤ (26 : UInt8) then c + 96 else c + 64) = d ∧ (d.toNat : Int) = if 1 ≤ (c.toNat : Int) ∧ (c.toNat : Int) ≤ 26 then (c.toNat : Int) + 64 + 32 else (c.toNat : Int) + 64 := by
    refine ⟨_, rfl, ?_⟩
    by_cases hb : 1 ≤ (c.toNat : Int) ∧ (c.toNat : Int) ≤ 26
    · rw [if_pos hb, if_pos (hm.2 hb), UInt8.toNat_add]
      simp
      omega
    · rw [if_neg hb, if_neg (fun h => hb (hm.1 h)), UInt8.toNat_add]
      simp
      omega
  rw [hd] at HE
  obtain ⟨W0, HW0, HB0, HZ⟩ := kzero w
  have HCV : ∀ W : World, Hid (Sem.run Tryd.prog (Go.convert 22 9 (.slice (some ⟨W.heap.size, 0, none⟩) 1 1)) (W.alloc (.cells #[.int .u8 (d.toNat : Int)] 5)) = .ok (.string ⟨#[d]⟩) (W.alloc (.cells #[.int .u8 (d.toNat : Int)] 5))) := fun W => Lib.hid (run_str_sl _ (W.heap.size + 1) _ 1 1 [d] (Sl.new _ _ _) rfl)
  rw [HE.out]
  clear h h1 h2 h3 hd hm HE
  by_cases ha : 1 ≤ (c.toNat : Int) ∧ (c.toNat : Int) ≤ 26
  · rw [if_pos ha] at hs
    obtain ⟨a1, a2⟩ := ha
    have a3 : 65 ≤ (c.toNat : Int) + 64 := by omega
    have a4 : (c.toNat : Int) + 64 ≤ 90 := by omega
    have hcv := (HCV W0).out
    rw [hs] at hcv
    have HX : Hid (Blk (W0.alloc (.cells #[.int .u8 ((c.toNat : Int) + 64 + 32)] 5)) w.heap.size 40 Kv.no.cells) := Lib.hid (HZ.out.alloc _)
    have HBX : Hid (Below w.heap.size w (W0.alloc (.cells #[.int .u8 ((c.toNat : Int) + 64 + 32)] 5))) := Lib.hid (HB0.out.alloc HB0.out.size _)
    clear HCV hs
    go_enter Tryd.func60, Tryd.ntmps60
    go_upto_region 1 with fail
    rw [← HW0.out]
    clear HW0
    go_wp2_with ((with_reducible refine at_store 2 ?_); refine wpList_store_blk rfl _ _ _ rfl rfl w.heap.size 0 _ Kv.no.cells (Kv.cells { Kv.no with c := 17, s := [d] }) rfl rfl HX.out (by simp [Kv.len]) kv_size (Kv.one _) ?_; intro w9 hn9 hg9)
    exact bodyPost_ret (kresults_c rfl rfl (kwhole hn9) Tryd.underlying40 rfl kv_size) rfl ⟨rfl, kfin HBX.out hg9⟩
  · rw [if_neg ha] at hs
    have hcv := (HCV W0).out
    rw [hs] at hcv
    have HX : Hid (Blk (W0.alloc (.cells #[.int .u8 ((c.toNat : Int) + 64)] 5)) w.heap.size 40 Kv.no.cells) := Lib.hid (HZ.out.alloc _)
    have HBX : Hid (Below w.heap.size w (W0.alloc (.cells #[.int .u8 ((c.toNat : Int) + 64)] 5))) := Lib.hid (HB0.out.alloc HB0.out.size _)
    have hcs : (c.toNat : Int) + 64 < 65 ∨ (65 ≤ (c.toNat : Int) + 64 ∧ ¬ (c.toNat : Int) + 64 ≤ 90) := by omega
    clear HCV hs ha
    rcases hcs with a3 | ⟨a3, a4⟩
    all_goals
      go_enter Tryd.func60, Tryd.ntmps60
      go_upto_region 1 with fail
      rw [← HW0.out]
      clear HW0
      go_wp2_with ((with_reducible refine at_store 2 ?_); refine wpList_store_blk rfl _ _ _ rfl rfl w.heap.size 0 _ Kv.no.cells (Kv.cells { Kv.no with c := 17, s := [d] }) rfl rfl HX.out (by simp [Kv.len]) kv_size (Kv.one _) ?_; intro w9 hn9 hg9)
      exact bodyPost_ret (kresults_c rfl rfl (kwhole hn9) Tryd.underlying40 rfl kv_size) rfl ⟨rfl, kfin HBX.out hg9⟩

set_option maxRecDepth 100000 in
set_option maxHeartbeats 2000000 in
theorem modified_any (k : Kv) (n : Int) (h0 : 0 ≤ n) (h1 : n ≤ 9999) (w : World) :
    Calls Tryd.prog 78 #[.agg #[.int .i64 k.c, .string ⟨k.s.toArray⟩, .int .i64 k.n, .bool k.a, .bool k.h, .bool k.t], .int .i64 n] w fun e w' => e = .returned (modK k n).agg ∧ Below w.heap.size w w' := by
  have hc : n = 1 ∨ n = 2 ∨ n = 3 ∨ n = 4 ∨ n = 5 ∨ n = 6 ∨ n = 7 ∨ n = 8 ∨ n = 0 ∨ 8 < n := by omega
  rcases hc with rfl | rfl | rfl | rfl | rfl | rfl | rfl | rfl | rfl | h
  rotate_right
  · have HE : Hid (modK k n = Kv.no) := Lib.hid (by unfold modK; rw [if_pos (.inr h)])
    rw [HE.out]
    have a1 : ¬ n - 1 < 0 := by omega
    have a2 : 7 < n - 1 := by omega
    go_enter Tryd.func78, Tryd.ntmps78
    go_wp2
    refine bodyPost_ret (v := Kv.no.agg) ?_ rfl ⟨rfl, (kbel _ _).alloc (by simp) _⟩
    simp [results, Tryd.results78, go_sem]; rfl
  all_goals
    go_enter Tryd.func78, Tryd.ntmps78
    go_wp2
    refine bodyPost_ret (v := (modK k _).agg) ?_ rfl ⟨rfl, ?_⟩
    · simp [results, Tryd.results78, go_sem]; rfl
    · exact (kbel _ _).alloc (by simp) _
end Go.Proofs.YteolafeeggjblaaDoor
