/-
  Walks: the keys of letters, of numbers and of control bytes.
-/
import Derived.Test.YteolafeeggjblaaDoorKnMath
import Derived.Test.YteolafeeggjblaaDoorMemC
import Derived.Test.YteolafeeggjblaaDoorU8
import Derived.Test.YteolafeeggjblaaDoorRnHead
import Derived.Deep.RegionHeld3
import Derived.Deep.DeepCutAuto
import Derived.BigRegion
import Derived.Deep.QuietTactic
import Derived.BigQuiet
namespace Go.Proofs.YteolafeeggjblaaDoor
open Go.RowKit
set_option linter.unusedVariables false
set_option linter.unusedSimpArgs false

def Kv.cells (k : Kv) : List Value := [.int .i64 k.c, .string ⟨k.s.toArray⟩, .int .i64 k.n, .bool k.a, .bool k.h, .bool k.t]
theorem kv_size : (Tryd.prog.info? 40).map (·.size) = some 6 := by kernel_rfl
theorem Kv.one (k : Kv) : ∀ v ∈ k.cells, v.oneCell' = true := by
  intro v hv
  simp [Kv.cells] at hv
  rcases hv with rfl | rfl | rfl | rfl | rfl | rfl <;> rfl
def Kv.agg (k : Kv) : Value := .agg k.cells.toArray
theorem Kv.len (k : Kv) : k.cells.length = 6 := rfl
theorem kwhole {w : World} {g : Nat} {t : TypeId} {cs : List Value} (h : Blk w g t cs) : w.rangeAt g 0 cs := h.range 0 cs (fun j v hv => by simpa using hv)
theorem kgetD_eq {tmps : Array Value} {a : Nat} {v : Value} (h : tmps.getD a undef = v) : tmps[a]?.getD undef = v := by simpa using h
theorem kresults_ct {fn : Func} {tmps : Array Value} {a t b : Nat} {ad : Nat} {cs : List Value} {v : Value} {w : World} {d : TypeDesc} (hf : fn.results = #[.cell a t, .tmp b]) (ha : tmps.getD a undef = .pointer (some ⟨ad, 0, none⟩)) (hb : tmps.getD b undef = v)
    (hc : w.rangeAt ad 0 cs) (hu : Tryd.prog.underlying t = some d) (hd : d.isRow = true) (hi : (Tryd.prog.info? t).map (·.size) = some cs.length) : (results fn tmps).run Tryd.prog w = .ok (.tuple #[.agg cs.toArray, v]) w := by
  have hl := run_loadVar_mid (P := Tryd.prog) w ad 0 t cs d hc hu hd hi
  have ha' := kgetD_eq ha
  have hb' := kgetD_eq hb
  unfold results
  simp [hf, ha', hb', asAddr, hl]
theorem kresults_c {fn : Func} {tmps : Array Value} {a t : Nat} {ad : Nat} {cs : List Value} {w : World} {d : TypeDesc} (hf : fn.results = #[.cell a t]) (ha : tmps.getD a undef = .pointer (some ⟨ad, 0, none⟩))
    (hc : w.rangeAt ad 0 cs) (hu : Tryd.prog.underlying t = some d) (hd : d.isRow = true) (hi : (Tryd.prog.info? t).map (·.size) = some cs.length) : (results fn tmps).run Tryd.prog w = .ok (.agg cs.toArray) w := by
  have hl := run_loadVar_mid (P := Tryd.prog) w ad 0 t cs d hc hu hd hi
  have ha' := kgetD_eq ha
  unfold results
  simp [hf, ha', asAddr, hl]
theorem kbel (w : World) (o : Obj) : Below w.heap.size w (w.alloc o) := (Below.refl _ _).alloc (Nat.le_refl _) _

set_option maxHeartbeats 400000 in
theorem function_any (n : Int) (w : World) :
    Calls Tryd.prog 79 #[.int .i64 n] w fun e w' => e = .returned (kfn n).agg ∧ Below w.heap.size w w' := by
  go_enter Tryd.func79, Tryd.ntmps79
  go_wp2
  exact bodyPost_ret (v := (kfn n).agg) (by simp [results, Tryd.results79, go_sem]; rfl) rfl ⟨rfl, kbel _ _⟩

set_option maxHeartbeats 400000 in
theorem isFinal_any (c : UInt8) (w : World) :
    Calls Tryd.prog 64 #[.int .u8 c.toNat] w fun e w' => e = .returned (.bool (kFin c)) ∧ w = w' := by
  have hE : kFin c = (decide (64 ≤ (c.toNat : Int)) && decide ((c.toNat : Int) ≤ 126)) := by
    unfold kFin
    rw [Bool.eq_iff_iff]
    simp [UInt8.le_iff_toNat_le]
    omega
  generalize kFin c = R at hE ⊢
  have HE := Lib.hid hE
  clear hE
  by_cases h1 : 64 ≤ (c.toNat : Int)
  · by_cases h2 : (c.toNat : Int) ≤ 126
    · have HR : Hid (R = true) := Lib.hid (by rw [HE.out]; simp [h1, h2])
      rw [HR.out]
      go_enter Tryd.func64, Tryd.ntmps64
      go_wp2
      go_ret
      exact ⟨rfl, rfl⟩
    · have HR : Hid (R = false) := Lib.hid (by rw [HE.out]; simp [h1, h2])
      rw [HR.out]
      go_enter Tryd.func64, Tryd.ntmps64
      go_wp2
      go_ret
      exact ⟨rfl, rfl⟩
  · have HR : Hid (R = false) := Lib.hid (by rw [HE.out]; simp [h1])
    rw [HR.out]
    go_enter Tryd.func64, Tryd.ntmps64
    go_wp2
    go_ret
    exact ⟨rfl, rfl⟩

/-- a result that is a key: its cell is made first -/
theorem kzero (w : World) : ∃ W0, Hid (W0 = w.alloc (.cells #[.int .i64 0, .string ⟨#[]⟩, .int .i64 0, .bool false, .bool false, .bool false] 40)) ∧ Hid (Below w.heap.size w W0) ∧ Hid (Blk W0 w.heap.size 40 Kv.no.cells) :=
  ⟨_, Lib.hid rfl, Lib.hid (kbel _ _), Lib.hid (Blk.new w 40 Kv.no.cells)⟩
theorem kfin {w w1 w9 : World} (hb : Below w.heap.size w w1) (hg : w1.grownBy w9 (some w.heap.size)) : Below w.heap.size w w9 := hb.grown hg hb.size (fun j hj => by injection hj with hj; omega)
theorem kstep {w w1 w2 : World} (h : Below w.heap.size w w1) (h2 : Below w1.heap.size w1 w2) : Below w.heap.size w w2 := h.trans (h2.mono h.size)

/-- a byte is one of the listed, or none of them -/
theorem u8_of (c : UInt8) (n : Nat) (hn : n < 256) : ((c.toNat : Int) = n ↔ c = UInt8.ofNat n) := by
  constructor
  · intro e
    apply UInt8.toNat_inj.1
    rw [UInt8.toNat_ofNat']
    omega
  · rintro rfl
    rw [UInt8.toNat_ofNat']
    omega

set_option maxRecDepth 100000 in
set_option maxHeartbeats 2000000 in
theorem letterKey_any (c : UInt8) (w : World) :
    Calls Tryd.prog 66 #[.int .u8 c.toNat] w fun e w' => e = .returned (letK c).agg ∧ Below w.heap.size w w' := by
  have hc : (c = 65 ∨ c = 66 ∨ c = 67 ∨ c = 68 ∨ c = 72 ∨ c = 70) ∨ (c = 80 ∨ c = 81 ∨ c = 82 ∨ c = 83) ∨ (¬ c = 65 ∧ ¬ c = 66 ∧ ¬ c = 67 ∧ ¬ c = 68 ∧ ¬ c = 72 ∧ ¬ c = 70 ∧ ¬ c = 80 ∧ ¬ c = 81 ∧ ¬ c = 82 ∧ ¬ c = 83) := by
    by_cases h1 : c = 65 <;> by_cases h2 : c = 66 <;> by_cases h3 : c = 67 <;> by_cases h4 : c = 68 <;> by_cases h5 : c = 72 <;> by_cases h6 : c = 70 <;> by_cases h7 : c = 80 <;> by_cases h8 : c = 81 <;> by_cases h9 : c = 82 <;> by_cases h10 : c = 83 <;> simp_all
  rcases hc with h | h | h
  · rcases h with rfl | rfl | rfl | rfl | rfl | rfl
    all_goals
      go_enter Tryd.func66, Tryd.ntmps66
      go_wp2
      refine bodyPost_ret (v := (letK _).agg) ?_ rfl ⟨rfl, kbel _ _⟩
      simp [results, Tryd.results66, go_sem]; rfl
  · rcases h with rfl | rfl | rfl | rfl
    all_goals
      obtain ⟨W0, HW0, HB0, HZ⟩ := kzero w
      go_enter Tryd.func66, Tryd.ntmps66
      go_upto_region 1 with fail
      rw [← HW0.out]
      clear HW0
      go_wp2_with (first
        | (go_at_call 79; refine (function_any _ _).mono ?_; rintro e w1 ⟨rfl, hb1⟩; have HB1 := Lib.hid (kstep HB0.out hb1); have HZ1 := Lib.hid (HZ.out.below hb1 HZ.out.lt); clear hb1)
        | ((with_reducible refine at_store 2 ?_); refine wpList_store_blk rfl _ _ _ rfl rfl w.heap.size 0 _ Kv.no.cells (kfn _).cells rfl rfl HZ1.out (by simp [Kv.len]) kv_size (Kv.one _) ?_; intro w9 hn9 hg9))
      exact bodyPost_ret (kresults_c rfl rfl (kwhole hn9) Tryd.underlying40 rfl kv_size) rfl ⟨rfl, kfin HB1.out hg9⟩
  · obtain ⟨h1, h2, h3, h4, h5, h6, h7, h8, h9, h10⟩ := h
    have HE : Hid (letK c = Kv.no) := Lib.hid (by unfold letK; rw [if_neg h1, if_neg h2, if_neg h3, if_neg h4, if_neg h5, if_neg h6, if_neg h7, if_neg h8, if_neg h9, if_neg h10])
    have i1 : ¬ (c.toNat : Int) = 65 := fun e => h1 ((u8_of c 65 (by omega)).1 e)
    have i2 : ¬ (c.toNat : Int) = 66 := fun e => h2 ((u8_of c 66 (by omega)).1 e)
    have i3 : ¬ (c.toNat : Int) = 67 := fun e => h3 ((u8_of c 67 (by omega)).1 e)
    have i4 : ¬ (c.toNat : Int) = 68 := fun e => h4 ((u8_of c 68 (by omega)).1 e)
    have i5 : ¬ (c.toNat : Int) = 72 := fun e => h5 ((u8_of c 72 (by omega)).1 e)
    have i6 : ¬ (c.toNat : Int) = 70 := fun e => h6 ((u8_of c 70 (by omega)).1 e)
    have i7 : ¬ (c.toNat : Int) = 80 := fun e => h7 ((u8_of c 80 (by omega)).1 e)
    have i8 : ¬ (c.toNat : Int) = 81 := fun e => h8 ((u8_of c 81 (by omega)).1 e)
    have i9 : ¬ (c.toNat : Int) = 82 := fun e => h9 ((u8_of c 82 (by omega)).1 e)
    have i10 : ¬ (c.toNat : Int) = 83 := fun e => h10 ((u8_of c 83 (by omega)).1 e)
    clear h1 h2 h3 h4 h5 h6 h7 h8 h9 h10
    rw [HE.out]
    go_enter Tryd.func66, Tryd.ntmps66
    go_wp2
    refine bodyPost_ret (v := Kv.no.agg) ?_ rfl ⟨rfl, kbel _ _⟩
    simp [results, Tryd.results66, go_sem]; rfl

set_option maxRecDepth 100000 in
set_option maxHeartbeats 2000000 in
theorem numberKey_any (n : Int) (h0 : 0 ≤ n) (h1 : n ≤ 9999) (w : World) :
    Calls Tryd.prog 77 #[.int .i64 n] w fun e w' => e = .returned (numK n).agg ∧ Below w.heap.size w w' := by
  have hc : ((n = 1 ∨ n = 7) ∨ (n = 4 ∨ n = 8) ∨ n = 3 ∨ n = 5 ∨ n = 6) ∨ (11 ≤ n ∧ n ≤ 15) ∨ (17 ≤ n ∧ n ≤ 21) ∨ (n = 23 ∨ n = 24) ∨ (n = 0 ∨ n = 2 ∨ n = 9 ∨ n = 10 ∨ n = 16 ∨ n = 22 ∨ 24 < n) := by omega
  rcases hc with h | h | h | h | h
  · rcases h with (rfl | rfl) | (rfl | rfl) | rfl | rfl | rfl
    all_goals
      go_enter Tryd.func77, Tryd.ntmps77
      go_wp2
      refine bodyPost_ret (v := (numK _).agg) ?_ rfl ⟨rfl, kbel _ _⟩
      simp [results, Tryd.results77, go_sem]; rfl
  · obtain ⟨ha, hb⟩ := h
    have hb16 : ¬ n < 11 := by omega
    have i1 : (n == 1) = false := by simp; omega
    have i2 : (n == 7) = false := by simp; omega
    have i3 : (n == 4) = false := by simp; omega
    have i4 : (n == 8) = false := by simp; omega
    have i5 : (n == 3) = false := by simp; omega
    have i6 : (n == 5) = false := by simp; omega
    have i7 : (n == 6) = false := by simp; omega
    have HE : Hid (numK n = kfn (n - 10)) := Lib.hid (by unfold numK; rw [if_neg (by omega), if_neg (by omega), if_neg (by omega), if_neg (by omega), if_neg (by omega), if_pos ⟨ha, hb⟩])
    rw [HE.out]
    obtain ⟨W0, HW0, HB0, HZ⟩ := kzero w
    go_enter Tryd.func77, Tryd.ntmps77
    go_upto_region 1 with fail
    rw [← HW0.out]
    clear HW0
    go_wp2_with (first
        | (go_at_call 79; refine (function_any _ _).mono ?_; rintro e w1 ⟨rfl, hb1⟩; have HB1 := Lib.hid (kstep HB0.out hb1); have HZ1 := Lib.hid (HZ.out.below hb1 HZ.out.lt); clear hb1)
        | ((with_reducible refine at_store 2 ?_); refine wpList_store_blk rfl _ _ _ rfl rfl w.heap.size 0 _ Kv.no.cells (kfn _).cells rfl rfl HZ1.out (by simp [Kv.len]) kv_size (Kv.one _) ?_; intro w9 hn9 hg9))
    exact bodyPost_ret (kresults_c rfl rfl (kwhole hn9) Tryd.underlying40 rfl kv_size) rfl ⟨rfl, kfin HB1.out hg9⟩
  · obtain ⟨ha, hb⟩ := h
    have hb16 : ¬ n < 11 := by omega
    have hb17 : ¬ n ≤ 15 := by omega
    have i1 : (n == 1) = false := by simp; omega
    have i2 : (n == 7) = false := by simp; omega
    have i3 : (n == 4) = false := by simp; omega
    have i4 : (n == 8) = false := by simp; omega
    have i5 : (n == 3) = false := by simp; omega
    have i6 : (n == 5) = false := by simp; omega
    have i7 : (n == 6) = false := by simp; omega
    have HE : Hid (numK n = kfn (n - 11)) := Lib.hid (by unfold numK; rw [if_neg (by omega), if_neg (by omega), if_neg (by omega), if_neg (by omega), if_neg (by omega), if_neg (by omega), if_pos ⟨ha, hb⟩])
    rw [HE.out]
    obtain ⟨W0, HW0, HB0, HZ⟩ := kzero w
    go_enter Tryd.func77, Tryd.ntmps77
    go_upto_region 1 with fail
    rw [← HW0.out]
    clear HW0
    go_wp2_with (first
        | (go_at_call 79; refine (function_any _ _).mono ?_; rintro e w1 ⟨rfl, hb1⟩; have HB1 := Lib.hid (kstep HB0.out hb1); have HZ1 := Lib.hid (HZ.out.below hb1 HZ.out.lt); clear hb1)
        | ((with_reducible refine at_store 2 ?_); refine wpList_store_blk rfl _ _ _ rfl rfl w.heap.size 0 _ Kv.no.cells (kfn _).cells rfl rfl HZ1.out (by simp [Kv.len]) kv_size (Kv.one _) ?_; intro w9 hn9 hg9))
    exact bodyPost_ret (kresults_c rfl rfl (kwhole hn9) Tryd.underlying40 rfl kv_size) rfl ⟨rfl, kfin HB1.out hg9⟩
  · rcases h with rfl | rfl
    all_goals
      obtain ⟨W0, HW0, HB0, HZ⟩ := kzero w
      go_enter Tryd.func77, Tryd.ntmps77
      go_upto_region 1 with fail
      rw [← HW0.out]
      clear HW0
      go_wp2_with (first
        | (go_at_call 79; refine (function_any _ _).mono ?_; rintro e w1 ⟨rfl, hb1⟩; have HB1 := Lib.hid (kstep HB0.out hb1); have HZ1 := Lib.hid (HZ.out.below hb1 HZ.out.lt); clear hb1)
        | ((with_reducible refine at_store 2 ?_); refine wpList_store_blk rfl _ _ _ rfl rfl w.heap.size 0 _ Kv.no.cells (kfn _).cells rfl rfl HZ1.out (by simp [Kv.len]) kv_size (Kv.one _) ?_; intro w9 hn9 hg9))
      exact bodyPost_ret (kresults_c rfl rfl (kwhole hn9) Tryd.underlying40 rfl kv_size) rfl ⟨rfl, kfin HB1.out hg9⟩
  · have HE : Hid (numK n = Kv.no) := Lib.hid (by unfold numK; rw [if_neg (by omega), if_neg (by omega), if_neg (by omega), if_neg (by omega), if_neg (by omega), if_neg (by omega), if_neg (by omega), if_neg (by omega)])
    rw [HE.out]
    rcases h with rfl | rfl | rfl | rfl | rfl | rfl | h
    rotate_right
    · have i1 : (n == 1) = false := by simp; omega
      have i2 : (n == 7) = false := by simp; omega
      have i3 : (n == 4) = false := by simp; omega
      have i4 : (n == 8) = false := by simp; omega
      have i5 : (n == 3) = false := by simp; omega
      have i6 : (n == 5) = false := by simp; omega
      have i7 : (n == 6) = false := by simp; omega
      have i8 : ¬ n ≤ 15 := by omega
      have i9 : ¬ n ≤ 21 := by omega
      have i10 : (n == 23) = false := by simp; omega
      have i11 : (n == 24) = false := by simp; omega
      have i12 : 11 ≤ n := by omega
      have i13 : 17 ≤ n := by omega
      go_enter Tryd.func77, Tryd.ntmps77
      go_wp2
      refine bodyPost_ret (v := (Kv.no).agg) ?_ rfl ⟨rfl, kbel _ _⟩
      simp [results, Tryd.results77, go_sem]; rfl
    all_goals
      go_enter Tryd.func77, Tryd.ntmps77
      go_wp2
      refine bodyPost_ret (v := (Kv.no).agg) ?_ rfl ⟨rfl, kbel _ _⟩
      simp [results, Tryd.results77, go_sem]; rfl
end Go.Proofs.YteolafeeggjblaaDoor
