/-
  A buffer of the program as it lies in memory; walks of made, ahead, behind, count, has, slot, clamp.
-/
import Derived.Test.YtfhfhjcdeeepbaaGreatDoorGpMath
import Derived.Test.YtfhfhjcdeeepbaaGreatDoorGpLem
import Derived.Test.YtfhfhjcdeeepbaaGreatDoorGfS
import Derived.LaidEqlPtr
import Derived.Lib.Builder
import Derived.Deep.QuietTactic
import Derived.BigQuiet
import Derived.IntWalk
namespace Go.Proofs.YtfhfhjcdeeepbaaGreatDoor
open Go.RowKit
set_option linter.unusedVariables false
set_option linter.unusedSimpArgs false

/-- the empty text -/
def sz : Value := .string ⟨#[]⟩
theorem sv_append (p s : List (List UInt8)) : sv (p ++ s) = sv p ++ sv s := by simp [sv]
theorem sv_drop (p : List (List UInt8)) (k : Nat) : (sv p).drop k = sv (p.drop k) := by simp [sv, List.map_drop]
theorem sv_one (p : List (List UInt8)) : ∀ v ∈ sv p, v.oneCell' = true := by
  intro v hv
  obtain ⟨c, _, rfl⟩ := List.mem_map.1 hv
  rfl
/-- how many clusters there are -/
def ln (p s : List (List UInt8)) : Nat := p.length + s.length
theorem ln_eq (p s : List (List UInt8)) : ln p s = (p ++ s).length := by simp [ln]
/-- what stands behind the gap, where the model lays it -/
def bh (A : Option Addr) (C t : Nat) : Option Addr := if C = t then A else A.map (·.add t)
/-- the blocks of a buffer -/
def GpOwn (g : Nat) (A : Option Addr) (k : Nat) : Prop := k = g ∨ blk A = some k

/-- A buffer at block g: p ahead of the cursor, s behind it; all of its n slots lie at A, the gap from f to t. -/
structure GpAt (w : World) (lo g : Nat) (A : Option Addr) (n C most f t : Nat) (p s : List (List UInt8)) : Prop where
  head : Blk w g 82 [.pointer (some ⟨g, 0, none⟩), .int .i64 most, .slice A n C, .int .i64 f, .int .i64 t]
  fp : p.length = f
  ft : f ≤ t
  tn : t + s.length = n
  nC : n ≤ C
  all : (A = none ∧ C = 0) ∨ ∃ ab tl, A = some ⟨ab, 0, none⟩ ∧ 1 ≤ n ∧ C = n + tl.length ∧ Blk w ab 9 (gc sz (sv p) (t - f) (sv s) tl) ∧ lo ≤ ab
  le : n ≤ most
  m1 : 1 ≤ most
  m4 : most ≤ 4096
  lo : lo ≤ g
  is : ∀ c ∈ p ++ s, isC c = true

namespace GpAt
variable {w w' : World} {lo g n C most f t : Nat} {A : Option Addr} {p s : List (List UInt8)}
theorem own_lt (h : GpAt w lo g A n C most f t p s) (k : Nat) (hk : GpOwn g A k) : lo ≤ k ∧ k < w.heap.size := by
  rcases hk with rfl | hk
  · exact ⟨h.lo, h.head.lt⟩
  · rcases h.all with ⟨rfl, _⟩ | ⟨ab, tl, rfl, _, _, hb, hl⟩
    · cases hk
    · have : ab = k := by simpa [blk] using hk
      subst this
      exact ⟨hl, hb.lt⟩
theorem keep {S : Nat → Prop} (h : GpAt w lo g A n C most f t p s) (hc : Chg S w w') (hn : ∀ k, GpOwn g A k → ¬ S k) : GpAt w' lo g A n C most f t p s :=
  ⟨h.head.chg hc (hn _ (.inl rfl)), h.fp, h.ft, h.tn, h.nC, h.all.imp id (fun ⟨ab, tl, e, h1, h2, hb, h3⟩ => ⟨ab, tl, e, h1, h2, hb.chg hc (hn _ (.inr (by rw [e]; rfl))), h3⟩), h.le, h.m1, h.m4, h.lo, h.is⟩
theorem below (h : GpAt w lo g A n C most f t p s) (hb : Below w.heap.size w w') : GpAt w' lo g A n C most f t p s := h.keep (Chg.of_below (S := noB) hb) (fun _ _ h => h)
theorem drewN (h : GpAt w lo g A n C most f t p s) (n' : Nat) : GpAt (w.drewN n') lo g A n C most f t p s := h.keep ((Chg.refl noB w).drewN n') (fun _ _ h => h)
theorem c0 (h : GpAt w lo g A n C most f t p s) : w.cell? ⟨g, 0, none⟩ = some (.pointer (some ⟨g, 0, none⟩)) := h.head.cell 0
theorem c1 (h : GpAt w lo g A n C most f t p s) : w.cell? ⟨g, 1, none⟩ = some (.int .i64 most) := h.head.cell 1
theorem c2 (h : GpAt w lo g A n C most f t p s) : w.cell? ⟨g, 2, none⟩ = some (.slice A n C) := h.head.cell 2
theorem c3 (h : GpAt w lo g A n C most f t p s) : w.cell? ⟨g, 3, none⟩ = some (.int .i64 f) := h.head.cell 3
theorem c4 (h : GpAt w lo g A n C most f t p s) : w.cell? ⟨g, 4, none⟩ = some (.int .i64 t) := h.head.cell 4
theorem lnf (h : GpAt w lo g A n C most f t p s) : ln p s = f + (n - t) := by have := h.fp; have := h.tn; unfold ln; omega
theorem ne (h : GpAt w lo g A n C most f t p s) {ab : Nat} (hA : blk A = some ab) : g ≠ ab := by
  rcases h.all with ⟨rfl, _⟩ | ⟨ab', tl, rfl, _, _, hb, _⟩
  · cases hA
  · have : ab' = ab := by simpa [blk] using hA
    subst this
    exact h.head.ne_ hb (by decide)
theorem pre_sl (h : GpAt w lo g A n C most f t p s) : Sl w w.heap.size A (sv p) := by
  rcases h.all with ⟨rfl, hC⟩ | ⟨ab, tl, rfl, _, _, hb, _⟩
  · have : p = [] := List.eq_nil_of_length_eq_zero (by have := h.fp; have := h.ft; have := h.tn; have := h.nC; omega)
    subst this
    exact .inl rfl
  · exact .inr ⟨ab, 0, rfl, hb.lt, fun j u hu => by
      have hj : j < (sv p).length := (List.getElem?_eq_some_iff.1 hu).1
      rw [Nat.zero_add, hb.cell, gc_pre _ _ _ _ _ hj]; exact hu⟩
theorem suf_sl (h : GpAt w lo g A n C most f t p s) : Sl w w.heap.size (bh A C t) (sv s) := by
  rcases h.all with ⟨rfl, hC⟩ | ⟨ab, tl, rfl, _, hC, hb, _⟩
  · have : s = [] := List.eq_nil_of_length_eq_zero (by have := h.tn; have := h.nC; omega)
    subst this
    exact .inl rfl
  · rcases Nat.eq_zero_or_pos s.length with h0 | h0
    · have : s = [] := List.eq_nil_of_length_eq_zero h0
      subst this
      exact .inl rfl
    · unfold bh
      rw [if_neg (by have := h.tn; omega)]
      refine .inr ⟨ab, t, by by_cases h0 : t = 0 <;> simp [Addr.add, h0], hb.lt, fun j u hu => ?_⟩
      have hj : j < (sv s).length := (List.getElem?_eq_some_iff.1 hu).1
      rw [hb.cell, gc_suf _ _ _ _ _ (by rw [sv_length, h.fp]; have := h.ft; omega) hj]; exact hu
end GpAt

theorem gp_info : (Tryz.prog.info? 82).map (·.size) = some 5 := by kernel_rfl
theorem gp_ptr_info : (Tryz.prog.info? 82).isSome = true := by kernel_rfl
theorem gp_eql_self (a : Addr) (w : World) : Sem.run Tryz.prog (binOp .eql 43 (.pointer (some a)) (.pointer (some a))) w = .ok (.bool true) w := by
  obtain ⟨j, hj⟩ := Option.isSome_iff_exists.1 gp_ptr_info
  have h : ∀ d : Nat, (Op.equalIn (d + 1) 43 (.pointer (some a)) (.pointer (some a))).run Tryz.prog w = .ok true w := fun d => by
    simp [Op.equalIn, run_underlying Tryz.underlying43, sizeOf, typeInfo, hj, run_sameAddr_same]
  simp only [binOp]
  simp [Op.equal, Op.maxDepth, h 9999]
theorem gp_eql_none (a : Addr) (w : World) : Sem.run Tryz.prog (binOp .eql 43 (.pointer none) (.pointer (some a))) w = .ok (.bool false) w := by
  have h : ∀ d : Nat, (Op.equalIn (d + 1) 43 (.pointer none) (.pointer (some a))).run Tryz.prog w = .ok false w := fun d => by
    simp [Op.equalIn, run_underlying Tryz.underlying43]
  simp only [binOp]
  simp [Op.equal, Op.maxDepth, h 9999]

set_option maxHeartbeats 400000 in
theorem gmade_yes (g : Nat) (w : World) (hp : w.cell? ⟨g, 0, none⟩ = some (.pointer (some ⟨g, 0, none⟩))) :
    Calls Tryz.prog 40 #[.pointer (some ⟨g, 0, none⟩)] w fun e w' => e = .returned (.bool true) ∧ w = w' := by
  have he := gp_eql_self ⟨g, 0, none⟩
  go_enter Tryz.func40, Tryz.ntmps40
  go_wp2
  go_ret
  exact ⟨rfl, rfl⟩
/-- A buffer that nobody made. -/
def GpNo (w : World) (p : Option Addr) : Prop := p = none ∨ ∃ g, p = some ⟨g, 0, none⟩ ∧ w.cell? ⟨g, 0, none⟩ = some (.pointer none)
theorem GpNo.below {w w' : World} {p : Option Addr} (h : GpNo w p) (hb : Below w.heap.size w w') : GpNo w' p := by
  rcases h with h | ⟨g, h1, h2⟩
  · exact .inl h
  · exact .inr ⟨g, h1, (hb.cell (p := ⟨g, 0, none⟩) (World.block_lt_of_cell? w _ h2)).trans h2⟩
set_option maxHeartbeats 400000 in
theorem gmade_not {w : World} {p : Option Addr} (h : GpNo w p) : Calls Tryz.prog 40 #[.pointer p] w fun e w' => e = .returned (.bool false) ∧ w = w' := by
  rcases h with rfl | ⟨g, rfl, hp⟩
  · go_enter Tryz.func40, Tryz.ntmps40
    go_wp2
    go_ret
    exact ⟨rfl, rfl⟩
  · have he := gp_eql_none ⟨g, 0, none⟩
    go_enter Tryz.func40, Tryz.ntmps40
    go_wp2
    go_ret
    exact ⟨rfl, rfl⟩

theorem gp_drewN (w : World) (n : Nat) : Below w.heap.size w (w.drewN n) := (Chg.refl noB w).drewN n |>.none_below

set_option maxHeartbeats 1000000 in
theorem ahead_any {w : World} {lo g n C most f t : Nat} {A : Option Addr} {p s : List (List UInt8)} (h : GpAt w lo g A n C most f t p s) :
    Calls Tryz.prog 41 #[.pointer (some ⟨g, 2, none⟩)] w fun e w' => e = .returned (.slice A f C) ∧ Below w.heap.size w w' := by
  have h2 := h.c2
  have h3 := h.c3
  have hfC : f ≤ C := by have := h.ft; have := h.tn; have := h.nC; omega
  have hle := h.le
  have hm4 := h.m4
  have hft := h.ft
  have htn : t ≤ n := by have := h.tn; omega
  clear h
  go_enter Tryz.func41, Tryz.ntmps41
  go_wp2
  go_quiet (fail)
  go_wp2
  go_ret
  exact ⟨rfl, gp_drewN _ _⟩

set_option maxHeartbeats 1000000 in
theorem behind_any {w : World} {lo g n C most f t : Nat} {A : Option Addr} {p s : List (List UInt8)} (h : GpAt w lo g A n C most f t p s) :
    Calls Tryz.prog 59 #[.pointer (some ⟨g, 2, none⟩)] w fun e w' => e = .returned (.slice (bh A C t) (n - t : Nat) (C - t : Nat)) ∧ Below w.heap.size w w' := by
  have h2 := h.c2
  have h3 := h.c4
  have htn : t ≤ n := by have := h.tn; omega
  have hnC := h.nC
  have hle := h.le
  have hm4 := h.m4
  clear h
  unfold bh
  by_cases hC : C = t
  · subst hC
    go_enter Tryz.func59, Tryz.ntmps59
    go_wp2
    go_quiet (fail)
    go_wp2
    go_ret
    exact ⟨by simp, gp_drewN _ _⟩
  · go_enter Tryz.func59, Tryz.ntmps59
    go_wp2
    go_quiet (fail)
    go_wp2
    go_ret
    exact ⟨by simp [hC], gp_drewN _ _⟩

set_option maxHeartbeats 1000000 in
theorem gcount_any {w : World} {lo g n C most f t : Nat} {A : Option Addr} {p s : List (List UInt8)} (h : GpAt w lo g A n C most f t p s) :
    Calls Tryz.prog 61 #[.pointer (some ⟨g, 2, none⟩)] w fun e w' => e = .returned (.int .i64 (ln p s : Nat)) ∧ Below w.heap.size w w' := by
  have hl := h.lnf
  have htn : t ≤ n := by have := h.tn; omega
  have hft := h.ft
  have hle := h.le
  have hm4 := h.m4
  have e1 : (f : Int) + ((n - t : Nat) : Int) = (ln p s : Nat) := by omega
  have HL := Lib.hid hl
  have HE := Lib.hid e1
  have H := Lib.hid h
  clear h hl e1
  go_enter Tryz.func61, Tryz.ntmps61
  go_wp2_with (first
    | (go_at_call 41; refine (ahead_any H.out).mono ?_; rintro e w1 ⟨rfl, hb1⟩; have H1 := Lib.hid (H.out.below hb1))
    | (go_at_call 59; refine (behind_any H1.out).mono ?_; rintro e w2 ⟨rfl, hb2⟩))
  go_ret
  exact ⟨ret_int (by have := HE.out; omega), hb1.trans (hb2.mono hb1.size)⟩

/-- is there a cluster at an index? -/
def hasB (a : Int) (L : Nat) : Bool := decide (0 ≤ a ∧ a < L)
theorem hasB_at (a L : Nat) : hasB a L = decide (a < L) := by unfold hasB; rw [Bool.eq_iff_iff]; simp
set_option maxHeartbeats 1000000 in
theorem ghas_any {w : World} {lo g n C most f t : Nat} {A : Option Addr} {p s : List (List UInt8)} (h : GpAt w lo g A n C most f t p s) (a : Int) :
    Calls Tryz.prog 115 #[.pointer (some ⟨g, 2, none⟩), .int .i64 a] w fun e w' => e = .returned (.bool (hasB a (ln p s))) ∧ Below w.heap.size w w' := by
  have H := Lib.hid h
  clear h
  by_cases h0 : 0 ≤ a
  · go_enter Tryz.func115, Tryz.ntmps115
    go_wp2_with (go_at_call 61; refine (gcount_any H.out).mono ?_; rintro e w1 ⟨rfl, hb1⟩)
    go_ret
    exact ⟨ret_bool (by unfold hasB; rw [Bool.eq_iff_iff]; simp [h0]), hb1⟩
  · have e : hasB a (ln p s) = false := by unfold hasB; simp; omega
    have hlt : a < 0 := by omega
    have HE := Lib.hid e
    clear e h0
    go_enter Tryz.func115, Tryz.ntmps115
    go_wp2
    go_ret
    exact ⟨ret_bool (by rw [HE.out]), Below.refl _ _⟩

/-- where the cluster at an index is held -/
def slotN (a f t : Nat) : Nat := if a < f then a else a + (t - f)
set_option maxHeartbeats 1000000 in
theorem gslot_any {w : World} {lo g n C most f t : Nat} {A : Option Addr} {p s : List (List UInt8)} (h : GpAt w lo g A n C most f t p s) (a : Nat) (ha : a < ln p s) :
    Calls Tryz.prog 116 #[.pointer (some ⟨g, 2, none⟩), .int .i64 a] w fun e w' => e = .returned (.int .i64 (slotN a f t : Nat)) ∧ Below w.heap.size w w' := by
  have h2 := h.c3
  have h3 := h.c4
  have htn : t ≤ n := by have := h.tn; omega
  have hft := h.ft
  have hle := h.le
  have hm4 := h.m4
  have hlim : a ≤ 4096 := by have := h.lnf; omega
  clear h ha
  by_cases hf : a < f
  · have hfi : (a : Int) < f := by omega
    have e : slotN a f t = a := if_pos hf
    have HE := Lib.hid e
    clear e
    go_enter Tryz.func116, Tryz.ntmps116
    go_wp2
    go_ret
    exact ⟨ret_int (by rw [HE.out]), Below.refl _ _⟩
  · have hfi : ¬ (a : Int) < f := by omega
    have e : slotN a f t = a + (t - f) := if_neg hf
    have HE := Lib.hid e
    clear e
    go_enter Tryz.func116, Tryz.ntmps116
    go_wp2
    have e1 : IntKind.i64.wrap ((a : Int) + t) = (a : Int) + t := IntWalk.i64_in _ (by omega)
    have e2 : IntKind.i64.wrap ((a : Int) + t - f) = (a : Int) + t - f := IntWalk.i64_in _ (by omega)
    go_quiet (fail)
    go_wp2
    go_ret
    exact ⟨ret_int (by rw [HE.out]; omega), gp_drewN _ _⟩

/-- the index, or the nearest one that there is -/
def clampN (a : Int) (L : Nat) : Nat := (max 0 (min a L)).toNat
theorem clampN_le (a : Int) (L : Nat) : clampN a L ≤ L := by unfold clampN; omega
set_option maxHeartbeats 1000000 in
theorem gclamp_any {w : World} {lo g n C most f t : Nat} {A : Option Addr} {p s : List (List UInt8)} (h : GpAt w lo g A n C most f t p s) (a : Int) :
    Calls Tryz.prog 101 #[.pointer (some ⟨g, 0, none⟩), .int .i64 a] w fun e w' => e = .returned (.int .i64 (clampN a (ln p s) : Nat)) ∧ Below w.heap.size w w' := by
  have hg := h.c0
  have H := Lib.hid h
  clear h
  go_enter Tryz.func101, Tryz.ntmps101
  go_wp2_with (go_at_call 61; refine (gcount_any H.out).mono ?_; rintro e w1 ⟨rfl, hb1⟩)
  all_goals
    go_ret
    exact ⟨ret_int (by unfold clampN; omega), hb1⟩
end Go.Proofs.YtfhfhjcdeeepbaaGreatDoor
