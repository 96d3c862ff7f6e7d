/-
  A history of the program as it lies in memory; walks of newWalk, withLines, made, New, Leave, Len, Line, from, All.
-/
import Derived.Test.YtfjiogockpmogaaDoorHsMem
namespace Go.Proofs.YtfjiogockpmogaaDoor
open Go.RowKit
set_option linter.unusedVariables false
set_option linter.unusedSimpArgs false

/-- a walk: its draft, its beginning, the index of the line that it has come to; where the closure's boxes lie -/
structure HW where
  d : List UInt8
  b : List UInt8
  i : Nat
  xd : Nat
  xb : Nat
def wkC : Option HW → List Value
  | none => [.string ⟨#[]⟩, .nilFunc, .int .i64 0]
  | some k => [.string ⟨k.d.toArray⟩, hasF k.xd k.xb, .int .i64 k.i]
/-- A walk's boxes. -/
structure WkB (w : World) (k : HW) : Prop where
  bd : Boxed w k.xd 9 (.string ⟨k.d.toArray⟩)
  bb : Boxed w k.xb 9 (.string ⟨k.b.toArray⟩)
  dl : k.d.length ≤ 2000000
  bl : k.b.length ≤ 2000000
theorem WkB.chg {S : Nat → Prop} {w w' : World} {k : HW} (h : WkB w k) (hc : Chg S w w') (h1 : ¬ S k.xd) (h2 : ¬ S k.xb) : WkB w' k := ⟨hc.heap h.bd h1, hc.heap h.bb h2, h.dl, h.bl⟩

/-- A history at block h: its lines L, the first one first, at A; K: its walk. -/
structure HsAt (w : World) (lo h : Nat) (A : Option Addr) (c most : Nat) (L : List (List UInt8)) (K : Option HW) : Prop where
  head : Blk w h 71 (.pointer (some ⟨h, 0, none⟩) :: .int .i64 most :: .slice A L.length c :: wkC K)
  row : Sl w w.heap.size A (sv L)
  rne : ∀ g, blk A = some g → lo ≤ g ∧ g ≠ h ∧ g < w.heap.size
  lc : L.length ≤ c ∧ c ≤ maxLen ∧ (A = none → c = 0)
  wk : ∀ k, K = some k → WkB w k ∧ lo ≤ k.xd ∧ lo ≤ k.xb ∧ k.i < L.length
  le : L.length ≤ most
  m1 : 1 ≤ most
  m4 : most ≤ 256
  lo : lo ≤ h
  ok : ∀ l ∈ L, l ≠ [] ∧ l.length ≤ 3000
  nn : L = [] → A = none

namespace HsAt
variable {w w' : World} {lo h c most : Nat} {A : Option Addr} {L : List (List UInt8)} {K : Option HW}
theorem wne (q : HsAt w lo h A c most L K) {k : HW} (hk : K = some k) : k.xd ≠ h ∧ k.xb ≠ h := by
  have h1 := (q.wk k hk).1
  exact ⟨fun e => by
    have := h1.bd; unfold Boxed at this; rw [e] at this; have h2 := q.head; unfold Blk at h2; rw [this] at h2; injection h2 with h2; injection h2 with _ h2 _; revert h2; decide, fun e => by
    have := h1.bb; unfold Boxed at this; rw [e] at this; have h2 := q.head; unfold Blk at h2; rw [this] at h2; injection h2 with h2; injection h2 with _ h2 _; revert h2; decide⟩
/-- the blocks of a history -/
def Own (h : Nat) (A : Option Addr) (K : Option HW) (k : Nat) : Prop := k = h ∨ blk A = some k ∨ ∃ q, K = some q ∧ (k = q.xd ∨ k = q.xb)
theorem own_lt (q : HsAt w lo h A c most L K) (k : Nat) (hk : Own h A K k) : lo ≤ k ∧ k < w.heap.size := by
  rcases hk with rfl | hk | ⟨p, hp, hk⟩
  · exact ⟨q.lo, q.head.lt⟩
  · have := q.rne k hk; exact ⟨this.1, this.2.2⟩
  · have := q.wk p hp
    rcases hk with rfl | rfl
    · exact ⟨this.2.1, this.1.bd.lt⟩
    · exact ⟨this.2.2.1, this.1.bb.lt⟩
theorem keep {S : Nat → Prop} (q : HsAt w lo h A c most L K) (hc : Chg S w w') (hn : ∀ k, Own h A K k → ¬ S k) : HsAt w' lo h A c most L K :=
  ⟨q.head.chg hc (hn _ (.inl rfl)), (hc.sl q.row (Nat.le_refl _) (fun g off e => hn g (.inr (.inl (by rw [e]; rfl))))).more hc.size, fun g hg => by have := q.rne g hg; have := hc.size; exact ⟨by omega, by omega, by omega⟩, q.lc,
    fun k hk => by have := q.wk k hk; exact ⟨this.1.chg hc (hn _ (.inr (.inr ⟨k, hk, .inl rfl⟩))) (hn _ (.inr (.inr ⟨k, hk, .inr rfl⟩))), this.2⟩, q.le, q.m1, q.m4, q.lo, q.ok, q.nn⟩
theorem below (q : HsAt w lo h A c most L K) (hb : Below w.heap.size w w') : HsAt w' lo h A c most L K := q.keep (Chg.of_below (S := noB) hb) (fun _ _ h => h)
theorem drewN (q : HsAt w lo h A c most L K) (n : Nat) : HsAt (w.drewN n) lo h A c most L K := q.keep ((Chg.refl noB w).drewN n) (fun _ _ h => h)
theorem same (q : HsAt w lo h A c most L K) (hz : w.heap.size ≤ w'.heap.size) (hs : ∀ k, Own h A K k → w'.heap[k]? = w.heap[k]?) : HsAt w' lo h A c most L K :=
  ⟨(hs _ (.inl rfl)).trans q.head, by
    rcases q.row with hr | ⟨b, off, hA, hb, hcell⟩
    · exact .inl hr
    · exact .inr ⟨b, off, hA, by omega, fun j u hu => (World.cell?_of_block (w := w) (a := ⟨b, off + j, none⟩) (hs b (.inr (.inl (by rw [hA]; rfl))))).trans (hcell j u hu)⟩, fun g hg => by have := q.rne g hg; exact ⟨by omega, by omega, by omega⟩, q.lc,
    fun k hk => by have := q.wk k hk; exact ⟨⟨(hs _ (.inr (.inr ⟨k, hk, .inl rfl⟩))).trans this.1.bd, (hs _ (.inr (.inr ⟨k, hk, .inr rfl⟩))).trans this.1.bb, this.1.dl, this.1.bl⟩, this.2⟩, q.le, q.m1, q.m4, q.lo, q.ok, q.nn⟩
theorem c0 (q : HsAt w lo h A c most L K) : w.cell? ⟨h, 0, none⟩ = some (.pointer (some ⟨h, 0, none⟩)) := q.head.cell 0
theorem c1 (q : HsAt w lo h A c most L K) : w.cell? ⟨h, 1, none⟩ = some (.int .i64 most) := q.head.cell 1
theorem c2 (q : HsAt w lo h A c most L K) : w.cell? ⟨h, 2, none⟩ = some (.slice A L.length c) := q.head.cell 2
theorem len4 (q : HsAt w lo h A c most L K) : L.length ≤ 256 := by have := q.le; have := q.m4; omega
end HsAt

theorem hs_ptr_info : (Tryd.prog.info? 71).isSome = true := by kernel_rfl
theorem hs_eql_self (a : Addr) (w : World) : Sem.run Tryd.prog (binOp .eql 23 (.pointer (some a)) (.pointer (some a))) w = .ok (.bool true) w := by
  obtain ⟨j, hj⟩ := Option.isSome_iff_exists.1 hs_ptr_info
  have h : ∀ d : Nat, (Op.equalIn (d + 1) 23 (.pointer (some a)) (.pointer (some a))).run Tryd.prog w = .ok true w := fun d => by
    simp [Op.equalIn, run_underlying Tryd.underlying23, sizeOf, typeInfo, hj, run_sameAddr_same]
  simp only [binOp]
  simp [Op.equal, Op.maxDepth, h 9999]
theorem hs_eql_none (a : Addr) (w : World) : Sem.run Tryd.prog (binOp .eql 23 (.pointer none) (.pointer (some a))) w = .ok (.bool false) w := by
  have h : ∀ d : Nat, (Op.equalIn (d + 1) 23 (.pointer none) (.pointer (some a))).run Tryd.prog w = .ok false w := fun d => by
    simp [Op.equalIn, run_underlying Tryd.underlying23]
  simp only [binOp]
  simp [Op.equal, Op.maxDepth, h 9999]
theorem fn_nil (xd xb : Nat) (w : World) : Sem.run Tryd.prog (binOp .eql 55 (hasF xd xb) .nilFunc) w = .ok (.bool false) w := by kernel_rfl
theorem nil_nil (w : World) : Sem.run Tryd.prog (binOp .eql 55 .nilFunc .nilFunc) w = .ok (.bool true) w := by kernel_rfl

set_option maxHeartbeats 400000 in
theorem hmade_yes (h : Nat) (w : World) (hp : w.cell? ⟨h, 0, none⟩ = some (.pointer (some ⟨h, 0, none⟩))) :
    Calls Tryd.prog 35 #[.pointer (some ⟨h, 0, none⟩)] w fun e w' => e = .returned (.bool true) ∧ w = w' := by
  have he := hs_eql_self ⟨h, 0, none⟩
  go_enter Tryd.func35, Tryd.ntmps35
  go_wp2
  go_ret
  exact ⟨rfl, rfl⟩
/-- A history that nobody made. -/
def HsNo (w : World) (p : Option Addr) : Prop := p = none ∨ ∃ g, p = some ⟨g, 0, none⟩ ∧ w.cell? ⟨g, 0, none⟩ = some (.pointer none)
theorem HsNo.below {w w' : World} {p : Option Addr} (h : HsNo w p) (hb : Below w.heap.size w w') : HsNo w' p := by
  rcases h with h | ⟨g, h1, h2⟩
  · exact .inl h
  · exact .inr ⟨g, h1, (hb.cell (p := ⟨g, 0, none⟩) (World.block_lt_of_cell? w _ h2)).trans h2⟩
set_option maxHeartbeats 400000 in
theorem hmade_not {w : World} {p : Option Addr} (h : HsNo w p) : Calls Tryd.prog 35 #[.pointer p] w fun e w' => e = .returned (.bool false) ∧ w = w' := by
  rcases h with rfl | ⟨g, rfl, hp⟩
  · go_enter Tryd.func35, Tryd.ntmps35
    go_wp2
    go_ret
    exact ⟨rfl, rfl⟩
  · have he := hs_eql_none ⟨g, 0, none⟩
    go_enter Tryd.func35, Tryd.ntmps35
    go_wp2
    go_ret
    exact ⟨rfl, rfl⟩

set_option maxRecDepth 100000 in
set_option maxHeartbeats 2000000 in
theorem hwith_any (most : Nat) (L : List (List UInt8)) (A : Option Addr) (c : Nat) (K : Option HW) (w : World) :
    Calls Tryd.prog 22 #[.int .i64 most, .slice A L.length c, .agg (wkC K).toArray] w fun e w' => ∃ h, e = .returned (.pointer (some ⟨h, 0, none⟩)) ∧
      Blk w' h 71 (.pointer (some ⟨h, 0, none⟩) :: .int .i64 most :: .slice A L.length c :: wkC K) ∧ w.heap.size ≤ h ∧ Below w.heap.size w w' := by
  cases K with
  | none =>
    simp only [wkC]
    go_enter Tryd.func22, Tryd.ntmps22
    go_wp2
    go_ret
    exact ⟨_, rfl, by
      have := Blk.new (w.alloc (.cells #[.string ⟨#[]⟩, .nilFunc, .int .i64 0] 57)) 71 [.pointer (some ⟨w.heap.size + 1, 0, none⟩), .int .i64 most, .slice A L.length c, .string ⟨#[]⟩, .nilFunc, .int .i64 0]
      simpa using this, by simp, ((Below.refl _ w).alloc (Nat.le_refl _) _).alloc (by simp) _⟩
  | some k =>
    simp only [wkC, hasF]
    go_enter Tryd.func22, Tryd.ntmps22
    go_wp2
    go_ret
    exact ⟨_, rfl, by
      have := Blk.new (w.alloc (.cells #[.string ⟨k.d.toArray⟩, hasF k.xd k.xb, .int .i64 k.i] 57)) 71 [.pointer (some ⟨w.heap.size + 1, 0, none⟩), .int .i64 most, .slice A L.length c, .string ⟨k.d.toArray⟩, hasF k.xd k.xb, .int .i64 k.i]
      simpa [hasF] using this, by simp, ((Below.refl _ w).alloc (Nat.le_refl _) _).alloc (by simp) _⟩
end Go.Proofs.YtfjiogockpmogaaDoor
