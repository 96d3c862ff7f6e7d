/-
  Walks: the law's example.
-/
import Derived.Test.YtfmkeeaenjeneaaGreatDoorTmNew
import Derived.Test.YtfmkeeaenjeneaaGreatDoorTmWrite
import Derived.Lib.SlBytesConst
namespace Go.Proofs.YtfmkeeaenjeneaaGreatDoor
open Go.RowKit Go.Sort
set_option linter.unusedVariables false
set_option linter.unusedSimpArgs false

def exT : TS × List UInt8 := wrT (wrT (tmNew 3 2, []) [97, 98, 99]) [100, 7]
def ex0 : List Cl := [⟨[97], 1, Sty.zero⟩, ⟨[98], 1, Sty.zero⟩, ⟨[99], 1, Sty.zero⟩]
theorem ex_eq : exT = (⟨3, exT.1.L, 1, 1, Sty.zero, false, true, false, 0, 1, 1, 0, false⟩, []) := by kernel_rfl
theorem ex_t0 : (exT.1.L[0]?).map textM = some [97, 98, 99] := by kernel_rfl
theorem ex_t1 : (exT.1.L[1]?).map textM = some [100] := by kernel_rfl
theorem base_of {w : World} (hT : BlankT w) (hTb : Tabs w) : Base w w.heap.size := ⟨hT, hTb, hT.2, hTb.mg, hTb.wg, Nat.le_refl _⟩
theorem ex_w (b1 b2 : Option Addr) (c1 c2 : Nat) : wrA (tmNew 3 2, []) [(b1, [97, 98, 99], c1), (b2, [100, 7], c2)] = exT := by unfold exT wrA; simp only [List.foldl_cons, List.foldl_nil]
/-- a row that was just made, with the run-time's mark -/
def BlkM (w : World) (g : Nat) (t : TypeId) (cs : List Value) : Prop := ∃ m, w.heap[g]? = some (.cells cs.toArray t m)
namespace BlkM
variable {w w' : World} {g : Nat} {t : TypeId} {cs : List Value}
theorem lt (h : BlkM w g t cs) : g < w.heap.size := by obtain ⟨m, h⟩ := h; exact (Array.getElem?_eq_some_iff.1 h).1
theorem cell (h : BlkM w g t cs) (i : Nat) : w.cell? ⟨g, i, none⟩ = cs[i]? := by
  obtain ⟨m, h⟩ := h
  have := cell_of_row w g i cs.toArray t m h
  simpa using this
theorem new (w : World) (t : TypeId) (cs : List Value) (m : Nat × Nat) : BlkM (w.alloc (.cells cs.toArray t m)) w.heap.size t cs := ⟨m, heap_alloc_new w _⟩
theorem alloc (h : BlkM w g t cs) (o : Obj) : BlkM (w.alloc o) g t cs := by have hl := h.lt; obtain ⟨m, h'⟩ := h; exact ⟨m, (Below.heap_alloc w o g hl).trans h'⟩
end BlkM
/-- two slices of bytes, just made, and a slice of the two -/
theorem parts_two {S : Nat → Prop} (w : World) (a b : List UInt8) (ha : a.length ≤ 100000) (hb : b.length ≤ 100000) (hS : ∀ k, S k → k < w.heap.size) (m1 m2 : Nat × Nat) :
    PartsAt (((w.alloc (.cells (bv a).toArray 5 m1)).alloc (.cells (bv b).toArray 5 m2)).alloc (.cells #[.slice (some ⟨w.heap.size, 0, none⟩) a.length a.length, .slice (some ⟨w.heap.size + 1, 0, none⟩) b.length b.length] 32)) S (w.heap.size + 1 + 1)
      [(some ⟨w.heap.size, 0, none⟩, a, a.length), (some ⟨w.heap.size + 1, 0, none⟩, b, b.length)] := by
  have h1 : BlkM (w.alloc (.cells (bv a).toArray 5 m1)) w.heap.size 5 (bv a) := BlkM.new w 5 (bv a) m1
  have h2 : BlkM ((w.alloc (.cells (bv a).toArray 5 m1)).alloc (.cells (bv b).toArray 5 m2)) (w.heap.size + 1) 5 (bv b) := by
    have := BlkM.new (w.alloc (.cells (bv a).toArray 5 m1)) 5 (bv b) m2
    simpa using this
  have h3 : BlkM (((w.alloc (.cells (bv a).toArray 5 m1)).alloc (.cells (bv b).toArray 5 m2)).alloc (.cells #[.slice (some ⟨w.heap.size, 0, none⟩) a.length a.length, .slice (some ⟨w.heap.size + 1, 0, none⟩) b.length b.length] 32)) (w.heap.size + 1 + 1) 32 [.slice (some ⟨w.heap.size, 0, none⟩) a.length a.length, .slice (some ⟨w.heap.size + 1, 0, none⟩) b.length b.length] := by
    have := BlkM.new ((w.alloc (.cells (bv a).toArray 5 m1)).alloc (.cells (bv b).toArray 5 m2)) 32 [.slice (some ⟨w.heap.size, 0, none⟩) a.length a.length, .slice (some ⟨w.heap.size + 1, 0, none⟩) b.length b.length] (0, 0)
    simpa using this
  have k1 := (h1.alloc (.cells (bv b).toArray 5 m2)).alloc (.cells #[.slice (some ⟨w.heap.size, 0, none⟩) a.length a.length, .slice (some ⟨w.heap.size + 1, 0, none⟩) b.length b.length] 32)
  have k2 := h2.alloc (.cells #[.slice (some ⟨w.heap.size, 0, none⟩) a.length a.length, .slice (some ⟨w.heap.size + 1, 0, none⟩) b.length b.length] 32)
  refine ⟨h3.lt, fun h => ?_, fun j v hv => ?_, fun v hv => ?_, fun v hv => ?_⟩
  · have := hS _ h; omega
  · rw [h3.cell]
    match j, hv with
    | 0, hv => simp at hv; subst hv; rfl
    | 1, hv => simp at hv; subst hv; rfl
    | j + 2, hv => simp at hv
  · right
    simp at hv
    rcases hv with rfl | rfl
    · refine ⟨w.heap.size, 0, rfl, k1.lt, fun h => ?_, fun i hi => ?_⟩
      · have := hS _ h; omega
      · rw [Nat.zero_add, k1.cell]; exact bv_get hi
    · refine ⟨w.heap.size + 1, 0, rfl, k2.lt, fun h => ?_, fun i hi => ?_⟩
      · have := hS _ h; omega
      · rw [Nat.zero_add, k2.cell]; exact bv_get hi
  · simp at hv
    rcases hv with rfl | rfl
    · exact ha
    · exact hb
theorem TmAt.own_lt {w : World} {lo t g rb : Nat} {bs : List Nat} {T : TS} {B : List UInt8} (h : TmAt w lo t g rb bs T B) : ∀ k, TmOwn t g rb bs k → k < w.heap.size := by
  rintro k (rfl | hk)
  · exact h.lt
  · exact h.grid.own_lt k hk
theorem TmStep.toBelow {w0 w w' : World} {t g rb : Nat} {bs : List Nat} {T T' : TS} {B B' : List UInt8} (h : TmAt w w0.heap.size t g rb bs T B) (hb : Below w0.heap.size w0 w) (hs : TmStep w w0.heap.size t g rb bs T' B' w') : Below w0.heap.size w0 w' := by
  obtain ⟨_, _, _, hc⟩ := hs
  exact hb.trans (hc.below hb.size (fun k hk => h.own_lo hk))

end Go.Proofs.YtfmkeeaenjeneaaGreatDoor
