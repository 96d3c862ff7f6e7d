/-
  Walks: All's iterator, told, Keys of a map that nobody made.
-/
import Derived.Test.YthlhfbchilfgcaaDoorKmNot
import Derived.Test.YthlhfbchilfgcaaDoorIterV
import Derived.RangeFuncNested
import Derived.RangeFuncBound
import Derived.RangeFuncCalls
import Derived.RangeFuncLeaves
import Derived.Shelf.Abstract
import Derived.Shelf.RegionOpen
import Derived.OwnWalkIn
import Derived.TacticsInMore
import Derived.LoopNIn
import Derived.LoopIn
namespace Go.Proofs.YthlhfbchilfgcaaDoor
open Go.RowKit Go.Shelf
attribute [local go_sem] Oper.semAt_some
set_option linter.unusedVariables false
set_option linter.unusedSimpArgs false

abbrev TM := List UInt8 × Int
def encM (x : TM) : Array Value := #[.string ⟨x.1.toArray⟩, .int .i64 x.2]
def elM (_ : TM) (_ : World) : Prop := True
def nobO (bd : Nat) (p : Option Addr) : Nat → Prop := fun k => k = bd ∨ blk p = some k
set_option maxRecDepth 100000 in
set_option maxHeartbeats 1000000 in
theorem all_none (p : Option Addr) (bd : Nat) (w : World) (hp : MNo w p) (hbd : Boxed w bd 36 (.pointer p)) :
    SeqV Fence.wide 8 Tryd.prog 63 #[.pointer (some ⟨bd, 0, none⟩)] encM (nobO bd p) elM (fun xs _ W => xs = [] ∧ ∀ k, nobO bd p k → W.heap[k]? = w.heap[k]?) (fun _ _ _ => False) 0 w := by
  intro l J Jx W hsz hf0 hJ hJx hY h0
  have hbdW : Boxed W bd 36 (.pointer p) := (hf0 bd (.inl rfl)).trans hbd
  have hpW : MNo W p := hp.same (fun k hk => hf0 k (.inr hk))
  have hcd := (hbdW.alloc (.cells #[.func (.yield l) #[] #[]] 102)).cell
  have hcd2 := hbdW.cell
  have H0 := Lib.hid h0
  have HF0 := Lib.hid hf0
  have HP := Lib.hid hpW
  clear hJ hJx hY h0 hf0 hp hbd hbdW hpW
  refine callsIn_of_wp Tryd.func63 rfl trivial ?_ rfl
  simp only [Tryd.ntmps63, List.size_toArray, List.length_cons, List.length_nil, Nat.reduceAdd, Nat.reduceSub, Array.replicate_succ, Array.replicate_zero, List.push_toArray, List.append_toArray, List.nil_append, List.cons_append]
  gi_wp2_with (refine ⟨trivial, ?_⟩; gi_at_call 51; refine (callsIn_wide.2 (made_not HP.out)).mono ?_; rintro e w' ⟨rfl, rfl⟩)
  refine bodyPost_ret (results_none rfl _ _ _) rfl ?_
  exact ⟨⟨_, rfl⟩, .inl ⟨[], _, ⟨rfl, HF0.out⟩, H0.out⟩⟩

/-- what a range over such an iterator keeps: a box, and all that lay -/
def NbI (w : World) (B : Nat) (T : TypeId) (v : Value) (F : Nat → Prop) (pre : List TM) (f : Nat → Prop) (W : World) : Prop :=
  Boxed W B T v ∧ Chg F w W ∧ ∀ k, f k → F k ∨ B < k
theorem nbI_ab {b B : Nat} {w : World} {T : TypeId} {v : Value} {F : Nat → Prop} (hb : B < b) (hw : w.heap.size ≤ B) (hF : ¬ F B) : AbV b (NbI w B T v F) := by
  rintro s f f' A C ⟨h1, h3, h4⟩ ht hf
  have hno : ¬ f B := fun hfk => by
    rcases h4 B hfk with h | h
    · exact hF h
    · omega
  refine ⟨ht.block _ _ h1 hno (.inl hb), ⟨ht.os.trans h3.os, ht.tape.trans h3.tape, ht.output.trans h3.output, Nat.le_trans h3.size ht.size, fun k hk hn => ?_⟩, fun k hk => ?_⟩
  · have hkA : k < A.heap.size := by have := h3.size; omega
    rw [← h3.block k hk hn]
    rw [Array.getElem?_eq_getElem hkA]
    refine ht.block k _ (Array.getElem?_eq_getElem hkA) (fun e => ?_) (.inl (by omega))
    rcases h4 k e with h | h
    · exact hn h
    · omega
  · rcases hf k hk with h | h
    · exact h4 k h
    · have := h1.lt; exact .inr (by omega)

set_option maxRecDepth 100000 in
set_option maxHeartbeats 4000000 in
theorem told_not (p : Option Addr) (most : Int) (w : World) (hp : MNo w p) :
    Calls Tryd.prog 31 #[.pointer p, .int .i64 most] w fun e w' => e = .returned (.tuple #[.slice none 0 0, .bool true]) ∧ Below w.heap.size w w' := by
  have hlt := hp.lt
  have hnf : ∀ (v : Value) w, Sem.run Tryd.prog (binOp .eql 89 (.func (.func 63) #[] #[v]) .nilFunc) w = .ok (.bool false) w := fun _ _ => by kernel_rfl
  refine (callsIn_wide (n := 9)).1 ?_
  refine callsIn_of_wp_marks Tryd.func31 rfl trivial ?_ rfl
  simp only [Tryd.ntmps31, List.size_toArray, List.length_cons, List.length_nil, Nat.reduceAdd, Nat.reduceSub, Array.replicate_succ, Array.replicate_zero, List.push_toArray, List.append_toArray, List.nil_append, List.cons_append]
  refine wpIn_wide.2 ?_
  go_wp2_with (go_at_call 53; refine (mall_any _ _).mono ?_; rintro e w' ⟨rfl, rfl⟩)
  refine (wpIn_wide (n := 9)).1 ?_
  have hX := Boxed.new ((w.alloc (.cells #[.int .i64 most] 3)).alloc (.cells #[.pointer p] 36)) 38 (.slice none 0 0)
  have hY := (Boxed.new (w.alloc (.cells #[.int .i64 most] 3)) 36 (.pointer p)).alloc (.cells #[.slice none 0 0] 38)
  simp only [World.size_alloc] at hX hY
  have hb0 : Below w.heap.size w (((w.alloc (.cells #[.int .i64 most] 3)).alloc (.cells #[.pointer p] 36)).alloc (.cells #[.slice none 0 0] 38)) := (((Below.refl _ w).alloc (Nat.le_refl _) _).alloc (by simp) _).alloc (by simp; omega) _
  have hsz : (((w.alloc (.cells #[.int .i64 most] 3)).alloc (.cells #[.pointer p] 36)).alloc (.cells #[.slice none 0 0] 38)).heap.size = w.heap.size + 3 := by simp
  generalize hw2 : ((w.alloc (.cells #[.int .i64 most] 3)).alloc (.cells #[.pointer p] 36)).alloc (.cells #[.slice none 0 0] 38) = w2 at hX hY hb0 hsz ⊢
  clear hw2
  have hp2 : MNo w2 p := hp.same (fun k hk => hb0.block k (hlt k hk))
  have hf0 : ∀ k, nobO (w.heap.size + 1) p k → k < w2.heap.size ∧ k ≠ w.heap.size + 1 + 1 := fun k hk => by
    rcases hk with rfl | hk
    · omega
    · have := hlt k hk; omega
  refine range_v rfl (by omega) (gf := 63) (lb := #[.pointer (some ⟨w.heap.size + 1, 0, none⟩)]) rfl trivial (enters_of Tryd.func63 (by kernel_rfl) rfl)
    (all_none p (w.heap.size + 1) w2 hp2 hY)
    (Nat.le_refl _) (fun k hk => ⟨(hf0 k hk).1, rfl⟩) (fun _ => rfl) (fun _ _ _ _ _ _ _ _ h => h)
    (fun xs f W l o o' hl ho hc h => ⟨h.1, fun k hk => (World.putObj_heap_other (by have := (hf0 k hk).1; omega)).trans (h.2 k hk)⟩) (fun _ _ _ _ _ _ _ _ _ h => h)
    (NbI w (w.heap.size + 1 + 1) 38 (.slice none 0 0) (nobO (w.heap.size + 1) p))
    (fun _ _ _ _ => False)
    (nbI_ab (by omega) (by omega) (fun h => (hf0 _ h).2 rfl))
    (fun _ _ _ _ _ _ h _ _ => h)
    ⟨hX, Chg.of_below hb0, fun k hk => .inl hk⟩
    (fun x => { tmps := #[.pointer p, .int .i64 most, undef, .pointer (some ⟨w.heap.size, 0, none⟩), .slice none 0 0, .bool false, .func (.func 63) #[] #[.pointer (some ⟨w.heap.size + 1, 0, none⟩)], .pointer (some ⟨w.heap.size + 1 + 1, 0, none⟩), .string ⟨x.1.toArray⟩, .int .i64 x.2, .pointer p, .func (.func 63) #[] #[.pointer (some ⟨w.heap.size + 1, 0, none⟩)], .func (.func 63) #[] #[.pointer (some ⟨w.heap.size + 1, 0, none⟩)], .bool false, .func (.func 63) #[] #[.pointer (some ⟨w.heap.size + 1, 0, none⟩)], .string ⟨x.1.toArray⟩, .int .i64 x.2, undef, undef, undef, undef, undef, undef, undef, undef, undef, undef, undef], defers := [] }) ?assign ?body ?done ?stop
  case assign =>
    intro l x W K hK
    simp only [encM]
    rw [put_two]
    gi_wp2
    exact hK
  case body =>
    rintro l pre x f W hf hz _ hlen _
    omega
  case done =>
    rintro E ys f W hE hf ⟨rfl, hfx⟩ ⟨hb, hcg, hff⟩ hK
    have hc := hb.cell
    have hcO : Below w.heap.size w (W.putObj E (.deferred none)) := by
      refine ⟨hcg.os, hcg.tape, hcg.output, by simp; exact hcg.size, fun k hk => (World.putObj_heap_other (by omega)).trans ?_⟩
      by_cases hF : nobO (w.heap.size + 1) p k
      · exact (hfx k hF).trans (hb0.block k hk)
      · exact hcg.block k hk hF
    have HCO := Lib.hid hcO
    clear hcO hfx hb hcg hff hX hY hb0 hf0 hp2
    go_wp2
    refine ⟨by simp, .inl ⟨_, _, rfl, run_takeDeferred hK, ?_⟩⟩
    exact ⟨.tuple #[.slice none 0 0, .bool true], by simp [results, Tryd.f31, go_sem], rfl, HCO.out⟩
  case stop =>
    rintro E c pre f W _ _ h _ _
    exact h.elim

set_option maxRecDepth 100000 in
set_option maxHeartbeats 4000000 in
theorem keys_not (p : Option Addr) (a : Int) (w : World) (hp : MNo w p) :
    Calls Tryd.prog 34 #[.pointer p, .int .i64 a] w fun e w' => e = .returned (.slice none 0 0) ∧ Below w.heap.size w w' := by
  have hlt := hp.lt
  refine (callsIn_wide (n := 9)).1 ?_
  refine callsIn_of_wp_marks Tryd.func34 rfl trivial ?_ rfl
  simp only [Tryd.ntmps34, List.size_toArray, List.length_cons, List.length_nil, Nat.reduceAdd, Nat.reduceSub, Array.replicate_succ, Array.replicate_zero, List.push_toArray, List.append_toArray, List.nil_append, List.cons_append]
  refine wpIn_wide.2 ?_
  go_wp2_with (go_at_call 53; refine (mall_any _ _).mono ?_; rintro e w' ⟨rfl, rfl⟩)
  refine (wpIn_wide (n := 9)).1 ?_
  have hX := (Boxed.new (w.alloc (.cells #[.int .i64 a] 35)) 60 (.slice none 0 0)).alloc (.cells #[.pointer p] 36)
  have hY := Boxed.new ((w.alloc (.cells #[.int .i64 a] 35)).alloc (.cells #[.slice none 0 0] 60)) 36 (.pointer p)
  simp only [World.size_alloc] at hX hY
  have hb0 : Below w.heap.size w (((w.alloc (.cells #[.int .i64 a] 35)).alloc (.cells #[.slice none 0 0] 60)).alloc (.cells #[.pointer p] 36)) := (((Below.refl _ w).alloc (Nat.le_refl _) _).alloc (by simp) _).alloc (by simp; omega) _
  have hsz : (((w.alloc (.cells #[.int .i64 a] 35)).alloc (.cells #[.slice none 0 0] 60)).alloc (.cells #[.pointer p] 36)).heap.size = w.heap.size + 3 := by simp
  generalize hw2 : ((w.alloc (.cells #[.int .i64 a] 35)).alloc (.cells #[.slice none 0 0] 60)).alloc (.cells #[.pointer p] 36) = w2 at hX hY hb0 hsz ⊢
  clear hw2
  have hp2 : MNo w2 p := hp.same (fun k hk => hb0.block k (hlt k hk))
  have hf0 : ∀ k, nobO (w.heap.size + 1 + 1) p k → k < w2.heap.size ∧ k ≠ w.heap.size + 1 := fun k hk => by
    rcases hk with rfl | hk
    · omega
    · have := hlt k hk; omega
  refine range_v rfl (by omega) (gf := 63) (lb := #[.pointer (some ⟨w.heap.size + 1 + 1, 0, none⟩)]) rfl trivial (enters_of Tryd.func63 (by kernel_rfl) rfl)
    (all_none p (w.heap.size + 1 + 1) w2 hp2 hY)
    (Nat.le_refl _) (fun k hk => ⟨(hf0 k hk).1, rfl⟩) (fun _ => rfl) (fun _ _ _ _ _ _ _ _ h => h)
    (fun xs f W l o o' hl ho hc h => ⟨h.1, fun k hk => (World.putObj_heap_other (by have := (hf0 k hk).1; omega)).trans (h.2 k hk)⟩) (fun _ _ _ _ _ _ _ _ _ h => h)
    (NbI w (w.heap.size + 1) 60 (.slice none 0 0) (nobO (w.heap.size + 1 + 1) p))
    (fun _ _ _ _ => False)
    (nbI_ab (by omega) (by omega) (fun h => (hf0 _ h).2 rfl))
    (fun _ _ _ _ _ _ h _ _ => h)
    ⟨hX, Chg.of_below hb0, fun k hk => .inl hk⟩
    (fun x => { tmps := #[.pointer p, .int .i64 a, undef, .pointer (some ⟨w.heap.size, 0, none⟩), .slice none 0 0, .pointer (some ⟨w.heap.size + 1, 0, none⟩), .string ⟨x.1.toArray⟩, .int .i64 x.2, .pointer p, .func (.func 63) #[] #[.pointer (some ⟨w.heap.size + 1 + 1, 0, none⟩)], .string ⟨x.1.toArray⟩, .int .i64 x.2, undef, undef, undef, undef, undef, undef, undef, undef], defers := [] }) ?assign ?body ?done ?stop
  case assign =>
    intro l x W K hK
    simp only [encM]
    rw [put_two]
    gi_wp2
    exact hK
  case body =>
    rintro l pre x f W hf hz _ hlen _
    omega
  case done =>
    rintro E ys f W hE hf ⟨rfl, hfx⟩ ⟨hb, hcg, hff⟩ hK
    have hc := hb.cell
    have hcO : Below w.heap.size w (W.putObj E (.deferred none)) := by
      refine ⟨hcg.os, hcg.tape, hcg.output, by simp; exact hcg.size, fun k hk => (World.putObj_heap_other (by omega)).trans ?_⟩
      by_cases hF : nobO (w.heap.size + 1 + 1) p k
      · exact (hfx k hF).trans (hb0.block k hk)
      · exact hcg.block k hk hF
    have HCO := Lib.hid hcO
    clear hcO hfx hb hcg hff hX hY hb0 hf0 hp2
    go_wp2
    refine ⟨by simp, .inl ⟨_, _, rfl, run_takeDeferred hK, ?_⟩⟩
    exact ⟨_, results_tmp (t := 4) rfl _ _ _, rfl, HCO.out⟩
  case stop =>
    rintro E c pre f W _ _ h _ _
    exact h.elim
end Go.Proofs.YthlhfbchilfgcaaDoor
