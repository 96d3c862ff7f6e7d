/-
  Walks: Feed and One of a decoder that nobody made.
-/
import Derived.Test.YteolafeeggjblaaDoorKnFeed2
import Derived.Test.YteolafeeggjblaaDoorIterVa
namespace Go.Proofs.YteolafeeggjblaaDoor
open Go.RowKit Go.Shelf Go.Sort
attribute [local go_sem] Oper.semAt_some
set_option linter.unusedVariables false
set_option linter.unusedSimpArgs false

/-- the blocks that the iterator of such a decoder reads -/
def nobO (bd : Nat) (p : Option Addr) : Nat → Prop := fun k => k = bd ∨ blk p = some k
theorem DNo.same {w w' : World} {p : Option Addr} (h : DNo w p) (hs : ∀ k, blk p = some k → w'.heap[k]? = w.heap[k]?) : DNo w' p := by
  rcases h with h | ⟨D, rfl, hc⟩
  · exact .inl h
  · exact .inr ⟨D, rfl, (World.cell?_of_block (w := w) (a := ⟨D, 0, none⟩) (hs D rfl)).trans hc⟩
theorem DNo.lt {w : World} {p : Option Addr} (h : DNo w p) (k : Nat) (hk : blk p = some k) : k < w.heap.size := by
  rcases h with rfl | ⟨D, rfl, hc⟩
  · cases hk
  · have : D = k := by simpa [blk] using hk
    subst this
    exact cell_lt' hc
set_option maxRecDepth 100000 in
set_option maxHeartbeats 1000000 in
theorem taken_none (p : Option Addr) (bd bb : Nat) (w : World) (hp : DNo w p) (hbd : Boxed w bd 24 (.pointer p)) :
    SeqV Fence.wide 8 Tryd.prog 30 #[.pointer (some ⟨bd, 0, none⟩), .pointer (some ⟨bb, 0, none⟩)] encK (nobO bd p) elK (fun xs _ W => xs = [] ∧ ∀ k, nobO bd p k → W.heap[k]? = w.heap[k]?) (fun _ _ _ => False) 0 w := by
  intro l J Jx W hsz hf0 hJ hJx hY h0
  have hbdW : Boxed W bd 24 (.pointer p) := (hf0 bd (.inl rfl)).trans hbd
  have hpW : DNo W p := hp.same (fun k hk => hf0 k (.inr hk))
  have hcd := hbdW.cell
  have H0 := Lib.hid h0
  have HF0 := Lib.hid hf0
  have HP := Lib.hid hpW
  clear hJ hJx hY h0 hf0 hp hbd hbdW hpW
  refine callsIn_of_wp Tryd.func30 rfl trivial ?_ rfl
  simp only [Tryd.ntmps30, List.size_toArray, List.length_cons, List.length_nil, Nat.reduceAdd, Nat.reduceSub, Array.replicate_succ, Array.replicate_zero, List.push_toArray, List.append_toArray, List.nil_append, List.cons_append]
  gi_wp2_with (refine ⟨trivial, ?_⟩; gi_at_call 20; refine (callsIn_wide.2 (made_not HP.out)).mono ?_; rintro e w' ⟨rfl, rfl⟩)
  refine bodyPost_ret (results_none rfl _ _ _) rfl ?_
  exact ⟨⟨_, rfl⟩, .inl ⟨[], _, ⟨rfl, HF0.out⟩, H0.out⟩⟩

set_option maxRecDepth 100000 in
set_option maxHeartbeats 8000000 in
theorem feed_not (p : Option Addr) (A : Option Addr) (n c : Nat) (w : World) (hp : DNo w p) :
    Calls Tryd.prog 8 #[.pointer p, .slice A n c] w fun e w' => (∃ A' c', e = .returned (.slice A' 0 c')) ∧ Below w.heap.size w w' := by
  have hlt := hp.lt
  refine (callsIn_wide (n := 9)).1 ?_
  refine callsIn_of_wp_marks Tryd.func8 rfl trivial ?_ rfl
  simp only [Tryd.ntmps8, List.size_toArray, List.length_cons, List.length_nil, Nat.reduceAdd, Nat.reduceSub, Array.replicate_succ, Array.replicate_zero, List.push_toArray, List.append_toArray, List.nil_append, List.cons_append]
  refine wpIn_wide.2 ?_
  go_wp2_with (go_at_call 19; refine (taken_any _ _ _ _ _).mono ?_; rintro e w' ⟨rfl, rfl⟩)
  refine (wpIn_wide (n := 9)).1 ?_
  have hX := ((Boxed.new w 26 (.slice none 0 0)).alloc (.cells #[.pointer p] 24)).alloc (.cells #[.slice A n c] 22)
  have hY := (Boxed.new (w.alloc (.cells #[.slice none 0 0] 26)) 24 (.pointer p)).alloc (.cells #[.slice A n c] 22)
  simp only [World.size_alloc] at hY
  have hb0 : Below w.heap.size w (((w.alloc (.cells #[.slice none 0 0] 26)).alloc (.cells #[.pointer p] 24)).alloc (.cells #[.slice A n c] 22)) := (((Below.refl _ w).alloc (Nat.le_refl _) _).alloc (by simp) _).alloc (by simp; omega) _
  have hsz : (((w.alloc (.cells #[.slice none 0 0] 26)).alloc (.cells #[.pointer p] 24)).alloc (.cells #[.slice A n c] 22)).heap.size = w.heap.size + 3 := by simp
  generalize hw2 : ((w.alloc (.cells #[.slice none 0 0] 26)).alloc (.cells #[.pointer p] 24)).alloc (.cells #[.slice A n c] 22) = w2 at hX hY hb0 hsz ⊢
  clear hw2
  have hp2 : DNo w2 p := hp.same (fun k hk => hb0.block k (hlt k hk))
  have hf0 : ∀ k, nobO (w.heap.size + 1) p k → k < w2.heap.size ∧ k ≠ w.heap.size := fun k hk => by
    rcases hk with rfl | hk
    · omega
    · have := hlt k hk; omega
  refine range_v rfl (by omega) (gf := 30) (lb := #[.pointer (some ⟨w.heap.size + 1, 0, none⟩), .pointer (some ⟨w.heap.size + 1 + 1, 0, none⟩)]) rfl trivial (enters_of Tryd.func30 (by kernel_rfl) rfl)
    (taken_none p (w.heap.size + 1) (w.heap.size + 1 + 1) w2 hp2 hY)
    (Nat.le_refl _) (fun k hk => ⟨(hf0 k hk).1, rfl⟩) (fun _ => rfl) (fun x W l o o' _ ho hc h => elK_put x W l o o' ho hc h)
    (fun xs f W l o o' hl ho hc h => ⟨h.1, fun k hk => (World.putObj_heap_other (by have := (hf0 k hk).1; omega)).trans (h.2 k hk)⟩) (fun _ _ _ _ _ _ _ _ _ h => h)
    (FdI w (fun _ => False) (nobO (w.heap.size + 1) p))
    (fun _ _ _ _ => False)
    (fdI_ab (by omega))
    (fun _ _ _ _ _ _ h _ _ => h)
    ⟨⟨none, 0, hX, World.ownsRow_nil _ _ _ _, fun _ => rfl, fun g hg => (by cases hg), fun h => (hf0 _ h).2 rfl⟩, by simp [flK], Chg.of_below hb0, fun k hk => .inr (.inl hk)⟩
    (fun x => { tmps := #[.pointer p, .slice A n c, undef, undef, .slice none 0 0, .pointer (some ⟨w.heap.size, 0, none⟩), undef, x.2.1, .pointer p, .slice A n c, .func (.func 30) #[] #[.pointer (some ⟨w.heap.size + 1, 0, none⟩), .pointer (some ⟨w.heap.size + 1 + 1, 0, none⟩)], .int .i64 x.1, x.2.1, undef, undef, undef, undef], defers := [] }) ?assign ?body ?done ?stop
  case assign =>
    intro l x W K hK
    simp only [encK]
    rw [put_two]
    gi_wp2
    exact hK
  case body =>
    rintro l pre x f W hf hz _ hlen _
    omega
  case done =>
    rintro E ys f W hE hf ⟨rfl, hfx⟩ ⟨⟨A1, c1, hb, hr, hnl, hm, hnB⟩, hcn, hcg, hff⟩ hK
    have hc : W.cell? ⟨w.heap.size, 0, none⟩ = some (.slice A1 0 c1) := hb.cell
    have hcO : Below w.heap.size w (W.putObj E (.deferred none)) := by
      refine ⟨hcg.os, hcg.tape, hcg.output, by simp; exact hcg.size, fun k hk => (World.putObj_heap_other (by omega)).trans ?_⟩
      by_cases hF : nobO (w.heap.size + 1) p k
      · exact (hfx k hF).trans (hb0.block k hk)
      · exact hcg.block k hk (fun h => h.elim (fun h => h) hF)
    have HCO := Lib.hid hcO
    clear hcO hfx hb hr hm hcg hff hX hY hb0 hf0 hp2 hcn
    go_wp2
    refine ⟨by simp, .inl ⟨_, _, rfl, run_takeDeferred hK, ?_⟩⟩
    exact ⟨_, results_tmp (t := 4) rfl _ _ _, ⟨A1, c1, rfl⟩, HCO.out⟩
  case stop =>
    rintro E c pre f W _ _ h _ _
    exact h.elim

/-- what One's range keeps -/
def OnI (w : World) (F : Nat → Prop) (pre : List TE) (f : Nat → Prop) (W : World) : Prop :=
  Boxed W w.heap.size 26 (.slice none 0 0) ∧ Boxed W (w.heap.size + 1) 3 (.int .i64 0) ∧ Chg F w W ∧ ∀ k, f k → F k ∨ w.heap.size + 2 ≤ k
theorem onI_ab {b : Nat} {w : World} {F : Nat → Prop} (hb : w.heap.size + 1 < b) (hF : ∀ k, F k → k < w.heap.size ∨ w.heap.size + 2 ≤ k) : AbV b (OnI w F) := by
  rintro s f f' A B ⟨h1, h2, h3, h4⟩ ht hf
  have hno : ∀ k, k = w.heap.size ∨ k = w.heap.size + 1 → ¬ f k := fun k hk hfk => by
    rcases h4 k hfk with h | h
    · rcases hF k h with h | h <;> omega
    · omega
  refine ⟨ht.block _ _ h1 (hno _ (.inl rfl)) (.inl (by omega)), ht.block _ _ h2 (hno _ (.inr rfl)) (.inl hb), ⟨ht.os.trans h3.os, ht.tape.trans h3.tape, ht.output.trans h3.output, Nat.le_trans h3.size ht.size, fun k hk hn => ?_⟩, fun k hk => ?_⟩
  · have hkA : k < A.heap.size := by have := h3.size; omega
    rw [← h3.block k hk hn]
    rw [Array.getElem?_eq_getElem hkA]
    refine ht.block k _ (Array.getElem?_eq_getElem hkA) (fun e => ?_) (.inl (by omega))
    rcases h4 k e with h | h
    · exact hn h
    · omega
  · rcases hf k hk with h | h
    · exact h4 k h
    · have := h2.lt; exact .inr (by omega)
set_option maxRecDepth 100000 in
set_option maxHeartbeats 8000000 in
theorem one_not (p : Option Addr) (A : Option Addr) (n c : Nat) (w : World) (hp : DNo w p) :
    Calls Tryd.prog 13 #[.pointer p, .slice A n c] w fun e w' => e = .returned (.tuple #[.slice none 0 0, .int .i64 0]) ∧ Below w.heap.size w w' := by
  have hlt := hp.lt
  refine (callsIn_wide (n := 9)).1 ?_
  refine callsIn_of_wp_marks Tryd.func13 rfl trivial ?_ rfl
  simp only [Tryd.ntmps13, List.size_toArray, List.length_cons, List.length_nil, Nat.reduceAdd, Nat.reduceSub, Array.replicate_succ, Array.replicate_zero, List.push_toArray, List.append_toArray, List.nil_append, List.cons_append]
  refine wpIn_wide.2 ?_
  go_wp2_with (go_at_call 19; refine (taken_any _ _ _ _ _).mono ?_; rintro e w' ⟨rfl, rfl⟩)
  refine (wpIn_wide (n := 9)).1 ?_
  have hX := (((Boxed.new w 26 (.slice none 0 0)).alloc (.cells #[.int .i64 0] 3)).alloc (.cells #[.pointer p] 24)).alloc (.cells #[.slice A n c] 22)
  have hX2 := ((Boxed.new (w.alloc (.cells #[.slice none 0 0] 26)) 3 (.int .i64 0)).alloc (.cells #[.pointer p] 24)).alloc (.cells #[.slice A n c] 22)
  have hY := (Boxed.new ((w.alloc (.cells #[.slice none 0 0] 26)).alloc (.cells #[.int .i64 0] 3)) 24 (.pointer p)).alloc (.cells #[.slice A n c] 22)
  simp only [World.size_alloc] at hX2 hY
  have hb0 : Below w.heap.size w ((((w.alloc (.cells #[.slice none 0 0] 26)).alloc (.cells #[.int .i64 0] 3)).alloc (.cells #[.pointer p] 24)).alloc (.cells #[.slice A n c] 22)) := ((((Below.refl _ w).alloc (Nat.le_refl _) _).alloc (by simp) _).alloc (by simp; omega) _).alloc (by simp; omega) _
  have hsz : ((((w.alloc (.cells #[.slice none 0 0] 26)).alloc (.cells #[.int .i64 0] 3)).alloc (.cells #[.pointer p] 24)).alloc (.cells #[.slice A n c] 22)).heap.size = w.heap.size + 4 := by simp
  generalize hw2 : (((w.alloc (.cells #[.slice none 0 0] 26)).alloc (.cells #[.int .i64 0] 3)).alloc (.cells #[.pointer p] 24)).alloc (.cells #[.slice A n c] 22) = w2 at hX hX2 hY hb0 hsz ⊢
  clear hw2
  have hp2 : DNo w2 p := hp.same (fun k hk => hb0.block k (hlt k hk))
  have hf0 : ∀ k, nobO (w.heap.size + 1 + 1) p k → k < w2.heap.size ∧ (k < w.heap.size ∨ w.heap.size + 2 ≤ k) := fun k hk => by
    rcases hk with rfl | hk
    · omega
    · have := hlt k hk; omega
  refine range_va rfl (by omega) (gf := 30) (lb := #[.pointer (some ⟨w.heap.size + 1 + 1, 0, none⟩), .pointer (some ⟨w.heap.size + 1 + 1 + 1, 0, none⟩)]) rfl trivial (enters_of Tryd.func30 (by kernel_rfl) rfl)
    (taken_none p (w.heap.size + 1 + 1) (w.heap.size + 1 + 1 + 1) w2 hp2 hY)
    (Nat.le_refl _) (fun k hk => ⟨(hf0 k hk).1, rfl⟩) (fun _ => rfl) (fun x W l o o' _ ho hc h => elK_put x W l o o' ho hc h)
    (fun xs f W l o o' hl ho hc h => ⟨h.1, fun k hk => (World.putObj_heap_other (by have := (hf0 k hk).1; omega)).trans (h.2 k hk)⟩) (fun _ _ _ _ _ _ _ _ _ h => h)
    (OnI w (nobO (w.heap.size + 1 + 1) p))
    (fun _ _ _ _ => False)
    (onI_ab (by omega) (fun k hk => (hf0 k hk).2))
    (fun _ _ _ _ _ _ h _ _ => h)
    ⟨hX, hX2, Chg.of_below hb0, fun k hk => .inl hk⟩
    (fun x => { tmps := #[.pointer p, .slice A n c, undef, undef, .pointer (some ⟨w.heap.size, 0, none⟩), .pointer (some ⟨w.heap.size + 1, 0, none⟩), .pointer p, .slice A n c, .func (.func 30) #[] #[.pointer (some ⟨w.heap.size + 1 + 1, 0, none⟩), .pointer (some ⟨w.heap.size + 1 + 1 + 1, 0, none⟩)], .int .i64 x.1, x.2.1, undef, undef, undef, undef, undef], defers := [] }) (fun _ _ _ _ => False) (fun _ _ _ _ _ _ h _ _ => h) ?assign ?body ?done ?stop
  case assign =>
    intro l pre x f W _ _ _ hlen
    omega
  case body =>
    rintro l pre x f W hf hz _ hlen
    omega
  case done =>
    rintro E ys f W hE hf ⟨rfl, hfx⟩ ⟨hb1, hb2, hcg, hff⟩ hK
    have hc1 := hb1.cell
    have hc2 := hb2.cell
    have hf1 := hb1.frozen
    have hf2 := hb2.frozen
    have hcO : Below w.heap.size w W := by
      refine ⟨hcg.os, hcg.tape, hcg.output, hcg.size, fun k hk => ?_⟩
      by_cases hF : nobO (w.heap.size + 1 + 1) p k
      · exact (hfx k hF).trans (hb0.block k hk)
      · exact hcg.block k hk hF
    have HCO := Lib.hid hcO
    have HB1 := Lib.hid hb1
    have HB2 := Lib.hid hb2
    have HK := Lib.hid hK
    have he1 : w.heap.size + 1 ≠ E := fun e => by subst e; have : W.heap[w.heap.size + 1]? = _ := hb2; rw [hK] at this; cases this
    have he0 : w.heap.size ≠ E := fun e => by subst e; have : W.heap[w.heap.size]? = _ := hb1; rw [hK] at this; cases this
    have hle : w.heap.size ≤ E := by omega
    have HE1 := Lib.hid he1
    have HE0 := Lib.hid he0
    have HLE := Lib.hid hle
    clear he1 he0 hle
    clear hcO hfx hcg hff hX hX2 hY hb0 hf0 hp2 hb1 hb2 hsz hE hf
    go_wp2
    go_region
    have hb3 : Boxed ((W.setCell ⟨w.heap.size, 0, none⟩ (.slice none 0 0)).setCell ⟨w.heap.size + 1, 0, none⟩ (.int .i64 0)).drew w.heap.size 26 (.slice none 0 0) := (Below.heap_setCell _ _ _ _ (by show w.heap.size ≠ w.heap.size + 1; omega)).trans (HB1.out.set _)
    have hb4 : Boxed ((W.setCell ⟨w.heap.size, 0, none⟩ (.slice none 0 0)).setCell ⟨w.heap.size + 1, 0, none⟩ (.int .i64 0)).drew (w.heap.size + 1) 3 (.int .i64 0) := Boxed.set (W := W.setCell ⟨w.heap.size, 0, none⟩ (.slice none 0 0)) _ ((Below.heap_setCell _ _ _ _ (by show w.heap.size + 1 ≠ w.heap.size; omega)).trans HB2.out)
    have hk3 : ((W.setCell ⟨w.heap.size, 0, none⟩ (.slice none 0 0)).setCell ⟨w.heap.size + 1, 0, none⟩ (.int .i64 0)).drew.heap[E]? = some (.deferred (some [])) := (Below.heap_setCell _ _ _ _ (fun e => HE1.out e.symm)).trans ((Below.heap_setCell _ _ _ _ (fun e => HE0.out e.symm)).trans HK.out)
    have hbel : Below w.heap.size w ((W.setCell ⟨w.heap.size, 0, none⟩ (.slice none 0 0)).setCell ⟨w.heap.size + 1, 0, none⟩ (.int .i64 0)).drew := ((HCO.out.setCell (p := ⟨w.heap.size, 0, none⟩) (Nat.le_refl _) _).setCell (p := ⟨w.heap.size + 1, 0, none⟩) (by show w.heap.size ≤ w.heap.size + 1; omega) _).drew
    generalize ((W.setCell ⟨w.heap.size, 0, none⟩ (.slice none 0 0)).setCell ⟨w.heap.size + 1, 0, none⟩ (.int .i64 0)).drew = W3 at hb3 hb4 hk3 hbel ⊢
    have c3 : (W3.putObj E (.deferred none)).cell? ⟨w.heap.size, 0, none⟩ = some (.slice none 0 0) := (World.cell?_of_block (w := W3) (a := ⟨w.heap.size, 0, none⟩) (World.putObj_heap_other (fun e => HE0.out e))).trans hb3.cell
    have c4 : (W3.putObj E (.deferred none)).cell? ⟨w.heap.size + 1, 0, none⟩ = some (.int .i64 0) := (World.cell?_of_block (w := W3) (a := ⟨w.heap.size + 1, 0, none⟩) (World.putObj_heap_other (fun e => HE1.out e))).trans hb4.cell
    have hfin : Below w.heap.size w (W3.putObj E (.deferred none)) := ⟨hbel.os, hbel.tape, hbel.output, by simp; exact hbel.size, fun k hk => (World.putObj_heap_other (by have := HLE.out; omega)).trans (hbel.block k hk)⟩
    have HFIN := Lib.hid hfin
    clear hc1 hc2 hf1 hf2 hb3 hb4 hbel hfin hK
    go_wp2
    refine ⟨by simp, .inl ⟨_, _, rfl, run_takeDeferred hk3, ?_⟩⟩
    refine ⟨.tuple #[.slice none 0 0, .int .i64 0], ?_, rfl, HFIN.out⟩
    simp [results, Tryd.f13, go_sem, c3, c4]
  case stop =>
    rintro E c pre f W _ _ h _ _
    exact h.elim
end Go.Proofs.YteolafeeggjblaaDoor
