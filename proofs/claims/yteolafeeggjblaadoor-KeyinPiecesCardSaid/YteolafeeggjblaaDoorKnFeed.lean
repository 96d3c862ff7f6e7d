/-
  Walks: Feed.
-/
import Derived.Test.YteolafeeggjblaaDoorKnTaken
import Derived.Lib.BufStepsIn
namespace Go.Proofs.YteolafeeggjblaaDoor
open Go.RowKit Go.Shelf Go.Sort
attribute [local go_sem] Oper.semAt_some
set_option linter.unusedVariables false
set_option linter.unusedSimpArgs false

/-- a row of keys of the call's own -/
def KRowN (base : Nat) (w : World) (v : Value) (ks : List Kv) : Prop := ∃ A n c, v = .slice A n c ∧ n = ks.length ∧ Sl w w.heap.size A (ks.flatMap Kv.cells) ∧ (A = none → c = 0) ∧ ∀ g, blk A = some g → base ≤ g ∧ g < w.heap.size
theorem KRowN.row {base : Nat} {w : World} {v : Value} {ks : List Kv} (h : KRowN base w v ks) : KRow w v ks := by
  obtain ⟨A, n, c, h1, h2, h3, h4, _⟩ := h
  exact ⟨A, n, c, h1, h2, h3, h4⟩
/-- A box that holds a row of keys, which is not the iterator's. -/
def HoldK (B base : Nat) (ks : List Kv) (f : Nat → Prop) (W : World) : Prop :=
  ∃ A c, Boxed W B 26 (.slice A ks.length c) ∧ W.ownsRow base 40 6 (.slice A ks.length c) ks.length (ks.flatMap Kv.cells) ∧ (A = none → c = 0) ∧ (∀ g, blk A = some g → ¬ f g) ∧ ¬ f B
theorem keys_key : 26 ≠ 40 := by decide
theorem HoldK.turn {b B base : Nat} {ks : List Kv} {f f' : Nat → Prop} {X Y : World} (hB : B < b) (h : HoldK B base ks f X) (ht : TurnV b f X Y) (hf : ∀ k, f' k → f k ∨ (X.heap.size ≤ k ∧ k < Y.heap.size)) : HoldK B base ks f' Y := by
  obtain ⟨A, c, hb, hr, hn, hm, hnB⟩ := h
  have hlt := fun g hg => (hr.lt g hg).2
  refine ⟨A, c, ht.block _ _ hb hnB (.inl hB), ?_, hn, fun g hg hf' => ?_, fun hf' => ?_⟩
  · obtain ⟨hl, hv⟩ := hr
    refine ⟨hl, ?_⟩
    rcases hv with hv | ⟨g, cap, cur, hv, h1, h2, h3⟩
    · exact .inl hv
    · refine .inr ⟨g, cap, cur, hv, h1, ?_, h3⟩
      injection hv with hA
      subst hA
      exact ht.block _ _ h2 (hm g rfl) (.inr rfl)
  · rcases hf g hf' with h1 | h1
    · exact hm g hg h1
    · have := hlt g (by rw [ownBlock_slice]; exact hg); omega
  · rcases hf B hf' with h1 | h1
    · exact hnB h1
    · have := hb.lt; omega
theorem holdK_app {B base lo : Nat} {f : Nat → Prop} {W w1 : World} {A A' : Option Addr} {c c' : Nat} {ks k2 : List Kv} (hfs : ∀ k, f k → k < W.heap.size) (hb : Boxed W B 26 (.slice A ks.length c))
    (hr : W.ownsRow base 40 6 (.slice A ks.length c) ks.length (ks.flatMap Kv.cells)) (hm : ∀ g, blk A = some g → ¬ f g) (hB : ¬ f B)
    (hO : w1.ownsRow base 40 6 (.slice A' (ks.length + k2.length) c') (ks.length + k2.length) (ks.flatMap Kv.cells ++ k2.flatMap Kv.cells)) (hn' : A' = none → c' = 0) (hg : W.grownBy w1 (blk A)) (hat : blk A' = blk A ∨ blk A' = some W.heap.size) :
    HoldK B base (ks ++ k2) f (w1.setCell ⟨B, 0, none⟩ (.slice A' (ks.length + k2.length) c')) ∧ Rk lo f W (w1.setCell ⟨B, 0, none⟩ (.slice A' (ks.length + k2.length) c')) ∧ Boxed w1 B 26 (.slice A ks.length c) ∧ Chg (fun j => blk A = some j ∨ j = B) W (w1.setCell ⟨B, 0, none⟩ (.slice A' (ks.length + k2.length) c')) := by
  have hne : some B ≠ blk A := by have := hb.not_row keys_key hr; rwa [ownBlock_slice] at this
  have hb1 : Boxed w1 B 26 (.slice A ks.length c) := hb.kept hg hne
  have hne' : blk A' ≠ some B := by have := hb1.not_row keys_key hO; rw [ownBlock_slice] at this; exact fun e => this e.symm
  have hcells : ∀ j o, blk A = some j → W.heap[j]? = some o → o.isCells = true := by
    intro j o hj ho
    obtain ⟨hl, ⟨hv, hn⟩ | ⟨g, cap, cur, hv, h1, h2, h3⟩⟩ := hr
    · injection hv with hA; subst hA; cases hj
    · injection hv with hA; subst hA
      have : g = j := by simpa [blk] using hj
      subst this
      rw [h2] at ho; cases ho; rfl
  refine ⟨⟨A', c', ?_, ?_, hn', fun g hg' hf => ?_, hB⟩, ?_, hb1, ?_⟩
  · rw [List.length_append]; exact hb1.set _
  · rw [List.length_append, List.flatMap_append]
    exact own_same hO (fun g hg' => Below.heap_setCell _ _ _ _ (fun e => hne' (by rw [ownBlock_slice] at hg'; rw [hg']; exact congrArg some e)))
  · rcases hat with h1 | h1
    · exact hm g (by rw [← h1]; exact hg') hf
    · rw [h1] at hg'; injection hg' with hg'; have := hfs g hf; omega
  · exact ((Rk.refl lo f W).grown hg hfs (fun k hk => ⟨hm k hk, fun o ho => hcells k o hk ho⟩)).setCell hB _
  · exact ((Chg.refl _ W).grown hg (fun k hk => .inl (.inl hk))).setCell (p := ⟨B, 0, none⟩) (.inl (.inr rfl)) _
theorem DAt.put {W : World} {D l : Nat} {O : Nat → Prop} {d : KD} {o : Obj} (o' : Obj) (h : DAt W D O d) (ho : W.heap[l]? = some o) (hc : o.isCells = false) : DAt (W.putObj l o') D (fun j => O j ∧ j ≠ l) d := by
  obtain ⟨hD, hlt, h⟩ := h
  have hne : ∀ j t cs, Blk W j t cs → j ≠ l := fun j t cs hb e => by subst e; unfold Blk at hb; rw [ho] at hb; cases hb; cases hc
  have hk : ∀ j, j ≠ l → (W.putObj l o').heap[j]? = W.heap[j]? := fun j hj => World.putObj_heap_other hj
  have hz : ∀ j, (O j ∧ j ≠ l) → j < (W.putObj l o').heap.size := fun j hj => by simp; exact hlt j hj.1
  cases hp : d.P with
  | none =>
    rw [hp] at h
    have hb : DBlk W D d.B (.pointer none) := h
    refine ⟨⟨hD, hne _ _ _ hb⟩, hz, ?_⟩
    rw [hp]
    exact (hk D (hne _ _ _ hb)).trans hb
  | some q =>
    obtain ⟨p, m⟩ := q
    rw [hp] at h
    obtain ⟨P, A, n, c, h1, h2, h3, h4, h5, h6, h7, h8⟩ := h
    refine ⟨⟨hD, hne _ _ _ h1⟩, hz, ?_⟩
    rw [hp]
    have hA : ∀ j, blk A = some j → j ≠ l := by
      intro j hj e
      subst e
      obtain ⟨hl, ⟨hv, hn⟩ | ⟨g, cap, cur, hv, g1, g2, g3⟩⟩ := h3.1
      · injection hv with hA; subst hA; cases hj
      · injection hv with hA; subst hA
        have : g = j := by simpa [blk] using hj
        subst this
        rw [ho] at g2; cases g2; cases hc
    exact ⟨P, A, n, c, (hk D (hne _ _ _ h1)).trans h1, (hk P (hne _ _ _ h2)).trans h2, ob_same h3 (fun g hg => hk g (hA g hg)), h4, h5, h6, ⟨h7, hne _ _ _ h2⟩, fun j hj => ⟨h8 j hj, hA j hj⟩⟩
theorem TkS.put {D l : Nat} {d : KD} {L : List UInt8} {w0 W : World} {F f : Nat → Prop} {xs : List TE} {o : Obj} (o' : Obj) (hF : ∀ k, F k → k < w0.heap.size) (hl : w0.heap.size ≤ l) (ho : W.heap[l]? = some o) (hc : o.isCells = false) (h : TkS D d L w0 F xs f W) : TkS D d L w0 F xs f (W.putObj l o') := by
  obtain ⟨h1, h2, ⟨O', h3, h4⟩, h5⟩ := h
  exact ⟨h1, h2, ⟨_, h3.put o' ho hc, fun j hj => h4 j hj.1⟩, fun k hk => (World.putObj_heap_other (by have := hF k hk; omega)).trans (h5 k hk)⟩

/-- all keys so far -/
def flK (xs : List TE) : List Kv := xs.flatMap (·.2.2)
theorem flK_snoc (xs : List TE) (x : TE) : flK (xs ++ [x]) = flK xs ++ x.2.2 := by simp [flK]
theorem TkE.keys {D : Nat} {d : KD} {L : List UInt8} {w0 W : World} {F f : Nat → Prop} {xs : List TE} (h : TkE D d L w0 F xs f W) : flK xs = (feedK d L).2 ∧ (L.take xs.length) = L := by
  obtain ⟨⟨h1, h2, _⟩, h3⟩ := h
  refine ⟨?_, by rw [h3]; exact List.take_length⟩
  have e : flK xs = (xs.map prK).flatMap (·.2) := by unfold flK; rw [List.flatMap_map]; rfl
  rw [e, h1, List.take_of_length_le (by rw [tkL_len, h3]; exact Nat.le_refl _), tkL_keys]
/-- what Feed's rounds keep -/
def FdI (w : World) (O F : Nat → Prop) (pre : List TE) (f : Nat → Prop) (W : World) : Prop :=
  HoldK w.heap.size w.heap.size (flK pre) f W ∧ (flK pre).length ≤ pre.length * 90001 ∧ Chg (fun j => O j ∨ F j) w W ∧ ∀ k, f k → O k ∨ F k ∨ w.heap.size ≤ k
theorem fdI_ab {b : Nat} {w : World} {O F : Nat → Prop} (hb : w.heap.size < b) : AbV b (FdI w O F) := by
  rintro s f f' A B ⟨h1, h2, h3, h4⟩ ht hf
  refine ⟨h1.turn hb ht hf, h2, ⟨ht.os.trans h3.os, ht.tape.trans h3.tape, ht.output.trans h3.output, Nat.le_trans h3.size ht.size, fun k hk hn => ?_⟩, fun k hk => ?_⟩
  · have hkA : k < A.heap.size := by have := h3.size; omega
    rw [← h3.block k hk hn]
    rw [Array.getElem?_eq_getElem hkA]
    refine ht.block k _ (Array.getElem?_eq_getElem hkA) (fun e => ?_) (.inl (by omega))
    rcases h4 k e with h | h | h
    · exact hn (.inl h)
    · exact hn (.inr h)
    · omega
  · rcases hf k hk with h | h
    · exact h4 k h
    · have := h3.size; exact .inr (.inr (by omega))
end Go.Proofs.YteolafeeggjblaaDoor
