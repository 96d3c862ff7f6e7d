/-
  The state of take's loop: the decoder, the row of keys, what may have turned.
-/
import Derived.Test.YteolafeeggjblaaDoorKnTakeP
namespace Go.Proofs.YteolafeeggjblaaDoor
open Go.RowKit Go.Sort
set_option linter.unusedVariables false
set_option linter.unusedSimpArgs false

theorem key_dec : 45 ≠ 40 := by decide
theorem key_pasted : 65 ≠ 40 := by decide
theorem own_same {w w' : World} {base n size : Nat} {e : TypeId} {v : Value} {xs : List Value} (h : w.ownsRow base e size v n xs) (hs : ∀ g, v.ownBlock = some g → w'.heap[g]? = w.heap[g]?) : w'.ownsRow base e size v n xs := by
  obtain ⟨hl, ⟨hv, hn⟩ | ⟨g, cap, cur, hv, h1, h2, h3⟩⟩ := h
  · exact ⟨hl, .inl ⟨hv, hn⟩⟩
  · exact ⟨hl, .inr ⟨g, cap, cur, hv, h1, by rw [hs g (by subst hv; rfl)]; exact h2, h3⟩⟩
theorem own_ne {w : World} {base n size g : Nat} {e t : TypeId} {v : Value} {xs cs : List Value} (h : Blk w g t cs) (ho : w.ownsRow base e size v n xs) (hne : t ≠ e) : v.ownBlock ≠ some g := by
  intro he
  obtain ⟨hl, ⟨hv, hn⟩ | ⟨g', cap, cur, hv, h1, h2, h3⟩⟩ := ho
  · subst hv; cases he
  · subst hv
    have : g' = g := by simpa [Value.ownBlock] using he
    subst this
    unfold Blk at h
    rw [h] at h2
    injection h2 with h2
    injection h2 with _ he
    exact hne he
theorem own_sl6 {w : World} {base n c : Nat} {A : Option Addr} {e : TypeId} {xs : List Value} (h : w.ownsRow base e 6 (.slice A n c) n xs) : Sl w w.heap.size A xs := by
  rcases h with ⟨hl, ⟨hv, rfl⟩ | ⟨g, cap, cur, hv, hb, hh, hn, hc, hcur, ht⟩⟩
  · exact .inl (List.eq_nil_of_length_eq_zero (by simpa using hl))
  · injection hv with hA _ _
    subst hA
    refine .inr ⟨g, 0, rfl, ?_, fun j u hu => ?_⟩
    · rcases Nat.lt_or_ge g w.heap.size with hlt | hge
      · exact hlt
      · rw [Array.getElem?_eq_none hge] at hh; cases hh
    · rw [← ht, List.getElem?_take] at hu
      split at hu
      · simp [World.cell?, hh]
        simpa using hu
      · cases hu

/-- the decoder's paste, as the loop has it -/
def Pq (w wr : World) (q : Value) : Option (List UInt8 × Nat) → Prop
  | none => q = .pointer none
  | some r => r = ([], 0) ∧ ∃ Pb, w.heap.size ≤ Pb ∧ q = .pointer (some ⟨Pb, 0, none⟩) ∧ PBlk wr Pb none 0 0 0
structure TkSt (w wr : World) (D : Nat) (O : Nat → Prop) (s : List UInt8) (P : Option (List UInt8 × Nat)) (q : Value) (A : Option Addr) (c : Nat) (ks : List Kv) : Prop where
  row : wr.ownsRow w.heap.size 40 6 (.slice A ks.length c) ks.length (ks.flatMap Kv.cells)
  nil : A = none → c = 0
  dec : DBlk wr D s q
  pq : Pq w wr q P
  chg : Chg O w wr
namespace TkSt
variable {w wr wr' : World} {D c c' g : Nat} {O : Nat → Prop} {s s' : List UInt8} {P : Option (List UInt8 × Nat)} {q : Value} {A A' : Option Addr} {ks : List Kv}
theorem sl (h : TkSt w wr D O s P q A c ks) : Sl wr wr.heap.size A (ks.flatMap Kv.cells) := own_sl6 h.row
theorem blk_lt (h : TkSt w wr D O s P q A c ks) (j : Nat) (hj : blk A = some j) : w.heap.size ≤ j ∧ j < wr.heap.size := h.row.lt j (by rw [ownBlock_slice]; exact hj)
/-- what turns no block of these -/
theorem other (h : TkSt w wr D O s P q A c ks) {S : Nat → Prop} (hc : Chg S wr wr') (hA : ∀ j, blk A = some j → ¬ S j) (hD : ¬ S D) (hP : ∀ j t cs, Blk wr j t cs → t = 65 → ¬ S j) (hO : ∀ j, S j → O j ∨ w.heap.size ≤ j) : TkSt w wr' D O s P q A c ks := by
  refine ⟨own_same h.row (fun j hj => hc.block j (h.row.lt j hj).2 (hA j (by rw [← ownBlock_slice]; exact hj))), h.nil, h.dec.chg hc hD, ?_, h.chg.trans hc hO⟩
  have hpq := h.pq
  cases P with
  | none => exact hpq
  | some r => exact ⟨hpq.1, hpq.2.elim fun Pb hp => ⟨Pb, hp.1, hp.2.1, hp.2.2.chg hc (hP Pb _ _ hp.2.2 rfl)⟩⟩
theorem below (h : TkSt w wr D O s P q A c ks) (hb : Below wr.heap.size wr wr') : TkSt w wr' D O s P q A c ks :=
  h.other (S := noB) (Chg.of_below hb) (fun _ _ h => h) (fun h => h) (fun _ _ _ _ _ h => h) (fun _ h => h.elim)
/-- a store into a key -/
theorem key (h : TkSt w wr D O s P q A c ks) {cs : List Value} (hg : Blk wr g 40 cs) (hne : blk A ≠ some g) (hw : w.heap.size ≤ g) (hc : Chg (one g) wr wr') : TkSt w wr' D O s P q A c ks :=
  h.other hc (fun j hj e => hne (by rw [hj]; exact congrArg some e)) (fun e => h.dec.ne_ hg key_dec e) (fun j t cs hb ht e => by subst ht; exact hb.ne_ hg key_pasted e) (fun j e => .inr (by rw [show j = g from e]; exact hw))
/-- bytes are taken away -/
theorem remove (h : TkSt w wr D O s P q A c ks) (hO : O D) (hd : DBlk wr' D s' q) (hc : Chg (one D) wr wr') : TkSt w wr' D O s' P q A c ks := by
  refine ⟨own_same h.row (fun j hj => hc.block j (h.row.lt j hj).2 (fun e => own_ne h.dec h.row key_dec (by rw [hj]; exact congrArg some e))), h.nil, hd, ?_, h.chg.trans hc (fun j e => .inl (by rw [show j = D from e]; exact hO))⟩
  have hpq := h.pq
  cases P with
  | none => exact hpq
  | some r => exact ⟨hpq.1, hpq.2.elim fun Pb hp => ⟨Pb, hp.1, hp.2.1, hp.2.2.chg hc (fun e => h.dec.ne_ hp.2.2 dec_pasted e.symm)⟩⟩
/-- a paste begins -/
theorem paste (h : TkSt w wr D O s P q A c ks) (hO : O D) :
    TkSt w ((wr.alloc (.cells #[.slice none 0 0, .int .i64 0] 65)).setCell ⟨D, 2, none⟩ (.pointer (some ⟨wr.heap.size, 0, none⟩))) D O s (some ([], 0)) (.pointer (some ⟨wr.heap.size, 0, none⟩)) A c ks := by
  have h1 := h.below (wr' := wr.alloc (.cells #[.slice none 0 0, .int .i64 0] 65)) (kbel _ _)
  have hc : Chg (one D) (wr.alloc (.cells #[.slice none 0 0, .int .i64 0] 65)) ((wr.alloc (.cells #[.slice none 0 0, .int .i64 0] 65)).setCell ⟨D, 2, none⟩ (.pointer (some ⟨wr.heap.size, 0, none⟩))) := Chg.setCell (S := one D) (Chg.refl _ _) (p := ⟨D, 2, none⟩) (.inl rfl) _
  refine ⟨own_same h1.row (fun j hj => hc.block j (h1.row.lt j hj).2 (fun e => own_ne h1.dec h1.row key_dec (by rw [hj]; exact congrArg some e))), h.nil, h1.dec.set_ 2 _, ⟨rfl, wr.heap.size, h.chg.size, rfl, ?_⟩, h1.chg.trans hc (fun j e => .inl (by rw [show j = D from e]; exact hO))⟩
  have hb : PBlk (wr.alloc (.cells #[.slice none 0 0, .int .i64 0] 65)) wr.heap.size none 0 0 0 := Blk.new wr _ _
  exact hb.chg hc (fun e => h1.dec.ne_ hb dec_pasted (by rw [show wr.heap.size = D from e]))
/-- a key is appended -/
theorem app (h : TkSt w wr D O s P q A c ks) {K : Kv} {o : Obj} (hr : wr'.ownsRow w.heap.size 40 6 (.slice A' (ks.length + 1) c') (ks.length + 1) (ks.flatMap Kv.cells ++ K.cells)) (hn : A' = none → c' = 0) (hg : (wr.alloc o).grownBy wr' (blk A)) :
    TkSt w wr' D O s P q A' c' (ks ++ [K]) := by
  have h1 := h.below (wr' := wr.alloc o) (kbel _ _)
  have hc : Chg (fun j => blk A = some j) (wr.alloc o) wr' := (Chg.refl _ _).grown hg (fun k hk => .inl hk)
  have hD : ¬ blk A = some D := by rw [← ownBlock_slice A ks.length c]; exact own_ne h1.dec h1.row key_dec
  refine ⟨by simpa using hr, hn, h1.dec.chg hc hD, ?_, h1.chg.trans hc (fun j e => .inr (h.blk_lt j e).1)⟩
  have hpq := h1.pq
  cases P with
  | none => exact hpq
  | some r => exact ⟨hpq.1, hpq.2.elim fun Pb hp => ⟨Pb, hp.1, hp.2.1, hp.2.2.chg hc (by rw [← ownBlock_slice A ks.length c]; exact own_ne hp.2.2 h1.row key_pasted)⟩⟩
end TkSt
theorem TkSt.at_ {w wr : World} {D c : Nat} {O : Nat → Prop} {s : List UInt8} {P : Option (List UInt8 × Nat)} {q : Value} {A : Option Addr} {ks : List Kv} (h : TkSt w wr D O s P q A c ks) (hO : O D) (hlt : ∀ j, O j → j < w.heap.size) : DAt wr D (grownO O w wr) ⟨s, P⟩ := by
  refine ⟨.inl hO, fun j hj => ?_, ?_⟩
  · have := h.chg.size
    rcases hj with hj | hj
    · have := hlt j hj; omega
    · exact hj.2
  · have hpq := h.pq
    cases P with
    | none => exact hpq ▸ h.dec
    | some r =>
      obtain ⟨rfl, Pb, hw, rfl, hp⟩ := hpq
      exact ⟨Pb, none, 0, 0, h.dec, hp, OB.none_ _ _, by omega, by simp, by simp, .inr ⟨hw, hp.lt⟩, fun j hj => by cases hj⟩

/-- what stands first is no longer than all -/
theorem plainK_le (s : List UInt8) (hs : s ≠ []) : (plainK s).2 ≤ s.length := by
  cases s with
  | nil => exact absurd rfl hs
  | cons c t =>
    by_cases hd : c < 32 ∨ c = 127
    · rw [plain_ctl hd]; simp
    · cases hm : (nx (c :: t)).2.2 with
      | true => rw [plain_more hd hm]; simp
      | false =>
        rw [plain_text hd hm]
        have := nx_len (l := c :: t) (by simp) hm
        dsimp only
        omega
theorem firstK_le (s : List UInt8) : (firstK s).2 ≤ s.length := by
  unfold firstK
  cases s with
  | nil => simp
  | cons c t =>
    simp only
    split
    · exact plainK_le _ (by simp)
    · cases t with
      | nil => simp
      | cons d u =>
        simp only
        split
        · simp
        · split
          · unfold brK
            cases hx : (c :: d :: u)[midK (c :: d :: u)]? with
            | none =>
              simp only
              split
              · simp
              · have := beh_le (c :: d :: u) 2 (by simp) kPar
                exact (beh_le (c :: d :: u) _ this.2 kMid).2
            | some x =>
              have hlt := (List.getElem?_eq_some_iff.1 hx).1
              simp only
              split <;> dsimp only <;> omega
          · split
            · unfold leK
              cases hx : (c :: d :: u)[2]? with
              | none => simp
              | some x =>
                have hlt := (List.getElem?_eq_some_iff.1 hx).1
                simp only
                split <;> dsimp only <;> omega
            · have := plainK_le (d :: u) (by simp)
              split
              · simp
              · dsimp only
                simp only [List.length_cons] at this ⊢
                omega
end Go.Proofs.YteolafeeggjblaaDoor
