/-
  A decoder that is fed piece by piece, and the row of all its keys.
-/
import Derived.Test.YteolafeeggjblaaDoorKnWaits
import Derived.Test.YteolafeeggjblaaDoorKnAwake
namespace Go.Proofs.YteolafeeggjblaaDoor
open Go.RowKit
set_option linter.unusedVariables false
set_option linter.unusedSimpArgs false

theorem feedK_cnt : ∀ (L : List UInt8) (d : KD), (feedK d L).2.length ≤ L.length * (d.B.length + L.length)
  | [], d => by simp [feedK]
  | b :: t, d => by
    unfold feedK
    have h1 := feedK_cnt t (takeK d b).1
    have h2 := takeK_len d b
    have h3 := takeK_cnt d b
    have h4 : t.length * ((takeK d b).1.B.length + t.length) ≤ t.length * (d.B.length + (t.length + 1)) := Nat.mul_le_mul_left _ (by omega)
    rw [List.length_append, List.length_cons, Nat.add_mul, Nat.one_mul]
    omega
theorem feedK_cnt300 (L : List UInt8) (h : L.length ≤ 300) (d : KD) (hd : d.B.length ≤ 300) : (feedK d L).2.length ≤ 180000 := by
  refine Nat.le_trans (feedK_cnt L d) ?_
  have := Nat.mul_le_mul h (show d.B.length + L.length ≤ 600 by omega)
  omega
theorem feedK_cnt0 (L : List UInt8) (h : L.length ≤ 300) : (feedK ⟨[], none⟩ L).2.length ≤ 90000 := by
  refine Nat.le_trans (feedK_cnt L ⟨[], none⟩) ?_
  have := Nat.mul_le_mul h (show (⟨[], none⟩ : KD).B.length + L.length ≤ 300 by simpa using h)
  omega

structure PcI (w0 wr : World) (D : Nat) (l : List UInt8) (O : Nat → Prop) (A : Option Addr) (c : Nat) (ks : List Kv) : Prop where
  dec : DAt wr D O (feedK ⟨[], none⟩ l).1
  own : ∀ j, O j → j = D ∨ w0.heap.size ≤ j
  row : wr.ownsRow w0.heap.size 40 6 (.slice A ks.length c) ks.length (ks.flatMap Kv.cells)
  nil : A = none → c = 0
  keys : ks = (feedK ⟨[], none⟩ l).2
  off : ∀ g, blk A = some g → ¬ O g
  chg : Chg (one D) w0 wr
namespace PcI
variable {w0 wr w5 w6 : World} {D c c5 c6 : Nat} {l : List UInt8} {O O5 : Nat → Prop} {A A5 A6 : Option Addr} {ks k2 : List Kv}
theorem start (D : Nat) (w0 : World) (h : DBlk w0 D [] (.pointer none)) : PcI w0 w0 D [] (one D) none 0 [] :=
  ⟨⟨rfl, fun j hj => by rw [show j = D from hj]; exact h.lt, h⟩, fun j hj => .inl hj, World.ownsRow_nil _ _ _ _, fun _ => rfl, rfl, fun g hg => (by cases hg), Chg.refl _ _⟩
theorem at5 (h : PcI w0 wr D l O A c ks) (hc : Chg O wr w5) : w5.ownsRow w0.heap.size 40 6 (.slice A ks.length c) ks.length (ks.flatMap Kv.cells) :=
  own_same h.row (fun g hg => hc.block g (h.row.lt g hg).2 (h.off g (by rw [← ownBlock_slice A ks.length c]; exact hg)))
theorem app (h : PcI w0 wr D l O A c ks) (p : List UInt8) {d5 : KD} (hk : k2 = (feedK (feedK ⟨[], none⟩ l).1 p).2) (hdd : d5 = (feedK (feedK ⟨[], none⟩ l).1 p).1) (hd : DAt w5 D O5 d5) (hO : ∀ j, O5 j → O j ∨ wr.heap.size ≤ j) (hc : Chg O wr w5)
    (ho : w6.ownsRow w0.heap.size 40 6 (.slice A6 (ks.length + k2.length) c6) (ks.length + k2.length) (ks.flatMap Kv.cells ++ k2.flatMap Kv.cells)) (hn : A6 = none → c6 = 0) (hg : w5.grownBy w6 (blk A)) (hat : blk A6 = blk A ∨ blk A6 = some w5.heap.size) :
    PcI w0 w6 D (l ++ p) O5 A6 c6 (ks ++ k2) := by
  subst hdd
  have hwz := h.chg.size
  have hA : ∀ g, blk A = some g → w0.heap.size ≤ g ∧ g < wr.heap.size := fun g hg' => h.row.lt g (by rw [ownBlock_slice]; exact hg')
  have hAO : ∀ g, blk A = some g → ¬ O5 g := fun g hg' ho5 => by
    rcases hO g ho5 with e | e
    · exact h.off g hg' e
    · have := (hA g hg').2; omega
  have hz := hc.size
  refine ⟨?_, fun j hj => ?_, ?_, hn, ?_, fun g hg' => ?_, ?_⟩
  · rw [feedK_append]
    exact hd.same (fun j hj => hg.block j (hd.2.1 j hj) (fun e => hAO j e.symm hj)) hg.size
  · rcases hO j hj with e | e
    · exact h.own j e
    · exact .inr (by omega)
  · rw [List.length_append, List.flatMap_append]; exact ho
  · rw [feedK_append, ← h.keys, hk]
  · rcases hat with e | e
    · exact hAO g (by rw [← e]; exact hg')
    · intro ho5
      rw [e] at hg'
      injection hg' with hg'
      have := hd.2.1 g ho5
      omega
  · have h1 : Chg (one D) w0 w5 := h.chg.trans hc (fun j hj => h.own j hj)
    exact h1.grown hg (fun k hk => .inr (hA k hk).1)
theorem sl (h : PcI w0 wr D l O A c ks) : Sl wr wr.heap.size A (ks.flatMap Kv.cells) := own_sl6 h.row
end PcI
/-- a slice's block, where it shows anything -/
theorem sl_blk {w : World} {B : Nat} {A : Option Addr} {L : List UInt8} (h : Sl w B A (bv L)) : ∀ g, blk (blA L A) = some g → g < B := by
  intro g hg
  unfold blA at hg
  split at hg
  · cases hg
  · next hne =>
    obtain ⟨b, off, rfl, hb, _⟩ := h.open_ (by simp [bv]; exact List.length_pos_iff.2 hne)
    have e : b = g := by simpa [blk] using hg
    omega
end Go.Proofs.YteolafeeggjblaaDoor
