/-
  Rows of the call's own that are written in place; appending one cell. What the document's layout walks on.
-/
import Derived.Test.YtdodogehlnchlaaLyHolds
namespace Go.Proofs.Ytdodogehlnchlaa
open Go.RowKit Go.Shelf Go.Sort
set_option linter.unusedVariables false
set_option linter.unusedSimpArgs false

theorem OR.setAt {w : World} {base n c g j : Nat} {e : TypeId} {xs : List Value} (h : OR w base e (some ⟨g, 0, none⟩) n c xs) (hj : j < n) (v : Value) : OR (w.setCell ⟨g, j, none⟩ v) base e (some ⟨g, 0, none⟩) n c (xs.set j v) := by
  obtain ⟨⟨hl, hv⟩, hn⟩ := h
  rcases hv with ⟨hv, _⟩ | ⟨q, cap, cur, hv, h1, h2, h3, h4, h5, h6⟩
  · cases hv
  · injection hv with hA _ hc
    injection hA with hA
    injection hA with hA
    subst hA hc
    refine ⟨⟨by simpa using hl, .inr ⟨g, c, cur.setIfInBounds j v, rfl, h1, ?_, h3, h4, by simpa using h5, ?_⟩⟩, hn⟩
    · obtain ⟨hlt, hk⟩ := Array.getElem?_eq_some_iff.1 h2
      show (w.heap.modify g _)[g]? = _
      rw [Array.getElem?_eq_getElem (by rw [Array.size_modify]; exact hlt), Array.getElem_modify_self, hk]
      simp
    · rw [← h6]
      simp [Array.toList_setIfInBounds, List.take_set]
theorem OR.cell {w : World} {base n c : Nat} {e : TypeId} {A : Option Addr} {xs : List Value} (h : OR w base e A n c xs) {j : Nat} {u : Value} (hu : xs[j]? = some u) : ∃ g, A = some ⟨g, 0, none⟩ ∧ base ≤ g ∧ w.cell? ⟨g, j, none⟩ = some u ∧ w.frozen? ⟨g, j, none⟩ = false := by
  have hj : j < xs.length := (List.getElem?_eq_some_iff.1 hu).1
  obtain ⟨⟨hl, hv⟩, hn⟩ := h
  rcases hv with ⟨hv, h0⟩ | ⟨q, cap, cur, hv, h1, h2, h3, h4, h5, h6⟩
  · omega
  · injection hv with hA _ hc
    subst hA
    refine ⟨q, rfl, h1, ?_, by simp [World.frozen?, h2]⟩
    rw [← h6, List.getElem?_take] at hu
    split at hu
    · simp [World.cell?, h2]
      simpa using hu
    · cases hu
theorem OR.weaken {w : World} {base base' n c : Nat} {e : TypeId} {A : Option Addr} {xs : List Value} (h : OR w base e A n c xs) (hb : base' ≤ base) : OR w base' e A n c xs := by
  refine ⟨⟨h.1.1, ?_⟩, h.2⟩
  rcases h.1.2 with e | ⟨g, cap, cur, hv, h1, h2⟩
  · exact .inl e
  · exact .inr ⟨g, cap, cur, hv, Nat.le_trans hb h1, h2⟩
theorem OR.on {w w' : World} {base n c : Nat} {e : TypeId} {A : Option Addr} {xs : List Value} (h : OR w base e A n c xs) (hb : Below w.heap.size w w') : OR w' base e A n c xs := h.below hb (fun g hg => (h.blk_lt g hg).2)
theorem lyList_run {ops : Array Oper} {rest : List Oper} {o : Oper} {a : Act} {w : World} {Q : Exit → Act → World → Prop} (T U : TypeId) (hgd : o.guard = none) (s x : Operand)
    (ho : o.op = .call { callee := .builtin .append, args := #[s, x], argTypes := #[T, U] }) (vs vx v' : Value) (w' : World) (hs : a.eval s = vs) (hx : a.eval x = vx)
    (hrun : (Builtin.append_ #[T, U] o.type #[vs, vx]).run Try.prog w = .ok v' w') (h : wpList Try.prog ops Q rest (a.put o.dst v') w') : wpList Try.prog ops Q (o :: rest) a w := by
  refine wpList_plain hgd fun K hK => ?_
  unfold Oper.wp execOp
  simp only [ho, resolve, invoke, builtin, Sem.run_bind, Sem.run_pure, Result.andThen_ok, List.map_toArray, List.map_cons, List.map_nil, hs, hx, hrun]
  exact hK _ _ h

theorem rw1_succ (f : Nat → Value) (n : Nat) : rw1 f (n + 1) = rw1 f n ++ [f n] := by simp [rw1, List.range_succ]
/-- append of one cell to a row of the call's own -/
theorem app_one {T e : TypeId} {z : Value} {bytes : Nat} (hT : Try.prog.underlying T = some (.slice e)) (hI : (Try.prog.info? e).map (fun i => (i.zero, i.size, i.bytes)) = some (some z, 1, bytes)) (hz : z.cells.size = 1) (hby : bytes ≤ 64)
    {w wr : World} {B : Nat} {A : Option Addr} {k c : Nat} {xs : List Value} (hor : OR wr B e A k c xs) (hB : B ≤ wr.heap.size) (hb : Below B w wr) (v : Value) (h1 : v.oneCell' = true) (hk : k ≤ 1000000) :
    ∃ A' c' w', (Builtin.append_ #[T, T] T #[.slice A k c, .slice (some ⟨wr.heap.size, 0, none⟩) 1 1]).run Try.prog (wr.alloc (.cells #[v] e)) = .ok (.slice A' (k + 1) c') w' ∧ OR w' B e A' (k + 1) c' (xs ++ [v]) ∧ Below B w w' ∧ wr.heap.size ≤ w'.heap.size := by
  obtain ⟨A', c', w', hr, ho, hg, hat⟩ := run_app hT hI hz hby (wr.alloc (.cells #[v] e)) T B A k c _ (hor.alloc _) (some ⟨wr.heap.size, 0, none⟩) 1 1 [v] (wr.heap.size + 1) (Sl.new wr #[v] e) (by simp) (fun h => by cases h) (by intro u hu; simp at hu; subst hu; exact h1) (k + 1) rfl (by omega) (by simp; omega)
  have h1 : Below B w (wr.alloc (.cells #[v] e)) := hb.alloc hB _
  exact ⟨A', c', w', hr, ho, h1.grown hg (by simp; omega) (fun j hj => ((hor.alloc (.cells #[v] e)).blk_lt j hj).1), Nat.le_trans (by simp) hg.size⟩
theorem pt_cellR {w : World} {B ab off n i j : Nat} {P : Nat → Pt} {v : Value} (hS : Sl w B (some ⟨ab, off, none⟩) (ptB P n)) (hi : i < n) (hj : (ptC (P i))[j]? = some v) : ab < B ∧ w.cell? ⟨ab, off + i * 4 + j, none⟩ = some v := by
  have hj4 : j < 4 := by have := (List.getElem?_eq_some_iff.1 hj).1; rw [ptC_len] at this; exact this
  obtain ⟨b, o, e, hb, hc⟩ := hS.open_ (by rw [ptB_len]; omega)
  injection e with e
  injection e with e1 e2
  subst e1 e2
  refine ⟨hb, ?_⟩
  rw [Nat.add_assoc]
  exact hc _ v (by rw [ptB_get hi hj4]; exact hj)
end Go.Proofs.Ytdodogehlnchlaa
