/-
  Walks: the reference's control, Mark, Cut.
  Walks: the reference's Clean, Flat, Width, Columns, Is, Join, Fit, SameAll.
  Walks: the reference's Join, Fit, SameAll.
-/
import Derived.Test.YtfhfhjcdeeepbaaGreatDoorGfF
import Derived.Test.YtfhfhjcdeeepbaaGreatDoorGfC
import Derived.Test.YtfhfhjcdeeepbaaGreatDoorGfR
import Derived.Test.YtfhfhjcdeeepbaaGreatDoorGfW
import Derived.Deep.RegionHeld3
import Derived.Deep.QuietTactic
import Derived.BigQuiet
import Derived.WalkSmall
import Derived.IntWalk
namespace Go.Proofs.YtfhfhjcdeeepbaaGreatDoor
open Go.RowKit
set_option linter.unusedVariables false

theorem size_of (l : List UInt8) : (⟨l.toArray⟩ : ByteArray).size = l.length := by show l.toArray.size = _; simp
/-- An append whose run is known. -/
theorem wpList_run {ops : Array Oper} {rest : List Oper} {o : Oper} {a : Act} {w : World} {Q : Exit → Act → World → Prop} (T U : TypeId) (hgd : o.guard = none) (s x : Operand)
    (ho : o.op = .call { callee := .builtin .append, args := #[s, x], argTypes := #[T, U] }) (vs vx v' : Value) (w' : World) (hs : a.eval s = vs) (hx : a.eval x = vx)
    (hrun : (Builtin.append_ #[T, U] o.type #[vs, vx]).run Tryz.prog w = .ok v' w') (h : wpList Tryz.prog ops Q rest (a.put o.dst v') w') : wpList Tryz.prog ops Q (o :: rest) a w := by
  refine wpList_plain hgd fun K hK => ?_
  unfold Oper.wp execOp
  simp only [ho, resolve, invoke, builtin, Sem.run_bind, Sem.run_pure, Result.andThen_ok, List.map_toArray, List.map_cons, List.map_nil, hs, hx, hrun]
  exact hK _ _ h

theorem mk_of {r : Int} (h0 : ofI r = 0) (hr : isR r) (hc : ctB r = false) : mkB r = true := by
  cases hm : mkB r with
  | true => rfl
  | false => have := ofI_base hr ⟨hc, hm⟩; omega

theorem OR.setAt {w : World} {base n c g j : Nat} {e : TypeId} {xs : List Value} (h : OR w base e (some ⟨g, 0, none⟩) n c xs) (hj : j < n) (v : Value) : OR (w.setCell ⟨g, j, none⟩ v) base e (some ⟨g, 0, none⟩) n c (xs.set j v) := by
  obtain ⟨⟨hl, hv⟩, hn⟩ := h
  rcases hv with ⟨hv, _⟩ | ⟨q, cap, cur, hv, h1, h2, h3, h4, h5, h6⟩
  · cases hv
  · injection hv with hA _ hc
    injection hA with hA
    injection hA with hA
    subst hA hc
    refine ⟨⟨by simpa using hl, .inr ⟨g, c, cur.setIfInBounds j v, rfl, h1, ?_, h3, h4, by simpa using h5, ?_⟩⟩, hn⟩
    · obtain ⟨hlt, hk⟩ := Array.getElem?_eq_some_iff.1 h2
      show (w.heap.modify g _)[g]? = _
      rw [Array.getElem?_eq_getElem (by rw [Array.size_modify]; exact hlt), Array.getElem_modify_self, hk]
      simp
    · rw [← h6]
      simp [Array.toList_setIfInBounds, List.take_set]
theorem OR.cell {w : World} {base n c : Nat} {e : TypeId} {A : Option Addr} {xs : List Value} (h : OR w base e A n c xs) {j : Nat} {u : Value} (hu : xs[j]? = some u) : ∃ g, A = some ⟨g, 0, none⟩ ∧ base ≤ g ∧ w.cell? ⟨g, j, none⟩ = some u ∧ w.frozen? ⟨g, j, none⟩ = false := by
  have hj : j < xs.length := (List.getElem?_eq_some_iff.1 hu).1
  obtain ⟨⟨hl, hv⟩, hn⟩ := h
  rcases hv with ⟨hv, h0⟩ | ⟨q, cap, cur, hv, h1, h2, h3, h4, h5, h6⟩
  · omega
  · injection hv with hA _ hc
    subst hA
    refine ⟨q, rfl, h1, ?_, by simp [World.frozen?, h2]⟩
    rw [← h6, List.getElem?_take] at hu
    split at hu
    · simp [World.cell?, h2]
      simpa using hu
    · cases hu

theorem OR.weaken {w : World} {base base' n c : Nat} {e : TypeId} {A : Option Addr} {xs : List Value} (h : OR w base e A n c xs) (hb : base' ≤ base) : OR w base' e A n c xs := by
  refine ⟨⟨h.1.1, ?_⟩, h.2⟩
  rcases h.1.2 with e | ⟨g, cap, cur, hv, h1, h2⟩
  · exact .inl e
  · exact .inr ⟨g, cap, cur, hv, Nat.le_trans hb h1, h2⟩

theorem OR.on {w w' : World} {base n c : Nat} {e : TypeId} {A : Option Addr} {xs : List Value} (h : OR w base e A n c xs) (hb : Below w.heap.size w w') : OR w' base e A n c xs := h.below hb (fun g hg => (h.blk_lt g hg).2)
theorem below_al {w w' : World} {o : Obj} (h : Below (w.alloc o).heap.size (w.alloc o) w') : Below w.heap.size w w' := ((Below.refl _ _).alloc (Nat.le_refl _) o).trans (h.mono (by simp))
theorem str_add (a b : List UInt8) : (⟨a.toArray⟩ : ByteArray) ++ ⟨b.toArray⟩ = ⟨(a ++ b).toArray⟩ := by
  apply ByteArray.ext; simp [ByteArray.data_append]

/-- the texts of the clusters so far -/
def outs (xs : List Int) : List (List UInt8) := (fin (run xs)).map eb
theorem sv_set (cs : List (List UInt8)) (c d : List UInt8) : (sv (cs ++ [c])).set cs.length (.string ⟨d.toArray⟩) = sv (cs ++ [d]) := by
  rw [sv_snoc, sv_snoc, List.set_append_right _ _ (by rw [sv_length]; omega), sv_length]
  simp

end Go.Proofs.YtfhfhjcdeeepbaaGreatDoor

namespace Go.Proofs.YtfhfhjcdeeepbaaGreatDoor
open Go.RowKit
set_option linter.unusedVariables false

theorem flat_take {cs : List (List Int)} {k : Nat} (h : k < cs.length) : eb (cs.take (k + 1)).flatten = eb (cs.take k).flatten ++ eb cs[k] := by
  rw [List.take_succ_eq_append_getElem h, List.flatten_append, eb_append]; simp
theorem wf_len {c : List Int} (h : wf c) : (eb c).length ≤ 64 := by obtain ⟨_, _, _, _, _, hl, _⟩ := h; exact hl
theorem flat_len {cs : List (List Int)} (h : ∀ c ∈ cs, wf c) : (eb cs.flatten).length ≤ 64 * cs.length := by
  induction cs with
  | nil => simp [eb]
  | cons c cs ih =>
    have h1 := ih (fun d hd => h d (by simp [hd]))
    have h2 := wf_len (h c (by simp))
    rw [List.flatten_cons, eb_append, List.length_append, List.length_cons]
    omega
theorem cls_len (l : List UInt8) : (cls (rs l)).length ≤ l.length := by
  have h1 := run_count (rs l)
  have h2 : (rs l).length ≤ l.length := by unfold rs; rw [List.length_map]; exact rnsOf_le _
  have h3 : cls (rs l) = fin (run (rs l)) := rfl
  rw [h3]; omega
theorem sumC_take {cs : List (List Int)} {k : Nat} (h : k < cs.length) : sumC (cs.take (k + 1)) = sumC (cs.take k) + wc cs[k] := by
  rw [List.take_succ_eq_append_getElem h, sumC_snoc]
theorem sv_cell {w : World} {base n c : Nat} {A : Option Addr} {C : List (List Int)} (h : OR w base 9 A n c (sv (C.map eb))) {k : Nat} (hk : k < C.length) : ∃ g, A = some ⟨g, 0, none⟩ ∧ base ≤ g ∧ w.cell? ⟨g, k, none⟩ = some (.string ⟨(eb C[k]).toArray⟩) ∧ g < w.heap.size := by
  obtain ⟨g, hA, hb, hc, _⟩ := h.cell (j := k) (u := .string ⟨(eb C[k]).toArray⟩) (by rw [sv_get (by simpa using hk)]; simp)
  exact ⟨g, hA, hb, hc, (h.blk_lt g (by rw [hA]; rfl)).2⟩

theorem head_rns {c : List Int} (h : wf c) : ∃ x R, rnsOf (eb c) = x :: R ∧ ofI x.2 = wc c := by
  have h1 := rs_wf h
  obtain ⟨b, ms, rfl, _⟩ := h
  unfold rs at h1
  cases hr : rnsOf (eb (b :: ms)) with
  | nil => rw [hr] at h1; cases h1
  | cons x R =>
    rw [hr] at h1
    simp only [List.map_cons] at h1
    injection h1 with h1 _
    exact ⟨x, R, rfl, by rw [h1]; rfl⟩

theorem isC_two {l : List UInt8} {c d : List Int} {C : List (List Int)} (h : cls (rs l) = c :: d :: C) : isC l = false := by
  unfold isC
  rw [h]
  simp only
  have hw := cls_wf (rs_isR l) c (by rw [h]; simp)
  cases he : (eb c == l) with
  | false => rfl
  | true =>
    have he' : eb c = l := by simpa using he
    have h1 := cls_one hw
    rw [← rs_wf hw, he', h] at h1
    simp at h1

end Go.Proofs.YtfhfhjcdeeepbaaGreatDoor

namespace Go.Proofs.YtfhfhjcdeeepbaaGreatDoor
open Go.RowKit
set_option linter.unusedVariables false

theorem fitR_eq (most : Int) {C : List (List Int)} (h : ∀ c ∈ C, wf c) : FitR most (prs 0 C) = (eb (fitC most 0 C).flatten, sumC (fitC most 0 C)) := by
  have hp := fitC_pre most C 0
  have hw : ∀ c ∈ fitC most 0 C, wf c := fun c hc => h c (hp.subset hc)
  unfold FitR
  rw [fit_prs C 0 h, last_prs hw, txs_prs, eb_flatten]

set_option maxRecDepth 100000 in
set_option maxHeartbeats 2000000 in
theorem sameall_any (C : List (List UInt8)) (n m : Nat) (A B : Option Addr) (c d : Nat) (w : World) (hl : C.length ≤ 4000000) (hn : n = C.length) (hm : m = C.length) (hA : Sl w w.heap.size A (sv C)) (hB : Sl w w.heap.size B (sv C)) :
    Calls Tryz.prog 17 #[.slice A n c, .slice B m d] w fun e w' => e = .returned (.bool true) ∧ Below w.heap.size w w' := by
  obtain rfl : m = n := by omega
  have hcells : ∀ k, k < m → ∃ (s : ByteArray) (b1 o1 b2 o2 : Nat), (A = some ⟨b1, o1, none⟩ ∧ B = some ⟨b2, o2, none⟩) ∧ (b1 < w.heap.size ∧ b2 < w.heap.size) ∧
      w.cell? ⟨b1, o1 + k, none⟩ = some (.string s) ∧ w.cell? ⟨b2, o2 + k, none⟩ = some (.string s) := by
    intro k hk
    have hkl : k < C.length := by omega
    obtain ⟨b1, o1, e1, k1, g1⟩ := hA.open_ (by rw [sv_length]; omega)
    obtain ⟨b2, o2, e2, k2, g2⟩ := hB.open_ (by rw [sv_length]; omega)
    exact ⟨⟨C[k].toArray⟩, b1, o1, b2, o2, ⟨e1, e2⟩, ⟨k1, k2⟩, g1 k _ (sv_get hkl), g2 k _ (sv_get hkl)⟩
  have HC := Lib.hid hcells
  have hm1 : m ≤ 4000000 := by omega
  clear hcells hm hn hA hB
  go_enter Tryz.func17, Tryz.ntmps17
  go_wp2
  go_loopw [5] (fun i wr => ∃ k : Nat, k ≤ m ∧ i = .int .i64 k ∧ Below w.heap.size w wr) (fun i _ => m - (intOf i).toNat)
  case atStart => exact ⟨0, by omega, rfl, Below.refl _ _⟩
  case round =>
    obtain ⟨k, hk, rfl, hbw⟩ := hrel
    by_cases hlt : k < m
    · obtain ⟨s, b1, o1, b2, o2, ⟨e1, e2⟩, ⟨k1, k2⟩, g1, g2⟩ := HC.out k hlt
      subst e1 e2
      have d1 := (hbw.cell (p := ⟨b1, o1 + k, none⟩) k1).trans g1
      have d2 := (hbw.cell (p := ⟨b2, o2 + k, none⟩) k2).trans g2
      clear g1 g2
      have hkn : (k : Int) < (m : Int) := by omega
      go_wp2
      go_quiet (fail)
      go_wp2
      go_roundw
      case rel => exact ⟨k + 1, by omega, by go_num, hbw.trans (below_drewN (Below.refl _ _) _)⟩
      case measure => simp [intOf]; omega
    · have hkn : ¬ (k : Int) < (m : Int) := by omega
      go_wp2
      go_ret
      exact ⟨rfl, hbw⟩

theorem ret_si {a b : List UInt8} {c d : Int} (h : a = b) (g : c = d) : Ending.returned (.tuple #[.string ⟨a.toArray⟩, .int .i64 c]) = .returned (.tuple #[.string ⟨b.toArray⟩, .int .i64 d]) := by rw [h, g]

end Go.Proofs.YtfhfhjcdeeepbaaGreatDoor

