/-
  Walks: cluster.Count, cluster.Is.
  Walks: cluster.Width, cluster.Columns.
  Rows that a caller of an iterator appends to while the iterator has blocks of its own; appending a text to bytes.
  Walks: cluster.Cut, cluster.Clean, cluster.Fit.
  Plain mathematics of what fits. No program is named here.
  Walks: cluster.Fit.
  Walks: cluster.Flat, cluster.Join.
-/
import Derived.Test.YtfjiogockpmogaaDoorGfC
import Derived.Deep.QuietTactic
import Derived.BigQuiet
import Derived.IntWalk
import Derived.Test.YtfjiogockpmogaaDoorGfW
import Derived.Test.YtfjiogockpmogaaDoorGfA
import Derived.Lib.AppendStr
import Derived.OwnWalkIn
import Derived.WalkSpells
import Derived.Deep.RegionHeld3
import Derived.WalkSmall
namespace Go.Proofs.YtfjiogockpmogaaDoor
open Go.RowKit Go.Shelf
attribute [local go_sem] Oper.semAt_some
set_option linter.unusedVariables false

/-- What a caller hands to the iterator: all that lay ahead of the call, and the closure's box. -/
def lent (h B : Nat) (k : Nat) : Prop := k < h ∨ k = B
theorem not_lent {h B b z c : Nat} {f : Nat → Prop} (hf : ∀ k, f k → lent h B k ∨ (c ≤ k ∧ k < z)) (h1 : h ≤ b) (h2 : b < B) (h3 : B < c) : ¬ f b := by
  intro hb
  rcases hf b hb with h | h
  · rcases h with h | h <;> omega
  · omega

set_option maxRecDepth 100000 in
set_option maxHeartbeats 2000000 in
theorem ccount_any (s : ByteArray) (hs : s.size ≤ 4000000) (w : World) (hT : Tabs w) :
    Calls Tryd.prog 62 #[.string s] w fun e w' => e = .returned (.int .i64 (cls (rs s.data.toList)).length) ∧ Below w.heap.size w w' := by
  have HT := Lib.hid hT
  clear hT
  refine (callsIn_wide (n := 9)).1 ?_
  refine callsIn_of_wp_marks Tryd.func62 rfl trivial ?_ rfl
  simp only [Tryd.ntmps62, List.size_toArray, List.length_cons, List.length_nil, Nat.reduceAdd, Nat.reduceSub, Array.replicate_succ, Array.replicate_zero, List.push_toArray, List.append_toArray, List.nil_append, List.cons_append]
  refine wpIn_wide.2 ?_
  go_wp2_with (go_at_call 77; refine (call_any _ _).mono ?_; rintro e w' ⟨rfl, rfl⟩)
  refine (wpIn_wide (n := 9)).1 ?_
  have hB := (Boxed.new w 3 (.int .i64 0)).alloc (.cells #[.string s] 9)
  have hS := Boxed.new (w.alloc (.cells #[.int .i64 0] 3)) 9 (.string s)
  rw [World.size_alloc] at hS
  have hb0 : Below w.heap.size w ((w.alloc (.cells #[.int .i64 0] 3)).alloc (.cells #[.string s] 9)) := ((Below.refl _ w).alloc (Nat.le_refl _) _).alloc (by simp) _
  have hg := HT.out.mg
  have hg' := HT.out.wg
  refine range_priv rfl (by omega) (gf := 92) (lb := #[.pointer (some ⟨w.heap.size + 1, 0, none⟩)]) rfl trivial (enters_of Tryd.func92 (by kernel_rfl) rfl)
    (call_stops (w.heap.size + 1) s hs (lent w.heap.size (w.heap.size + 1)) _ hS.cell (HT.out.below hb0) (.inr rfl) (.inl hg) (.inl hg') (fun k hk => by rcases hk with hk | hk <;> simp <;> omega))
    (Nat.le_refl _) (fun k hk => ⟨by rcases hk with hk | hk <;> simp <;> omega, rfl⟩) (fun _ => rfl)
    (fun pre f W => Boxed W w.heap.size 3 (.int .i64 pre.length) ∧ Below w.heap.size w W)
    (fun _ _ _ _ => False)
    (AbP.and (AbP.boxed (fun (pre : List (Int × List UInt8)) => .int .i64 pre.length) (by simp <;> omega)) (AbP.below (by simp <;> omega) (Nat.le_refl _)))
    (fun _ => AbP.none _)
    ⟨hB, hb0⟩
    (fun x => { tmps := #[.string s, undef, .int .i64 0, .pointer (some ⟨w.heap.size, 0, none⟩), .string s, .func (.func 92) #[] #[.pointer (some ⟨w.heap.size + 1, 0, none⟩)], .int .i64 x.1, .string ⟨x.2.toArray⟩, undef, undef, undef], defers := [] }) ?assign ?body ?done ?stop
  case assign =>
    intro l x W K hK
    simp only [encC]
    gi_wp2
    rw [put_two]
    exact hK
  case body =>
    rintro l pre x f W hf hz ⟨hb, hbW⟩ hlen hel
    have hli : (pre.length : Int) + 1 < 9000000 := by omega
    have hc := hb.cell
    have hfr := hb.frozen
    have hnf := not_lent (b := w.heap.size) hf (Nat.le_refl _) (by omega) (by simp <;> omega)
    gi_wp2
    refine ⟨(Rk.refl _ _ _).setCell hnf _, ?_, hbW.setCell (p := ⟨w.heap.size, 0, none⟩) (Nat.le_refl _) _⟩
    have := hb.set (.int .i64 ((pre.length : Int) + 1))
    simpa using this
  case done =>
    rintro D ys f W hD rfl ⟨hb, hbW⟩ hK
    have hc := hb.cell
    rw [prs_length] at hc
    go_wp2
    refine ⟨by simp, .inl ⟨_, _, rfl, run_takeDeferred hK, ?_⟩⟩
    exact ⟨_, results_tmp rfl _ _ _, rfl, hbW.trans (belowK_b (w := w) (Nat.le_refl _) W D _ _ (by simp at hD; omega) hK rfl rfl)⟩
  case stop =>
    rintro D c pre f W _ _ h _
    exact h.elim

/-- what Is comes to -/
def isC (l : List UInt8) : Bool := match cls (rs l) with
  | [] => false
  | c :: _ => eb c == l

end Go.Proofs.YtfjiogockpmogaaDoor

namespace Go.Proofs.YtfjiogockpmogaaDoor
open Go.RowKit Go.Shelf
attribute [local go_sem] Oper.semAt_some
set_option linter.unusedVariables false

/-- no rune that came has columns -/
def Low (pre : List (Nat × Int)) : Prop := ∀ x ∈ pre, ¬ 0 < ofI x.2
/-- The tables abide what turns no cells that lay. -/
theorem Tabs.own {w w' : World} (h : Tabs w) {row : Option Nat} (hg : w.grownBy w' row) (hr : ∀ r, row = some r → ∃ o : Obj, w.heap[r]? = some o ∧ o.isCells = false) : Tabs w' :=
  ⟨fun k x hx => ⟨cell_kept (h.mt k x hx).1 hg hr, cell_kept (h.mt k x hx).2 hg hr⟩, fun k x hx => ⟨cell_kept (h.wt k x hx).1 hg hr, cell_kept (h.wt k x hx).2 hg hr⟩, Nat.lt_of_lt_of_le h.mg hg.size, Nat.lt_of_lt_of_le h.wg hg.size⟩

/-- The five operations of 'columns += width.Of(r)', as far as they have come up. -/
structure RSum (h : Nat) (W : World) (s : ByteArray) (a x : Int) (b0 b1 b2 b3 b4 : Bool) (u10 u11 u12 u13 : Value) (w : World) : Prop where
  s0 : b0 = true → u10 = .int .i64 a
  s1 : b1 = true → u11 = .int .i32 x
  s2 : b2 = true → u12 = .int .i64 (ofI x)
  s3 : b3 = true → u13 = .int .i64 (a + ofI x)
  q2 : b2 = true → b1 = true
  q3 : b3 = true → b0 = true ∧ b2 = true
  q4 : b4 = true → b3 = true
  bel : Below h W w
  kp : KeepsOthers W w
  bs : Boxed w (h + 1) 9 (.string s)
  tb : Tabs w
  ht : 1 < h ∧ 2 < h
  box : ∃ p, Boxed w h 3 (.int .i64 p) ∧ (b4 = false → p = a) ∧ (b4 = true → p = a + ofI x)

end Go.Proofs.YtfjiogockpmogaaDoor

namespace Go.Proofs.YtfjiogockpmogaaDoor
open Go.RowKit
set_option linter.unusedVariables false

/-- texts as cells -/
def sv (cs : List (List UInt8)) : List Value := cs.map fun c => .string ⟨c.toArray⟩
theorem sv_length (cs : List (List UInt8)) : (sv cs).length = cs.length := by simp [sv]
theorem sv_snoc (cs : List (List UInt8)) (c : List UInt8) : sv (cs ++ [c]) = sv cs ++ [.string ⟨c.toArray⟩] := by simp [sv]
theorem sv_get {cs : List (List UInt8)} {k : Nat} (h : k < cs.length) : (sv cs)[k]? = some (.string ⟨cs[k].toArray⟩) := by simp [sv, h]
theorem sv_take (cs : List (List UInt8)) (k : Nat) : (sv cs).take k = sv (cs.take k) := by simp [sv, List.map_take]
theorem str_info : (Tryd.prog.info? 9).map (fun i => (i.zero, i.size, i.bytes)) = some (some (.string ⟨#[]⟩), 1, 16) := by kernel_rfl

/-- A box that holds a row, which is not the iterator's. -/
def HoldP (B : Nat) (T e : TypeId) (base : Nat) (xs : List Value) (f : Nat → Prop) (W : World) : Prop :=
  ∃ A n c, Boxed W B T (.slice A n c) ∧ OR W base e A n c xs ∧ ∀ g, blk A = some g → ¬ f g

theorem OR.turn {b : Nat} {f : Nat → Prop} {X Y : World} {base n c : Nat} {e : TypeId} {A : Option Addr} {xs : List Value} (h : OR X base e A n c xs) (ht : Turn b f X Y) (hf : ∀ g, blk A = some g → ¬ f g) : OR Y base e A n c xs := by
  obtain ⟨⟨hl, hv⟩, hn⟩ := h
  refine ⟨⟨hl, ?_⟩, hn⟩
  rcases hv with hv | ⟨g, cap, cur, hv, h1, h2, h3⟩
  · exact .inl hv
  · refine .inr ⟨g, cap, cur, hv, h1, ?_, h3⟩
    injection hv with hA
    subst hA
    exact ht.block _ _ h2 (.inr ⟨hf g rfl, rfl⟩)

theorem AbP.hold {β : Type} {b B base : Nat} {T e : TypeId} (xs : β → List Value) (h : B < b) : AbP b (fun s f W => HoldP B T e base (xs s) f W) := by
  rintro s f f' X Y ⟨A, n, c, hb, hr, hm⟩ ht hf
  refine ⟨A, n, c, ht.block _ _ hb (.inl h), hr.turn ht hm, fun g hg hf' => ?_⟩
  rcases hf g hf' with h1 | h1
  · exact hm g hg h1
  · have := (hr.blk_lt g hg).2; omega

/-- Behind an append and the store of what it gives into the box. -/
theorem HoldP.appended {B : Nat} {T e : TypeId} {base : Nat} {xs ys : List Value} {f : Nat → Prop} {W X w1 : World} {A A' : Option Addr} {n c n' c' : Nat} (hT : T ≠ e) (hb0 : base ≤ B) (hfs : ∀ k, f k → k < W.heap.size)
    (hwx : Below W.heap.size W X) (hb : Boxed W B T (.slice A n c)) (hr : OR W base e A n c xs) (hm : ∀ g, blk A = some g → ¬ f g) (hB : ¬ f B)
    (hO : OR w1 base e A' n' c' ys) (hg : X.grownBy w1 (blk A)) (hat : ∀ g, blk A' = some g → blk A = some g ∨ X.heap.size ≤ g) (lo : Nat) :
    HoldP B T e base ys f (w1.setCell ⟨B, 0, none⟩ (.slice A' n' c')) ∧ Rk lo f W (w1.setCell ⟨B, 0, none⟩ (.slice A' n' c')) ∧ Boxed w1 B T (.slice A n c) ∧ (base ≤ W.heap.size → Below base W (w1.setCell ⟨B, 0, none⟩ (.slice A' n' c'))) := by
  have hbX : Boxed X B T (.slice A n c) := hb.kept (row := none) ⟨hwx.os, hwx.tape, hwx.output, hwx.size, fun k hk _ => hwx.block k hk⟩ (by simp)
  have hrX : OR X base e A n c xs := hr.below hwx (fun g hg => (hr.blk_lt g hg).2)
  have hne : some B ≠ blk A := by have := hbX.not_row hT hrX.1; rwa [ownBlock_slice] at this
  have hb1 : Boxed w1 B T (.slice A n c) := hbX.kept hg hne
  have hne' : blk A' = none ∨ blk A' ≠ some B := by have := hb1.not_row hT hO.1; rw [ownBlock_slice] at this; exact .inr (fun e => this e.symm)
  have hcells : ∀ j o, blk A = some j → X.heap[j]? = some o → o.isCells = true := by
    intro j o hj ho
    obtain ⟨hl, ⟨hv, hn⟩ | ⟨g, cap, cur, hv, h1, h2, h3⟩⟩ := hrX.1
    · injection hv with hA; subst hA; cases hj
    · injection hv with hA; subst hA
      have : g = j := by simpa [blk] using hj
      subst this
      rw [h2] at ho; cases ho; rfl
  refine ⟨⟨A', n', c', hb1.set _, hO.kept (grownBy_setCell' _ _ _) hne', fun g hg' hf => ?_⟩, ?_, hb1, fun hbw => ?_⟩
  · rcases hat g hg' with h1 | h1
    · exact hm g h1 hf
    · have h2 := hfs g hf; have h3 := hwx.size; omega
  · exact ((Rk.of_below hwx hfs).grown hg hfs (fun k hk => ⟨hm k hk, fun o ho => hcells k o hk ho⟩)).setCell hB _
  · exact ((hwx.mono hbw).grown hg (Nat.le_trans hbw hwx.size) (fun k hk => (hrX.blk_lt k hk).1)).setCell (p := ⟨B, 0, none⟩) hb0 _

/-- An append whose run is known, in a round. -/
theorem wpListIn_app {F : Fence} {n : Nat} {ops : Array Oper} {rest : List Oper} {o : Oper} {a : Act} {w : World} {Q : Exit → Act → World → Prop} (T U : TypeId) (hgd : o.guard = none) (s x : Operand)
    (ho : o.op = .call { callee := .builtin .append, args := #[s, x], argTypes := #[T, U] }) (vs vx v' : Value) (w' : World) (hs : a.eval s = vs) (hx : a.eval x = vx)
    (hrun : (Builtin.append_ #[T, U] o.type #[vs, vx]).run Tryd.prog w = .ok v' w') (h : wpListIn F n Tryd.prog ops Q rest (a.put o.dst v') w') : wpListIn F n Tryd.prog ops Q (o :: rest) a w := by
  refine wpListIn_plain hgd fun K hK' => ?_
  unfold Oper.wpIn
  refine ⟨?_, ?_⟩
  · simp [Oper.about, ho, resolve, Target.leads, Sem.run_pure]
  · rw [Oper.semAt_plain F _ _ (by rw [ho]; intro c hc'; cases hc')]
    simp [execOp, ho, resolve, invoke, builtin, hs, hx, hrun, Result.andThen]
    exact hK' _ _ h

theorem strCells_bv (s : ByteArray) : Lib.strCells s = bv s.data.toList := rfl

/-- 'append(bytes, text...)'. -/
theorem run_app_str (w : World) (ty : TypeId) (base : Nat) (A : Option Addr) (n c : Nat) (l : List UInt8) (hown : OB w base A n c l) (s : ByteArray) (N : Nat) (hN : N = n + s.size) (hl : N ≤ 1000000000) (hbase : base ≤ w.heap.size) :
    ∃ A' c' w', (Builtin.append_ #[83, 9] ty #[.slice A n c, .string s]).run Tryd.prog w = .ok (.slice A' N c') w' ∧ OB w' base A' N c' (l ++ s.data.toList) ∧ w.grownBy w' (blk A) ∧ (∀ g, blk A' = some g → blk A = some g ∨ w.heap.size ≤ g) := by
  obtain ⟨i0, hi0, hz0, hz1, hz2⟩ := info_parts u8_info
  subst hN
  have law : ∀ b, w.ownsRow b 5 1 (.slice A n c) n (bv l) → b ≤ w.heap.size → ∃ v' w', (Builtin.append_ #[83, 9] ty #[.slice A n c, .string s]).run Tryd.prog w = .ok v' w' ∧
      w'.ownsRow b 5 1 v' (n + s.size) (bv l ++ Lib.strCells s) ∧ w.grownBy w' (Value.slice A n c).ownBlock ∧ (v' = .slice none 0 0 ↔ Value.slice A n c = .slice none 0 0 ∧ s.size = 0) := fun b ho hb =>
    Lib.run_append_own_string (P := Tryd.prog) w b 83 9 ty 5 i0 Tryd.underlying83 Tryd.underlying9 hi0 hz0 hz1 hz2 _ n (bv l) ho s (by simp only [maxLen]; omega) (by omega) hb
  cases A with
  | none =>
    have hc : c = 0 := hown.2 rfl
    have hn : n = 0 ∧ l = [] := by
      obtain ⟨hl', ⟨hv, h0⟩ | ⟨g, cap, cur, hv, _⟩⟩ := hown.1
      · subst h0
        refine ⟨rfl, ?_⟩
        have : l.length = 0 := by simpa [bv] using hl'
        exact List.eq_nil_of_length_eq_zero this
      · cases hv
    obtain ⟨rfl, rfl⟩ := hn
    subst hc
    obtain ⟨v', w', hrun, h2, h3, _⟩ := law w.heap.size (World.ownsRow_nil _ _ _ _) (Nat.le_refl _)
    obtain ⟨A', c', rfl, hn', _⟩ := own_of h2
    rw [strCells_bv, bv_append] at h2
    rw [ownBlock_slice] at h3
    have hO : OB w' w.heap.size A' (0 + s.size) c' ([] ++ s.data.toList) := ⟨h2, hn'⟩
    exact ⟨A', c', w', hrun, hO.weaken hbase, h3, fun g hg => .inr (hO.blk_lt g hg).1⟩
  | some ad =>
    obtain ⟨v', w', hrun, h2, h3, _⟩ := law base hown.1 hbase
    obtain ⟨A', c', rfl, hn', _⟩ := own_of h2
    have h2' := h2
    rw [strCells_bv, bv_append] at h2
    rw [ownBlock_slice] at h3
    refine ⟨A', c', w', hrun, ⟨h2, hn'⟩, h3, fun g hg => ?_⟩
    obtain ⟨hl', ⟨hv, h0⟩ | ⟨q, cap, cur, hv, q1, q2, q3, q4, q5, q6⟩⟩ := hown.1
    · cases hv
    · injection hv with hA _ hcc
      injection hA with hA
      subst hA hcc
      by_cases hroom : n + s.size ≤ c
      · have hr := Lib.run_append_room_string (P := Tryd.prog) w 83 9 ty 5 i0 Tryd.underlying83 Tryd.underlying9 hi0 hz1 q n c cur q2 s hroom (by omega)
        rw [hrun] at hr
        injection hr with hr _
        injection hr with hr
        subst hr
        exact .inl hg
      · have hr := Lib.run_append_grow_string (P := Tryd.prog) w 83 9 ty 5 i0 _ Tryd.underlying83 Tryd.underlying9 hi0 hz0 ⟨q, 0, none⟩ n c (bv l) (by rw [hz1]; exact hl') (hown.1.cells (g := q) rfl) s (by omega) (by omega) (by rw [hz2]; exact growslice_fits (by omega) (by omega))
        rw [hrun] at hr
        injection hr with hr _
        injection hr with hr
        subst hr
        cases hg
        exact .inr (Nat.le_refl _)
end Go.Proofs.YtfjiogockpmogaaDoor

namespace Go.Proofs.YtfjiogockpmogaaDoor
open Go.RowKit Go.Shelf
attribute [local go_sem] Oper.semAt_some
set_option linter.unusedVariables false

/-- the texts that came -/
def txs (pre : List (Int × List UInt8)) : List (List UInt8) := pre.map (·.2)
theorem txs_snoc (pre : List (Int × List UInt8)) (x : Int × List UInt8) : txs (pre ++ [x]) = txs pre ++ [x.2] := by simp [txs]
theorem txs_length (pre : List (Int × List UInt8)) : (txs pre).length = pre.length := by simp [txs]
theorem txs_prs (cs : List (List Int)) (a : Int) : txs (prs a cs) = cs.map eb := prs_map cs a
theorem blk_at {A A' : Option Addr} {z : Nat} (h : blk A' = blk A ∨ blk A' = some z) : ∀ g, blk A' = some g → blk A = some g ∨ z ≤ g := fun g hg => by
  rcases h with h | h
  · exact .inl (by rw [← h]; exact hg)
  · rw [h] at hg; cases hg; exact .inr (Nat.le_refl _)

def cleanB (l : List UInt8) : List UInt8 := eb (cls (rs l)).flatten
theorem txs_flat (pre : List (Int × List UInt8)) (x : Int × List UInt8) : (txs (pre ++ [x])).flatten = (txs pre).flatten ++ x.2 := by simp [txs]

/-- A box that holds a row of bytes, which is not the iterator's. -/
def HoldB (B base : Nat) (l : List UInt8) (f : Nat → Prop) (W : World) : Prop := HoldP B 83 5 base (bv l) f W

theorem size_mk (l : List UInt8) : (⟨l.toArray⟩ : ByteArray).size = l.length := by show l.toArray.size = _; simp

set_option maxRecDepth 100000 in
set_option maxHeartbeats 2000000 in
theorem cclean_any (s : ByteArray) (hs : s.size ≤ 4000000) (w : World) (hT : Tabs w) :
    Calls Tryd.prog 76 #[.string s] w fun e w' => e = .returned (.string ⟨(cleanB s.data.toList).toArray⟩) ∧ Below w.heap.size w w' := by
  have HT := Lib.hid hT
  clear hT
  obtain ⟨i0, hi0, hz0, hz1, hz2⟩ := info_parts u8_info
  have I0 := Lib.hid hi0
  have Z0 := Lib.hid hz0
  have Z1 := Lib.hid hz1
  have Z2 := Lib.hid hz2
  clear hi0 hz0 hz1 hz2
  have hsz : s.size ≤ maxLen := by simp only [maxLen]; omega
  refine (callsIn_wide (n := 9)).1 ?_
  refine callsIn_of_wp_marks Tryd.func76 rfl trivial ?_ rfl
  simp only [Tryd.ntmps76, List.size_toArray, List.length_cons, List.length_nil, Nat.reduceAdd, Nat.reduceSub, Array.replicate_succ, Array.replicate_zero, List.push_toArray, List.append_toArray, List.nil_append, List.cons_append]
  refine wpIn_wide.2 ?_
  go_wp2_with (first
    | (at_make
       refine wpList_make_own _ rfl (.const (.int .i64 0)) (.tmp 7) 83 rfl w.heap.size 5 i0 _ 1 Tryd.underlying83 I0.out Z0.out Z1.out .i64 .i64 (s.size : Int) s.size rfl rfl rfl (by rw [Z2.out]; omega) hsz (Nat.le_refl _) ?_
       intro w1 hown1 hg1
       have hb1 : Below w.heap.size w w1 := (Below.refl _ _).grown hg1 (Nat.le_refl _) (fun k h => by cases h))
    | (go_at_call 77; refine (call_any _ _).mono ?_; rintro e w' ⟨rfl, rfl⟩))
  refine (wpIn_wide (n := 9)).1 ?_
  have hs1 := hb1.size
  have hO1 : OB w1 w.heap.size (some ⟨w.heap.size, 0, none⟩) 0 s.size [] := ⟨hown1, fun h => by cases h⟩
  generalize hA0 : (some ⟨w.heap.size, 0, none⟩ : Option Addr) = A0 at hO1 ⊢
  have HA0 := Lib.hid hA0
  have hB := (Boxed.new w1 83 (.slice A0 0 s.size)).alloc (.cells #[.string s] 9)
  have hS := Boxed.new (w1.alloc (.cells #[.slice A0 0 s.size] 83)) 9 (.string s)
  rw [World.size_alloc] at hS
  have hb0 : Below w.heap.size w ((w1.alloc (.cells #[.slice A0 0 s.size] 83)).alloc (.cells #[.string s] 9)) := (hb1.alloc hs1 _).alloc (by simp; omega) _
  have hO0 := (hO1.alloc (.cells #[.slice A0 0 s.size] 83)).alloc (.cells #[.string s] 9)
  have hg := HT.out.mg
  have hg' := HT.out.wg
  have hA0l : ∀ g, blk A0 = some g → ¬ lent w.heap.size (w1.heap.size + 1) g := by
    rw [← HA0.out]
    intro g hg hl
    have hgv : w.heap.size = g := by simpa [blk] using hg
    subst hgv
    have := (hO1.blk_lt w.heap.size (by rw [← HA0.out]; rfl)).2
    rcases hl with h | h <;> omega
  clear hown1 hg1 hA0
  refine range_priv rfl (by omega) (gf := 92) (lb := #[.pointer (some ⟨w1.heap.size + 1, 0, none⟩)]) rfl trivial (enters_of Tryd.func92 (by kernel_rfl) rfl)
    (call_stops (w1.heap.size + 1) s (by omega) (lent w.heap.size (w1.heap.size + 1)) _ hS.cell (HT.out.below hb0) (.inr rfl) (.inl hg) (.inl hg') (fun k hk => by rcases hk with hk | hk <;> simp <;> omega))
    (Nat.le_refl _) (fun k hk => ⟨by rcases hk with hk | hk <;> simp <;> omega, rfl⟩) (fun _ => rfl)
    (fun pre f W => HoldB w1.heap.size w.heap.size (txs pre).flatten f W ∧ (txs pre).flatten.length ≤ 100 * pre.length ∧ Below w.heap.size w W)
    (fun _ _ _ _ => False)
    (AbP.and (AbP.hold (fun (pre : List (Int × List UInt8)) => bv (txs pre).flatten) (by simp <;> omega)) (AbP.and (AbP.pure _) (AbP.below (by simp <;> omega) (Nat.le_refl _))))
    (fun _ => AbP.none _)
    ⟨⟨A0, 0, s.size, hB, hO0, hA0l⟩, by simp [txs], hb0⟩
    (fun x => { tmps := #[.string s, undef, .string ⟨#[]⟩, .pointer (some ⟨w1.heap.size, 0, none⟩), undef, .string ⟨x.2.toArray⟩, .string s, .int .i64 s.size, .slice A0 0 s.size, .string s, .func (.func 92) #[] #[.pointer (some ⟨w1.heap.size + 1, 0, none⟩)], .int .i64 x.1, .string ⟨x.2.toArray⟩, undef, undef, undef, undef, undef], defers := [] }) ?assign ?body ?done ?stop
  case assign =>
    intro l x W K hK
    simp only [encC]
    rw [put_two]
    gi_wp2
    exact hK
  case body =>
    rintro l pre x f W hf hz ⟨⟨A, n, c, hb, hr, hm⟩, hlb, hbW⟩ hlen hel
    have hO : OB W w.heap.size A n c (txs pre).flatten := hr
    have hn : n = (txs pre).flatten.length := hO.len
    have hc := hb.cell
    have hfl := hb.frozen
    have hnf := not_lent (b := w1.heap.size) hf hs1 (by omega) (by simp <;> omega)
    have hsz := hbW.size
    have hfs : ∀ k, f k → k < W.heap.size := fun k hk => by
      rcases hf k hk with h | h
      · rcases h with h | h
        · omega
        · simp at hz; omega
      · exact h.2
    have hx64 := hel.1
    have hxs := size_mk x.2
    obtain ⟨A5, c5, w5, hrun, hO5, hg5, hat5⟩ := run_app_str W 83 w.heap.size A n c _ hO ⟨x.2.toArray⟩ (n + x.2.length) (by rw [hxs]) (by omega) hsz
    obtain ⟨hH, hRk, hb5, hbe⟩ := HoldP.appended (e := 5) (ys := bv ((txs pre).flatten ++ x.2)) (X := W) (by decide) hs1 hfs (Below.refl _ _) hb hr hm hnf hO5 hg5 hat5 ((w1.alloc (.cells #[.slice A0 0 s.size] 83)).alloc (.cells #[.string s] 9)).heap.size
    have hc5 := hb5.cell
    have hf5 := hb5.frozen
    have HR := Lib.hid hrun
    have HH := Lib.hid hH
    have HN := Lib.hid hn
    have HX := Lib.hid hxs
    clear hrun hH hn hO5 hg5 hat5 hb5 hr hm hO hxs
    gi_wp2_with (gi_at_builtin; refine wpListIn_app 83 9 rfl (.tmp 13) (.tmp 14) rfl _ _ _ _ rfl rfl HR.out ?_)
    refine ⟨hRk, ?_, ?_, hbW.trans (hbe hsz)⟩
    · rw [txs_flat]; exact HH.out
    · rw [txs_flat, List.length_append, List.length_append]; simp only [List.length_cons, List.length_nil]; omega
  case done =>
    rintro D ys f W hD rfl ⟨⟨A, n, c, hb, hr, hm⟩, hlb, hbW⟩ hK
    rw [txs_prs, ← eb_flatten] at hr
    have hO : OB W w.heap.size A n c (cleanB s.data.toList) := hr
    have hc := hb.cell
    have hcv := run_str_sl W W.heap.size A n c (cleanB s.data.toList) hO.sl hO.len
    clear hr hO hlb hm
    go_wp2
    refine ⟨by simp, .inl ⟨_, _, rfl, run_takeDeferred hK, ?_⟩⟩
    exact ⟨_, results_tmp rfl _ _ _, rfl, hbW.trans (belowK_b (w := w) (Nat.le_refl _) W D _ _ (by simp at hD; omega) hK rfl rfl)⟩
  case stop =>
    rintro D c pre f W _ _ h _
    exact h.elim
end Go.Proofs.YtfjiogockpmogaaDoor

namespace Go.Proofs.YtfjiogockpmogaaDoor
set_option linter.unusedVariables false

def okP (most : Int) (x : Int × List UInt8) : Bool := decide (x.1 + fw (rs x.2) ≤ most)
def lastEnd (pre : List (Int × List UInt8)) : Int := match pre.getLast? with
  | none => 0
  | some x => x.1 + fw (rs x.2)
theorem lastEnd_snoc (pre : List (Int × List UInt8)) (x : Int × List UInt8) : lastEnd (pre ++ [x]) = x.1 + fw (rs x.2) := by simp [lastEnd]
def fitC (most : Int) : Int → List (List Int) → List (List Int)
  | _, [] => []
  | a, c :: cs => if most < a + wc c then [] else c :: fitC most (a + wc c) cs
def AllOk (most : Int) (pre : List (Int × List UInt8)) : Prop := ∀ x ∈ pre, okP most x = true
theorem AllOk.nil (most : Int) : AllOk most [] := fun x hx => by cases hx
theorem AllOk.snoc {most : Int} {pre : List (Int × List UInt8)} {x : Int × List UInt8} (h : AllOk most pre) (hx : okP most x = true) : AllOk most (pre ++ [x]) := by
  intro y hy
  rcases List.mem_append.1 hy with h1 | h1
  · exact h y h1
  · simp at h1; subst h1; exact hx
theorem take_all {most : Int} {T : List (Int × List UInt8)} (h : AllOk most T) : T.takeWhile (okP most) = T := by
  induction T with
  | nil => rfl
  | cons x T ih => rw [List.takeWhile_cons_of_pos (h x (by simp)), ih (fun y hy => h y (by simp [hy]))]
theorem take_stop {most : Int} {T p : List (Int × List UInt8)} {x : Int × List UInt8} (h : AllOk most p) (hx : okP most x = false) (hp : p ++ [x] <+: T) : T.takeWhile (okP most) = p := by
  obtain ⟨t, rfl⟩ := hp
  induction p with
  | nil => simp [hx]
  | cons y p ih =>
    have hy := h y (by simp)
    rw [List.cons_append, List.cons_append, List.takeWhile_cons_of_pos hy, ih (fun z hz => h z (by simp [hz]))]
theorem fit_prs {most : Int} (cs : List (List Int)) : ∀ a, (∀ c ∈ cs, wf c) → (prs a cs).takeWhile (okP most) = prs a (fitC most a cs) := by
  induction cs with
  | nil => intro a _; rfl
  | cons c cs ih =>
    intro a h
    have hw : fw (rs (eb c)) = wc c := by rw [rs_wf (h c (by simp)), fw_wf (h c (by simp))]
    simp only [prs, fitC]
    by_cases hm : most < a + wc c
    · rw [if_pos hm, List.takeWhile_cons_of_neg (by simp [okP, hw]; omega)]
      rfl
    · rw [if_neg hm, List.takeWhile_cons_of_pos (by simp [okP, hw]; omega), ih _ (fun d hd => h d (by simp [hd]))]
      rfl
theorem last_prs {cs : List (List Int)} (h : ∀ c ∈ cs, wf c) : lastEnd (prs 0 cs) = sumC cs := by
  rcases List.eq_nil_or_concat cs with rfl | ⟨ds, c, rfl⟩
  · rfl
  · have hw : fw (rs (eb c)) = wc c := by rw [rs_wf (h c (by simp)), fw_wf (h c (by simp))]
    rw [List.concat_eq_append, prs_snoc, lastEnd_snoc, sumC_snoc]
    simp only
    rw [hw]
    omega
theorem fitC_pre (most : Int) (cs : List (List Int)) : ∀ a, fitC most a cs <+: cs := by
  induction cs with
  | nil => intro a; exact List.prefix_refl _
  | cons c cs ih =>
    intro a
    simp only [fitC]
    split
    · exact List.nil_prefix
    · exact List.cons_prefix_cons.2 ⟨rfl, ih _⟩
theorem fitC_le (most : Int) (cs : List (List Int)) : ∀ a, fitC most a cs = [] ∨ a + sumC (fitC most a cs) ≤ most := by
  induction cs with
  | nil => intro a; exact .inl rfl
  | cons c cs ih =>
    intro a
    simp only [fitC]
    split
    · exact .inl rfl
    · next h =>
      right
      rw [sumC_cons]
      rcases ih (a + wc c) with h1 | h1
      · rw [h1]; simp [sumC]; omega
      · omega
theorem fitC_next (most : Int) (cs : List (List Int)) : ∀ a (h : (fitC most a cs).length < cs.length), most < a + sumC (fitC most a cs) + wc (cs[(fitC most a cs).length]) := by
  induction cs with
  | nil => intro a h; simp at h
  | cons c cs ih =>
    intro a h
    by_cases hm : most < a + wc c
    · have e : fitC most a (c :: cs) = [] := by simp [fitC, hm]
      simp only [e, List.length_nil, List.getElem_cons_zero, sumC, List.map_nil, List.sum_nil]
      omega
    · have e : fitC most a (c :: cs) = c :: fitC most (a + wc c) cs := by simp [fitC, hm]
      have hl : (fitC most (a + wc c) cs).length < cs.length := by rw [e] at h; simpa using h
      have := ih (a + wc c) hl
      simp only [e, List.length_cons, List.getElem_cons_succ, sumC_cons]
      omega
/-- what fits, on the way: k clusters are taken -/
theorem fitC_at (most : Int) (cs : List (List Int)) (k : Nat) (hk : k < cs.length) (h : fitC most 0 cs = cs.take k ++ fitC most (sumC (cs.take k)) (cs.drop k)) :
    (most < sumC (cs.take k) + wc cs[k] → fitC most 0 cs = cs.take k) ∧ (¬ most < sumC (cs.take k) + wc cs[k] → fitC most 0 cs = cs.take (k + 1) ++ fitC most (sumC (cs.take (k + 1))) (cs.drop (k + 1))) := by
  rw [List.drop_eq_getElem_cons hk] at h
  have ht : cs.take (k + 1) = cs.take k ++ [cs[k]] := List.take_succ_eq_append_getElem hk
  constructor
  · intro hm
    rw [h]
    simp [fitC, hm]
  · intro hm
    have e1 : fitC most (sumC (cs.take k)) (cs[k] :: cs.drop (k + 1)) = cs[k] :: fitC most (sumC (cs.take k) + wc cs[k]) (cs.drop (k + 1)) := by rw [fitC, if_neg hm]
    rw [h, e1, ht, sumC_snoc, List.append_assoc]
    rfl
end Go.Proofs.YtfjiogockpmogaaDoor

namespace Go.Proofs.YtfjiogockpmogaaDoor
open Go.RowKit Go.Shelf
attribute [local go_sem] Oper.semAt_some
set_option linter.unusedVariables false

/-- what Fit holds when the loop is left -/
def FitR (most : Int) (T : List (Int × List UInt8)) : List UInt8 × Int := ((txs (T.takeWhile (okP most))).flatten, lastEnd (T.takeWhile (okP most)))
/-- What a break leaves. -/
def FitX (h : Nat) (most : Int) (c : Code) (pre : List (Int × List UInt8)) (f : Nat → Prop) (W : World) : Prop :=
  ∃ p x, c = .exit 0 ∧ pre = p ++ [x] ∧ AllOk most p ∧ okP most x = false ∧ HoldB (h + 1) h (txs p).flatten f W ∧ Boxed W (h + 1 + 1) 3 (.int .i64 (lastEnd p))

end Go.Proofs.YtfjiogockpmogaaDoor

namespace Go.Proofs.YtfjiogockpmogaaDoor
open Go.RowKit Go.Shelf
set_option linter.unusedVariables false

def fl1 (b : UInt8) : UInt8 := if b = 9 ∨ b = 10 ∨ b = 13 then 32 else b
def mix (l : List UInt8) (k : Nat) : List UInt8 := (l.take k).map fl1 ++ l.drop k
theorem mix_zero (l : List UInt8) : mix l 0 = l := by simp [mix]
theorem mix_end (l : List UInt8) (k : Nat) (h : l.length ≤ k) : mix l k = l.map fl1 := by
  unfold mix; rw [List.take_of_length_le h, List.drop_eq_nil_of_le h, List.append_nil]
theorem mix_length (l : List UInt8) (k : Nat) : (mix l k).length = l.length := by simp [mix]; omega
theorem mix_at (l : List UInt8) (k : Nat) (h : k < l.length) : (mix l k)[k]? = some l[k] := by
  unfold mix
  rw [List.getElem?_append_right (by simp; omega)]
  simp
  rw [Nat.min_eq_left (by omega)]
  simp [h]
theorem mix_succ (l : List UInt8) (k : Nat) (h : k < l.length) : mix l (k + 1) = (mix l k).set k (fl1 l[k]) := by
  unfold mix
  have e : (l.drop k).set (k - ((l.take k).map fl1).length) (fl1 l[k]) = fl1 l[k] :: l.drop (k + 1) := by
    have h0 : k - ((l.take k).map fl1).length = 0 := by simp; omega
    rw [h0, List.drop_eq_getElem_cons h]; rfl
  rw [List.take_succ_eq_append_getElem h, List.map_append, List.set_append_right _ _ (by simp; omega), e]
  simp
theorem fl1_no (b : UInt8) (h1 : (b.toNat : Int) ≠ 9) (h2 : (b.toNat : Int) ≠ 10) (h3 : (b.toNat : Int) ≠ 13) : fl1 b = b := by
  unfold fl1
  rw [if_neg]
  rintro (h | h | h) <;> subst h <;> simp at h1 h2 h3
theorem fl1_yes (b : UInt8) (h : (b.toNat : Int) = 9 ∨ (b.toNat : Int) = 10 ∨ (b.toNat : Int) = 13) : fl1 b = 32 := by
  unfold fl1
  rw [if_pos]
  rcases h with h | h | h
  · exact .inl (UInt8.toNat_inj.1 (by simp; omega))
  · exact .inr (.inl (UInt8.toNat_inj.1 (by simp; omega)))
  · exact .inr (.inr (UInt8.toNat_inj.1 (by simp; omega)))
theorem mix_keep (l : List UInt8) (k : Nat) (h : k < l.length) (he : fl1 l[k] = l[k]) : mix l (k + 1) = mix l k := by
  rw [mix_succ l k h, he]
  refine List.ext_getElem? fun j => ?_
  rw [List.getElem?_set]
  split
  · next e => subst e; rw [if_pos (by rw [mix_length]; exact h), mix_at l k h]
  · rfl

/-- A row that may be written. -/
def Wr (w : World) (g : Nat) (l : List UInt8) : Prop := (∀ j u, (bv l)[j]? = some u → w.cell? ⟨g, j, none⟩ = some u) ∧ ∀ j, j < l.length → w.frozen? ⟨g, j, none⟩ = false
theorem Wr.set {w : World} {g : Nat} {l : List UInt8} (h : Wr w g l) (k : Nat) (hk : k < l.length) (b : UInt8) : Wr (w.setCell ⟨g, k, none⟩ (.int .u8 b.toNat)) g (l.set k b) := by
  refine ⟨fun j u hu => ?_, fun j hj => ?_⟩
  · have hj : j < l.length := by have := (List.getElem?_eq_some_iff.1 hu).1; simpa [bv] using this
    by_cases e : k = j
    · subst e
      have : (l.set k b)[k]? = some b := by simp [hk]
      simp only [bv, List.getElem?_map, this] at hu
      have hc := h.1 k _ (bv_get hk)
      rw [World.cell?_setCell_same' _ _ _ (by rw [hc]; rfl)]
      exact hu
    · rw [World.cell?_setCell_other _ _ _ _ (by simp <;> omega)]
      refine h.1 j u ?_
      simp only [bv, List.getElem?_map, List.getElem?_set, if_neg e] at hu ⊢
      exact hu
  · rw [World.frozen?_setCell]
    exact h.2 j (by simpa using hj)
theorem Wr.sl {w : World} {g : Nat} {l : List UInt8} (h : Wr w g l) : Sl w (g + 1) (some ⟨g, 0, none⟩) (bv l) := .inr ⟨g, 0, rfl, by omega, fun j u hu => by rw [Nat.zero_add]; exact h.1 j u hu⟩
theorem Wr.new (w : World) (s : ByteArray) (c : Nat) (hc : s.size ≤ c) (t : TypeId) (fr : Nat × Nat) (hfr : c ≤ fr.1) : Wr (w.alloc (.cells (bytesRow s c) t fr)) w.heap.size s.data.toList := by
  refine ⟨fun j u hu => ?_, fun j hj => ?_⟩
  · have := sl_bytesRow w s c t fr
    rcases this with h | ⟨b, off, hb, _, hcell⟩
    · rw [h] at hu; simp at hu
    · injection hb with hb
      injection hb with h1 h2
      subst h1; subst h2
      have := hcell j u hu
      rwa [Nat.zero_add] at this
  · obtain ⟨lo, hi⟩ := fr
    rw [World.frozen?_alloc_mark]
    have : j < s.size := by simpa using hj
    simp at hfr ⊢
    omega

/-- '[]byte(s)', a row that may be written. -/
theorem run_bytes_wr (w : World) (s : ByteArray) (hs : s.size ≤ maxLen) : ∃ c w', Sem.run Tryd.prog (Go.convert 9 83 (.string s)) w = .ok (.slice (some ⟨w.heap.size, 0, none⟩) s.size c) w' ∧ s.size ≤ c ∧ c ≤ maxLen ∧ Wr w' w.heap.size s.data.toList ∧ Below w.heap.size w w' ∧ w.heap.size < w'.heap.size := by
  have hge := grownCap_ge w s.size 0 5
  refine ⟨grownCap w s.size 0 5, _, run_bytes_of_string w 9 83 5 s Tryd.underlying9 Tryd.underlying83 Tryd.underlying5, hge, grownCap_le_maxLen _ _ _ _ hs, ?_, ((Below.refl _ _).drew).alloc (Nat.le_refl _) _, ?_⟩
  · have := Wr.new w.drew s (grownCap w s.size 0 5) hge 5 ((bytesRow s (grownCap w s.size 0 5)).size, (bytesRow s (grownCap w s.size 0 5)).size + 1) (by simp [bytesRow]; have : s.data.size = s.size := rfl; omega)
    exact this
  · show w.heap.size < (w.drew.alloc _).heap.size
    rw [World.size_alloc]
    exact Nat.lt_succ_self _

def flatB (l : List UInt8) : List UInt8 := cleanB (l.map fl1)

set_option maxRecDepth 100000 in
set_option maxHeartbeats 2000000 in
theorem cflat_any (s : ByteArray) (hs : s.size ≤ 4000000) (w : World) (hT : Tabs w) :
    Calls Tryd.prog 61 #[.string s] w fun e w' => e = .returned (.string ⟨(flatB s.data.toList).toArray⟩) ∧ Below w.heap.size w w' := by
  have HT := Lib.hid hT
  clear hT
  obtain ⟨c, w1, hcv, hc1, hc2, hw, hb1, hz1⟩ := run_bytes_wr w s (by simp only [maxLen]; omega)
  generalize hL : s.data.toList = L at hw
  have hLs : L.length = s.size := by rw [← hL]; rfl
  have HL := Lib.hid hL
  have HLS := Lib.hid hLs
  have HW := Lib.hid hw
  clear hL hLs hw hc1 hc2
  go_enter Tryd.func61, Tryd.ntmps61
  go_wp2
  clear hcv
  go_loopw [10] (fun i wr => ∃ k : Nat, k ≤ s.size ∧ i = .int .i64 k ∧ Wr wr w.heap.size (mix L k) ∧ Below w.heap.size w wr ∧ w1.heap.size ≤ wr.heap.size) (fun i _ => s.size - (intOf i).toNat)
  case atStart => exact ⟨0, by omega, rfl, by rw [mix_zero]; exact HW.out, hb1, Nat.le_refl _⟩
  case round =>
    obtain ⟨k, hk, rfl, hwr, hbw, hzz⟩ := hrel
    have HWR := Lib.hid hwr
    by_cases hlt : k < s.size
    · have hkl : k < L.length := by have := HLS.out; omega
      have hlt' : (k : Int) < (s.size : Int) := by omega
      have hcell := hwr.1 k (.int .u8 L[k].toNat) (by simp only [bv, List.getElem?_map, mix_at L k hkl]; rfl)
      have hfz := hwr.2 k (by rw [mix_length]; exact hkl)
      have hno := fl1_no L[k]
      have hyes := fl1_yes L[k]
      have hkeep := mix_keep L k hkl
      have hsucc := mix_succ L k hkl
      have hset := hwr.set k (by rw [mix_length]; exact hkl) 32
      generalize L[k] = b at hcell hno hyes hkeep hsucc
      have HNO := Lib.hid hno
      have HYES := Lib.hid hyes
      have HKE := Lib.hid hkeep
      have HSU := Lib.hid hsucc
      have HSE := Lib.hid hset
      clear hno hyes hkeep hsucc hset hwr
      have hbu : 0 ≤ (b.toNat : Int) := by omega
      by_cases h9 : (b.toNat : Int) = 9
      · have HS2 : Hid (mix L (k + 1) = (mix L k).set k 32) := by rw [HSU.out, HYES.out (.inl h9)]; simp [Hid]
        rw [h9] at hcell
        clear h9
        go_wp2
        go_roundw
        case rel => exact ⟨k + 1, by omega, by go_num, by rw [HS2.out]; exact HSE.out, hbw.setCell (p := ⟨w.heap.size, k, none⟩) (Nat.le_refl _) _, by have := (KeepsWalks.setCell wr ⟨w.heap.size, k, none⟩ (.int .u8 32)).size; omega⟩
        case measure => simp [intOf]; omega
      · have hd9 : ((b.toNat : Int) == 9) = false := by simp; omega
        by_cases h10 : (b.toNat : Int) = 10
        · have HS2 : Hid (mix L (k + 1) = (mix L k).set k 32) := by rw [HSU.out, HYES.out (.inr (.inl h10))]; simp [Hid]
          rw [h10] at hcell
          clear h10 h9 hd9
          go_wp2
          go_roundw
          case rel => exact ⟨k + 1, by omega, by go_num, by rw [HS2.out]; exact HSE.out, hbw.setCell (p := ⟨w.heap.size, k, none⟩) (Nat.le_refl _) _, by have := (KeepsWalks.setCell wr ⟨w.heap.size, k, none⟩ (.int .u8 32)).size; omega⟩
          case measure => simp [intOf]; omega
        · have hd10 : ((b.toNat : Int) == 10) = false := by simp; omega
          by_cases h13 : (b.toNat : Int) = 13
          · have HS2 : Hid (mix L (k + 1) = (mix L k).set k 32) := by rw [HSU.out, HYES.out (.inr (.inr h13))]; simp [Hid]
            rw [h13] at hcell
            clear h13 h10 h9 hd9 hd10
            go_wp2
            go_roundw
            case rel => exact ⟨k + 1, by omega, by go_num, by rw [HS2.out]; exact HSE.out, hbw.setCell (p := ⟨w.heap.size, k, none⟩) (Nat.le_refl _) _, by have := (KeepsWalks.setCell wr ⟨w.heap.size, k, none⟩ (.int .u8 32)).size; omega⟩
            case measure => simp [intOf]; omega
          · have hd13 : ((b.toNat : Int) == 13) = false := by simp; omega
            have HS2 : Hid (mix L (k + 1) = mix L k) := HKE.out (HNO.out h9 h10 h13)
            clear h13 h10 h9
            go_wp2
            go_roundw
            case rel => exact ⟨k + 1, by omega, by go_num, by rw [HS2.out]; exact HWR.out, hbw, hzz⟩
            case measure => simp [intOf]; omega
    · have hge : ¬ (k : Int) < (s.size : Int) := by omega
      rw [mix_end L k (by have := HLS.out; omega)] at hwr
      have hcv2 := run_str_sl wr (w.heap.size + 1) (some ⟨w.heap.size, 0, none⟩) s.size c (L.map fl1) hwr.sl (by have := HLS.out; simp; omega)
      have hsz2 : (⟨(L.map fl1).toArray⟩ : ByteArray).size ≤ 4000000 := by rw [size_mk]; have := HLS.out; simp; omega
      have hTr := HT.out.below hbw
      clear hwr HWR
      go_wp2_with (go_at_call 76; refine (cclean_any _ (Nat.le_trans hsz2 (by decide)) _ hTr).mono ?_; rintro e w2 ⟨rfl, hb2⟩)
      go_ret
      exact ⟨rfl, hbw.trans (hb2.mono hbw.size)⟩

/-- what Join comes to -/
def joinB (l : List UInt8) (r : Int) : List UInt8 × Bool := if isC l = true ∧ mkB r = true ∧ l.length + (e4 r).length ≤ 64 then (l ++ e4 r, true) else (l, false)

theorem ret_str2 {a b : ByteArray} {c : Bool} (h : a = b) : Ending.returned (.tuple #[.string a, .bool c]) = .returned (.tuple #[.string b, .bool c]) := by rw [h]
theorem ret_sb {a b : List UInt8} {c d : Bool} (h : a = b) (g : c = d) : Ending.returned (.tuple #[.string ⟨a.toArray⟩, .bool c]) = .returned (.tuple #[.string ⟨b.toArray⟩, .bool d]) := by rw [h, g]

end Go.Proofs.YtfjiogockpmogaaDoor

