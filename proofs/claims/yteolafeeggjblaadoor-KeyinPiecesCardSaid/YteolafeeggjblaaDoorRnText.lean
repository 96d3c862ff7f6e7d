/-
  Walks: runes.Text.
-/
import Derived.Test.YteolafeeggjblaaDoorRnAll
import Derived.Test.YteolafeeggjblaaDoorRnBytes
import Derived.Test.YteolafeeggjblaaDoorU8
namespace Go.Proofs.YteolafeeggjblaaDoor
open Go.RowKit Go.Shelf
attribute [local go_sem] Oper.semAt_some
set_option linter.unusedVariables false

/-- the encodings of runes, one behind the other -/
def txt (xs : List (Nat × Int)) : List UInt8 := xs.flatMap fun x => enc (rfix x.2)
theorem txt_snoc (xs : List (Nat × Int)) (x : Nat × Int) : txt (xs ++ [x]) = txt xs ++ enc (rfix x.2) := by simp [txt]
theorem txt_le (xs : List (Nat × Int)) : (txt xs).length ≤ 4 * xs.length := by
  induction xs with
  | nil => simp [txt]
  | cons x xs ih =>
    have h := enc_le (rfix x.2)
    simp [txt] at ih ⊢
    omega

/-- An append inside a region that draws its order, inside a round. -/
theorem stepIn_app_u8 {F : Fence} {N : Nat} {ops : Array Oper} {o : Oper} {a : Act} {w : World} {K : Act → World → Prop} {Q : Exit → Act → World → Prop} {E : Prop} (hgd : o.guard = none) (s x : Operand)
    (ho : o.op = .call { callee := .builtin .append, args := #[s, x], argTypes := #[22, 22] }) (vs vx v' : Value) (w' : World) (hs : a.eval s = vs) (hx : a.eval x = vx)
    (hrun : (Builtin.append_ #[22, 22] o.type #[vs, vx]).run Tryd.prog w = .ok v' w') (h : K (a.put o.dst v') w') :
    if Region.wanted o (yielded ops a.tmps) = true then Oper.wpIn F N Tryd.prog o a w K Q else E := by
  have hw : Region.wanted o (yielded ops a.tmps) = true := by simp [Region.wanted, hgd]
  rw [if_pos hw]
  unfold Oper.wpIn
  refine ⟨?_, ?_⟩
  · simp [Oper.about, ho, resolve, Target.leads, Sem.run_pure]
  · rw [Oper.semAt_plain F _ _ (by rw [ho]; intro c hc'; cases hc')]
    simp [execOp, ho, resolve, invoke, builtin, hs, hx, hrun, Result.andThen]
    exact h

set_option maxRecDepth 100000 in
set_option maxHeartbeats 2000000 in
theorem text_any (A : Option Addr) (n cap : Nat) (l : List UInt8) (B : Nat) (w : World) (hn : n = l.length) (hm : l.length ≤ 100000) (hS : Sl w B A (bv l)) (hB : B ≤ w.heap.size) :
    Calls Tryd.prog 59 #[.slice A n cap] w fun e w' => e = .returned (.string ⟨(txt (rnsOf l)).toArray⟩) ∧ Below w.heap.size w w' := by
  subst hn
  obtain ⟨i0, hi0, hz0, hz1, hz2⟩ := info_parts u8_info
  have I0 := Lib.hid hi0
  have Z0 := Lib.hid hz0
  have Z1 := Lib.hid hz1
  have Z2 := Lib.hid hz2
  have HS := Lib.hid hS
  clear hi0 hz0 hz1 hz2 hS
  refine (callsIn_wide (n := 5)).1 ?_
  refine callsIn_of_wp_marks Tryd.func59 rfl trivial ?_ rfl
  simp only [Tryd.ntmps59, List.size_toArray, List.length_cons, List.length_nil, Nat.reduceAdd, Nat.reduceSub, Array.replicate_succ, Array.replicate_zero, List.push_toArray, List.append_toArray, List.nil_append, List.cons_append]
  refine wpIn_wide.2 ?_
  go_wp2_with (first
    | (at_make
       go_loud (refine wpList_make_own _ rfl (.const (.int .i64 0)) (.tmp 7) 22 rfl w.heap.size 5 i0 _ 1 Tryd.underlying22 I0.out Z0.out Z1.out .i64 .i64 (l.length : Int) l.length rfl rfl rfl (by rw [Z2.out]; omega) (by simp only [maxLen]; omega) (Nat.le_refl _) ?_)
       intro w1 hown1 hg1
       have hb1 : Below w.heap.size w w1 := (Below.refl _ _).grown hg1 (Nat.le_refl _) (fun k h => by cases h)
       have hcv := fun o => run_str_sl (w1.alloc o) B A l.length cap l ((HS.out.below (hb1.mono hB)).alloc (by have := hb1.size; omega) o) rfl)
    | (go_at_call 72; refine (all_any _ _).mono ?_; rintro e w' ⟨rfl, rfl⟩))
  clear hcv
  refine (wpIn_wide (n := 5)).1 ?_
  have hs1 := hb1.size
  generalize hbv : Value.slice (some ⟨w.heap.size, 0, none⟩) 0 l.length = v0 at hown1 ⊢
  have hv0 : ∃ A c, v0 = .slice A 0 c ∧ (A = none → c = 0) := ⟨_, _, hbv.symm, fun h => by cases h⟩
  have hX := (Boxed.new w1 22 v0).alloc (.cells #[.string ⟨l.toArray⟩] 9)
  have hY := Boxed.new (w1.alloc (.cells #[v0] 22)) 9 (.string ⟨l.toArray⟩)
  rw [World.size_alloc] at hY
  have hb2 : Below w.heap.size w ((w1.alloc (.cells #[v0] 22)).alloc (.cells #[.string ⟨l.toArray⟩] 9)) := (hb1.alloc hs1 _).alloc (by simp; omega) _
  have hown2 := (hown1.alloc (.cells #[v0] 22)).alloc (.cells #[.string ⟨l.toArray⟩] 9)
  have hstr : (⟨l.toArray⟩ : ByteArray).size ≤ 1000000 := by show l.toArray.size ≤ _; simp; omega
  have hdat : (⟨l.toArray⟩ : ByteArray).data.toList = l := rfl
  refine wpIn_rangeFunc_ownG rfl (by omega) (gf := 85) (lb := #[.pointer (some ⟨w1.heap.size + 1, 0, none⟩)]) rfl trivial (enters_of Tryd.func85 (by kernel_rfl) rfl)
    (all_stops 4 (by omega) (w1.heap.size + 1) w.heap.size ⟨l.toArray⟩ hstr _ hY.cell) KpS.t (KpS.b (by simp; omega)) (Below.refl _ _) (fun _ => rfl)
    (fun pre W => ((∃ v, Boxed W w1.heap.size 22 v ∧ W.ownsRow w.heap.size 5 1 v (txt pre).length (bv (txt pre)) ∧ (∃ A c, v = .slice A (txt pre).length c ∧ (A = none → c = 0))) ∧ Boxed W (w1.heap.size + 1) 9 (.string ⟨l.toArray⟩)) ∧ Below w.heap.size w W)
    (fun _ _ _ => False)
    (OwnFrom.and (OwnFrom.and (Own.from (holdsRow_own w.heap.size w1.heap.size 22 5 1 (fun pre => (txt pre).length) (fun pre => bv (txt pre)) (fun pre v => ∃ A c, v = .slice A (txt pre).length c ∧ (A = none → c = 0))) _) (Own.from (boxed_own (w1.heap.size + 1) 9 (fun _ => .string ⟨l.toArray⟩)) _)) (ownFrom_below (Nat.le_refl _) (by simp; omega)))
    (fun _ _ _ _ _ hs _ _ => hs)
    ⟨⟨⟨v0, hX, hown2, hv0⟩, hY⟩, hb2⟩
    (fun x => { tmps := #[.slice A l.length cap, undef, .string ⟨#[]⟩, .pointer (some ⟨w1.heap.size, 0, none⟩), undef, .int .i32 x.2, .slice A l.length cap, .int .i64 l.length, v0, .slice A l.length cap, .string ⟨l.toArray⟩, .func (.func 85) #[] #[.pointer (some ⟨w1.heap.size + 1, 0, none⟩)], .int .i64 x.1, .int .i32 x.2, undef, undef, undef, undef, undef, undef], defers := [] }) ?assign ?body ?done ?stop
  case assign =>
    intro l x W K hK
    simp only [encR]
    rw [put_two]
    gi_wp2
    exact hK
  case body =>
    rintro lo pre x W ⟨⟨⟨v, hv, hrow, A', c', rfl, hnil⟩, hstr⟩, hbW⟩ hlen
    gi_wp2
    have hx4 := enc_le (rfix x.2)
    have hpl : (txt pre).length ≤ 400000 := by
      have := txt_le pre
      have h2 : pre.length ≤ 100000 := by have : l.toArray.size = l.length := by simp
                                          have h3 : (⟨l.toArray⟩ : ByteArray).size = l.toArray.size := rfl
                                          omega
      omega
    have hsW : w.heap.size ≤ W.heap.size := hbW.size
    have hOB : OB (W.alloc (.cells (bv (enc (rfix x.2))).toArray 5)).drew w.heap.size A' (txt pre).length c' (txt pre) := (OB.alloc ⟨hrow, hnil⟩ _).drew
    have hSn : Sl (W.alloc (.cells (bv (enc (rfix x.2))).toArray 5)).drew (W.heap.size + 1) (some ⟨W.heap.size, 0, none⟩) (bv (enc (rfix x.2))) := by
      have := Sl.new W (bv (enc (rfix x.2))).toArray 5
      exact this.drew
    obtain ⟨A2, c2, w2, hrun, hO2, hg2, hat2⟩ := run_app_u8 (W.alloc (.cells (bv (enc (rfix x.2))).toArray 5)).drew 22 w.heap.size A' (txt pre).length c' (txt pre) hOB (some ⟨W.heap.size, 0, none⟩) (enc (rfix x.2)).length (enc (rfix x.2)).length (enc (rfix x.2)) (W.heap.size + 1) hSn rfl (fun h => by cases h) _ rfl (by omega) (by show w.heap.size ≤ (W.alloc _).heap.size; simp; omega)
    have hg2' : (W.alloc (.cells (bv (enc (rfix x.2))).toArray 5)).grownBy w2 (Value.slice A' (txt pre).length c').ownBlock := by
      rw [ownBlock_slice]
      exact ⟨hg2.os, hg2.tape, hg2.output, hg2.size, hg2.block⟩
    obtain ⟨hv2, hv3, hr3, hk3, hb3⟩ := hv.appended (by decide) hrow hsW hs1 hO2.1 hg2'
    have hstr3 := ((hstr.alloc (.cells (bv (enc (rfix x.2))).toArray 5)).kept hg2' (hstr.not_row (by decide) hrow)).other (B' := w1.heap.size) (by omega) (.slice A2 ((txt pre).length + (enc (rfix x.2)).length) c2)
    have hvc := hv.cell
    have hv2c := hv2.cell
    have hv2f := hv2.frozen
    have hmx : Tryd.prog.follows .mixedOrders = true := by kernel_rfl
    have HR := Lib.hid hrun
    clear hrun
    refine wpIn_region_any hmx ?_
    change wpAnyIn _ _ _ _ _ _ _ _ _ W.drew
    refine wpAnyIn_ready (rs := [0, 1]) (by kernel_rfl) (by simp) ?_
    have hvc2 : ∀ o, (W.alloc o).cell? ⟨w1.heap.size, 0, none⟩ = some (.slice A' (txt pre).length c') := fun o => (hv.alloc o).cell
    refine AllReadyIn.cons rfl (fun K hK => ?_) (AllReadyIn.cons rfl (fun K hK => ?_) AllReadyIn.nil)
    · go_simp
      refine hK _ _ ?_
      clear hK K
      refine wpAnyIn_ready (rs := [1]) (by kernel_rfl) (by simp) ?_
      refine AllReadyIn.cons rfl (fun K hK => ?_) AllReadyIn.nil
      go_simp
      refine hK _ _ ?_
      clear hK K
      refine wpAnyIn_ready (rs := [2]) (by kernel_rfl) (by simp) ?_
      refine AllReadyIn.cons rfl (fun K hK => ?_) AllReadyIn.nil
      go_simp
      refine ⟨trivial, (CallsIn.inRound lo (callsIn_wide.2 (bytes_any _ _))).mono ?_⟩
      rintro e w' ⟨rfl, rfl⟩
      refine hK _ _ ?_
      clear hK K
      refine wpAnyIn_ready (rs := [3]) (by kernel_rfl) (by simp) ?_
      refine AllReadyIn.cons rfl (fun K hK => ?_) AllReadyIn.nil
      refine stepIn_app_u8 rfl (.tmp 14) (.tmp 16) rfl _ _ _ _ rfl rfl HR.out ?_
      refine hK _ _ ?_
      clear hK K
      refine wpAnyIn_ready (rs := [4]) (by kernel_rfl) (by simp) ?_
      refine AllReadyIn.cons rfl (fun K hK => ?_) AllReadyIn.nil
      go_simp
      refine hK _ _ ?_
      clear hK K
      refine wpAnyIn_done (by kernel_rfl) ?_ _
      refine ⟨hk3.from _, ⟨hb3, fun _ => hstr3.cell⟩, ⟨⟨_, hv3, ?_, A2, c2, ?_, hO2.2⟩, hstr3⟩, hbW.trans hb3⟩
      · rw [txt_snoc, List.length_append]; exact hr3
      · rw [txt_snoc, List.length_append]
    · go_simp
      refine hK _ _ ?_
      clear hK K
      refine wpAnyIn_ready (rs := [0, 2]) (by kernel_rfl) (by simp) ?_
      refine AllReadyIn.cons rfl (fun K hK => ?_) (AllReadyIn.cons rfl (fun K hK => ?_) AllReadyIn.nil)
      · go_simp
        refine hK _ _ ?_
        clear hK K
        refine wpAnyIn_ready (rs := [2]) (by kernel_rfl) (by simp) ?_
        refine AllReadyIn.cons rfl (fun K hK => ?_) AllReadyIn.nil
        go_simp
        refine ⟨trivial, (CallsIn.inRound lo (callsIn_wide.2 (bytes_any _ _))).mono ?_⟩
        rintro e w' ⟨rfl, rfl⟩
        refine hK _ _ ?_
        clear hK K
        refine wpAnyIn_ready (rs := [3]) (by kernel_rfl) (by simp) ?_
        refine AllReadyIn.cons rfl (fun K hK => ?_) AllReadyIn.nil
        refine stepIn_app_u8 rfl (.tmp 14) (.tmp 16) rfl _ _ _ _ rfl rfl HR.out ?_
        refine hK _ _ ?_
        clear hK K
        refine wpAnyIn_ready (rs := [4]) (by kernel_rfl) (by simp) ?_
        refine AllReadyIn.cons rfl (fun K hK => ?_) AllReadyIn.nil
        go_simp
        refine hK _ _ ?_
        clear hK K
        refine wpAnyIn_done (by kernel_rfl) ?_ _
        refine ⟨hk3.from _, ⟨hb3, fun _ => hstr3.cell⟩, ⟨⟨_, hv3, ?_, A2, c2, ?_, hO2.2⟩, hstr3⟩, hbW.trans hb3⟩
        · rw [txt_snoc, List.length_append]; exact hr3
        · rw [txt_snoc, List.length_append]
      · go_simp
        refine ⟨trivial, (CallsIn.inRound lo (callsIn_wide.2 (bytes_any _ _))).mono ?_⟩
        rintro e w' ⟨rfl, rfl⟩
        refine hK _ _ ?_
        clear hK K
        change wpAnyIn _ _ _ _ _ _ _ _ _ (W.alloc (.cells (bv (enc (rfix x.2))).toArray 5)).drew
        refine wpAnyIn_ready (rs := [0]) (by kernel_rfl) (by simp) ?_
        refine AllReadyIn.cons rfl (fun K hK => ?_) AllReadyIn.nil
        go_simp
        refine hK _ _ ?_
        clear hK K
        refine wpAnyIn_ready (rs := [3]) (by kernel_rfl) (by simp) ?_
        refine AllReadyIn.cons rfl (fun K hK => ?_) AllReadyIn.nil
        refine stepIn_app_u8 rfl (.tmp 14) (.tmp 16) rfl _ _ _ _ rfl rfl HR.out ?_
        refine hK _ _ ?_
        clear hK K
        refine wpAnyIn_ready (rs := [4]) (by kernel_rfl) (by simp) ?_
        refine AllReadyIn.cons rfl (fun K hK => ?_) AllReadyIn.nil
        go_simp
        refine hK _ _ ?_
        clear hK K
        refine wpAnyIn_done (by kernel_rfl) ?_ _
        refine ⟨hk3.from _, ⟨hb3, fun _ => hstr3.cell⟩, ⟨⟨_, hv3, ?_, A2, c2, ?_, hO2.2⟩, hstr3⟩, hbW.trans hb3⟩
        · rw [txt_snoc, List.length_append]; exact hr3
        · rw [txt_snoc, List.length_append]
  case done =>
    rintro D ys W hD rfl ⟨⟨⟨v, hv, hrow, A', c', rfl, hnil⟩, hstr⟩, hbW⟩ hK
    have hvc := hv.cell
    have hcs := run_str_sl W W.heap.size A' (txt (rnsOf l)).length c' (txt (rnsOf l)) (Sl.own hrow) rfl
    go_wp2
    refine ⟨by simp, .inl ⟨_, _, rfl, run_takeDeferred hK, ?_⟩⟩
    exact ⟨_, results_tmp rfl _ _ _, rfl, hbW.trans (belowK_b (w := w) (Nat.le_refl _) W D _ _ (by simp at hD; omega) hK rfl rfl)⟩
  case stop =>
    rintro D c pre W _ _ h _
    exact h.elim
end Go.Proofs.YteolafeeggjblaaDoor
