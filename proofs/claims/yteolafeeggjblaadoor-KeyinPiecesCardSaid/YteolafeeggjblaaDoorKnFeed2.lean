/-
  Walks: Feed of a decoder that was made; Feed and One of one that nobody made.
-/
import Derived.Test.YteolafeeggjblaaDoorKnFeed
namespace Go.Proofs.YteolafeeggjblaaDoor
open Go.RowKit Go.Shelf Go.Sort
attribute [local go_sem] Oper.semAt_some
set_option linter.unusedVariables false
set_option linter.unusedSimpArgs false

/-- An append whose run is known, in a round. -/
theorem wpListIn_app {F : Fence} {n : Nat} {ops : Array Oper} {rest : List Oper} {o : Oper} {a : Act} {w : World} {Q : Exit → Act → World → Prop} (T U : TypeId) (hgd : o.guard = none) (s x : Operand)
    (ho : o.op = .call { callee := .builtin .append, args := #[s, x], argTypes := #[T, U] }) (vs vx v' : Value) (w' : World) (hs : a.eval s = vs) (hx : a.eval x = vx)
    (hrun : (Builtin.append_ #[T, U] o.type #[vs, vx]).run Tryd.prog w = .ok v' w') (h : wpListIn F n Tryd.prog ops Q rest (a.put o.dst v') w') : wpListIn F n Tryd.prog ops Q (o :: rest) a w := by
  refine wpListIn_plain hgd fun K hK' => ?_
  unfold Oper.wpIn
  refine ⟨?_, ?_⟩
  · simp [Oper.about, ho, resolve, Target.leads, Sem.run_pure]
  · rw [Oper.semAt_plain F _ _ (by rw [ho]; intro c hc'; cases hc')]
    simp [execOp, ho, resolve, invoke, builtin, hs, hx, hrun, Result.andThen]
    exact hK' _ _ h

theorem kc_len : ∀ (ks : List Kv), (ks.flatMap Kv.cells).length = ks.length * 6
  | [] => rfl
  | k :: t => by rw [List.flatMap_cons, List.length_append, kc_len t, Kv.len, List.length_cons]; omega

set_option maxRecDepth 100000 in
set_option maxHeartbeats 8000000 in
theorem feed_any (D : Nat) (O : Nat → Prop) (d : KD) (A : Option Addr) (n c : Nat) (L : List UInt8) (w : World) (hn : n = L.length) (hL : d.B.length + L.length ≤ 90000) (hd : DAt w D O d) (hby : ByL w A L) (hA : ∀ g, blk (blA L A) = some g → ¬ O g) :
    Calls Tryd.prog 8 #[.pointer (some ⟨D, 0, none⟩), .slice A n c] w fun e w' => ∃ v O', e = .returned v ∧ KRowN w.heap.size w' v (feedK d L).2 ∧ DAt w' D O' (feedK d L).1 ∧ (∀ j, O' j → O j ∨ w.heap.size ≤ j) ∧ Chg O w w' := by
  subst hn
  have HD := Lib.hid hd
  have HBY := Lib.hid hby
  have HA := Lib.hid hA
  have hlt := hd.2.1
  clear hd hby hA
  obtain ⟨i0, hi0, hz0, hz1, hz2⟩ := info_parts kv_info
  refine (callsIn_wide (n := 9)).1 ?_
  refine callsIn_of_wp_marks Tryd.func8 rfl trivial ?_ rfl
  simp only [Tryd.ntmps8, List.size_toArray, List.length_cons, List.length_nil, Nat.reduceAdd, Nat.reduceSub, Array.replicate_succ, Array.replicate_zero, List.push_toArray, List.append_toArray, List.nil_append, List.cons_append]
  refine wpIn_wide.2 ?_
  go_wp2_with (go_at_call 19; refine (taken_any _ _ _ _ _).mono ?_; rintro e w' ⟨rfl, rfl⟩)
  refine (wpIn_wide (n := 9)).1 ?_
  have hX := ((Boxed.new w 26 (.slice none 0 0)).alloc (.cells #[.pointer (some ⟨D, 0, none⟩)] 24)).alloc (.cells #[.slice A L.length c] 22)
  have hY := (Boxed.new (w.alloc (.cells #[.slice none 0 0] 26)) 24 (.pointer (some ⟨D, 0, none⟩))).alloc (.cells #[.slice A L.length c] 22)
  have hZ := Boxed.new ((w.alloc (.cells #[.slice none 0 0] 26)).alloc (.cells #[.pointer (some ⟨D, 0, none⟩)] 24)) 22 (.slice A L.length c)
  simp only [World.size_alloc] at hY hZ
  have hb0 : Below w.heap.size w (((w.alloc (.cells #[.slice none 0 0] 26)).alloc (.cells #[.pointer (some ⟨D, 0, none⟩)] 24)).alloc (.cells #[.slice A L.length c] 22)) := (((Below.refl _ w).alloc (Nat.le_refl _) _).alloc (by simp) _).alloc (by simp; omega) _
  have hsz : (((w.alloc (.cells #[.slice none 0 0] 26)).alloc (.cells #[.pointer (some ⟨D, 0, none⟩)] 24)).alloc (.cells #[.slice A L.length c] 22)).heap.size = w.heap.size + 3 := by simp
  have hZ := hZ
  generalize hw2 : ((w.alloc (.cells #[.slice none 0 0] 26)).alloc (.cells #[.pointer (some ⟨D, 0, none⟩)] 24)).alloc (.cells #[.slice A L.length c] 22) = w2 at hX hY hZ hb0 hsz ⊢
  clear hw2
  have hfix : ∀ k, fixB (w.heap.size + 1) (w.heap.size + 1 + 1) (blA L A) k → ¬ O k ∧ k < w2.heap.size := fun k hk => by
    rcases hk with rfl | rfl | hk
    · exact ⟨fun h => by have := hlt _ h; omega, by omega⟩
    · exact ⟨fun h => by have := hlt _ h; omega, by omega⟩
    · exact ⟨HA.out k hk, by have := HBY.out.lt k hk; omega⟩
  have hd2 : DAt w2 D O d := HD.out.same (fun j hj => hb0.block j (hlt j hj)) hb0.size
  have hby2 : ByL w2 A L := HBY.out.same (fun g hg => hb0.block g (HBY.out.lt g hg))
  have hf0 : ∀ k, O k ∨ fixB (w.heap.size + 1) (w.heap.size + 1 + 1) (blA L A) k → k < w2.heap.size := fun k hk => by
    rcases hk with hk | hk
    · have := hlt k hk; omega
    · exact (hfix k hk).2
  refine range_v rfl (by omega) (gf := 30) (lb := #[.pointer (some ⟨w.heap.size + 1, 0, none⟩), .pointer (some ⟨w.heap.size + 1 + 1, 0, none⟩)]) rfl trivial (enters_of Tryd.func30 (by kernel_rfl) rfl)
    (taken_stops D (w.heap.size + 1) (w.heap.size + 1 + 1) O d A L.length c L w2 rfl hL hd2 hby2 hY hZ hfix)
    (Nat.le_refl _) (fun k hk => ⟨hf0 k hk, rfl⟩) (fun _ => rfl) (fun x W l o o' _ ho hc h => elK_put x W l o o' ho hc h)
    (fun xs f W l o o' hl ho hc h => ⟨h.1.put o' (fun k hk => (hfix k hk).2) hl ho hc, h.2⟩) (fun xs f W l o o' hl ho hc h => h.put o' (fun k hk => (hfix k hk).2) hl ho hc)
    (FdI w O (fixB (w.heap.size + 1) (w.heap.size + 1 + 1) (blA L A)))
    (fun _ _ _ _ => False)
    (fdI_ab (by omega))
    (fun _ _ _ _ _ _ h _ _ => h)
    ⟨⟨none, 0, hX, World.ownsRow_nil _ _ _ _, fun _ => rfl, fun g hg => (by cases hg), fun h => by
      rcases h with h | h
      · have := hlt _ h; omega
      · rcases h with h | h | h
        · omega
        · omega
        · have := HBY.out.lt _ h; omega⟩, by simp [flK], Chg.of_below hb0, fun k hk => by
      rcases hk with hk | hk
      · exact .inl hk
      · exact .inr (.inl hk)⟩
    (fun x => { tmps := #[.pointer (some ⟨D, 0, none⟩), .slice A L.length c, undef, undef, .slice none 0 0, .pointer (some ⟨w.heap.size, 0, none⟩), undef, x.2.1, .pointer (some ⟨D, 0, none⟩), .slice A L.length c, .func (.func 30) #[] #[.pointer (some ⟨w.heap.size + 1, 0, none⟩), .pointer (some ⟨w.heap.size + 1 + 1, 0, none⟩)], .int .i64 x.1, x.2.1, undef, undef, undef, undef], defers := [] }) ?assign ?body ?done ?stop
  case assign =>
    intro l x W K hK
    simp only [encK]
    rw [put_two]
    gi_wp2
    exact hK
  case body =>
    rintro l pre x f W hf hz ⟨⟨A1, c1, hb, hr, hnl, hm, hnB⟩, hcn, hcg, hff⟩ hlen ⟨⟨A2, n2, c2, hv2, hn2, hs2, hnl2⟩, hk9⟩
    subst hn2
    rw [hv2]
    have hfs : ∀ k, f k → k < W.heap.size := fun k hk => by
      rcases hf k hk with h | h
      · have := hf0 k h; omega
      · exact h.2
    have hwz := hcg.size
    have hp9 : pre.length * 90001 ≤ 90000 * 90001 := Nat.mul_le_mul_right _ (by omega)
    obtain ⟨v5, w5, hrun, hO5, hg5, hat5⟩ := run_append_sl (P := Tryd.prog) W w.heap.size 26 26 40 i0 _ 6 40 Tryd.underlying26 hi0 hz0 hz1 hz2 rfl (by omega) (.slice A1 (flK pre).length c1) (flK pre).length _ hr W.heap.size A2 x.2.2.length c2 _ hs2 (kc_len _) hnl2 (fun u hu => by obtain ⟨k, _, hk⟩ := List.mem_flatMap.1 hu; exact Kv.one k u hk) (by simp only [maxLen]; omega) (by omega) (by omega)
    obtain ⟨A5, c5, rfl, hn5, _⟩ := own_of hO5
    rw [ownBlock_slice] at hg5 hat5
    rw [ownBlock_slice] at hat5
    obtain ⟨hH, hRk, hb5, hC5⟩ := holdK_app (lo := w2.heap.size) hfs hb hr hm hnB hO5 hn5 hg5 hat5
    have hc := hb.cell
    have hc5 := hb5.cell
    have hf5 := hb5.frozen
    have hA1 := fun j hj => (hr.lt j (by rw [ownBlock_slice]; exact hj)).1
    have HR := Lib.hid hrun
    have HH := Lib.hid hH
    have HRK := Lib.hid hRk
    have HCG : Hid (Chg (fun j => O j ∨ fixB (w.heap.size + 1) (w.heap.size + 1 + 1) (blA L A) j) w (w5.setCell ⟨w.heap.size, 0, none⟩ (.slice A5 ((flK pre).length + x.2.2.length) c5))) := Lib.hid (hcg.trans hC5 (fun j hj => by
      rcases hj with hj | rfl
      · exact .inr (hA1 j hj)
      · exact .inr (Nat.le_refl _)))
    have HFF := Lib.hid hff
    clear hrun hH hRk hC5 hcg hff hO5 hg5 hat5 hb5 hb hr hm hv2 hs2 hf hX hY hZ hb0 hfix hd2 hby2 hf0 hfs
    gi_wp2_with (gi_at_builtin; refine wpListIn_app 26 26 rfl (.tmp 13) (.tmp 14) rfl _ _ _ _ rfl rfl HR.out ?_)
    refine ⟨HRK.out, ?_, ?_, HCG.out, HFF.out⟩
    · rw [flK_snoc]; exact HH.out
    · rw [flK_snoc, List.length_append, List.length_append, List.length_singleton]; omega
  case done =>
    rintro E ys f W hE hf hTk ⟨⟨A1, c1, hb, hr, hnl, hm, hnB⟩, hcn, hcg, hff⟩ hK
    have hc := hb.cell
    obtain ⟨hkeys, htake⟩ := hTk.keys
    obtain ⟨⟨_, _, ⟨O', hdO, hO'⟩, hfx⟩, _⟩ := hTk
    rw [htake] at hdO
    have hEw : w.heap.size ≤ E := by omega
    have hcO : Chg O w (W.putObj E (.deferred none)) := by
      refine ⟨hcg.os, hcg.tape, hcg.output, by simp; exact hcg.size, fun k hk hn => (World.putObj_heap_other (by omega)).trans ?_⟩
      by_cases hF : fixB (w.heap.size + 1) (w.heap.size + 1 + 1) (blA L A) k
      · exact (hfx k hF).trans (hb0.block k hk)
      · exact hcg.block k hk (fun h => h.elim hn hF)
    have hOO : ∀ j, O' j → O j ∨ w.heap.size ≤ j := fun j hj => by
      rcases hff j (hO' j hj).1 with h | h | h
      · exact .inl h
      · exact absurd h (hO' j hj).2
      · exact .inr h
    have hrow : KRowN w.heap.size (W.putObj E (.deferred none)) (.slice A1 (flK ys).length c1) (flK ys) := by
      refine ⟨A1, _, c1, rfl, rfl, ?_, hnl, fun g hg => ?_⟩
      · have hsl := own_sl6 hr
        rcases hsl with e | ⟨b, off, rfl, hbl, hcl⟩
        · exact .inl e
        · refine .inr ⟨b, off, rfl, by simp; exact hbl, fun j u hu => (World.cell?_of_block (w := W) (a := ⟨b, off + j, none⟩) (World.putObj_heap_other (fun e => ?_))).trans (hcl j u hu)⟩
          have e' : b = E := e
          subst e'
          have := hcl j u hu
          simp only [World.cell?, hK] at this
          cases this
      · have := hr.lt g (by rw [ownBlock_slice]; exact hg)
        simp
        exact this
    rw [hkeys] at hrow hc
    have HROW := Lib.hid hrow
    have HDO := Lib.hid (hdO.put (.deferred none) hK rfl)
    have HOO := Lib.hid hOO
    have HCO := Lib.hid hcO
    have HKEYS := Lib.hid hkeys
    clear hrow hdO hOO hcO hO' hfx hkeys htake hb hr hm hcg hff hX hY hZ hb0 hfix hd2 hby2 hf0
    go_wp2
    refine ⟨by simp, .inl ⟨_, _, rfl, run_takeDeferred hK, ?_⟩⟩
    exact ⟨_, results_tmp (t := 4) rfl _ _ _, .slice A1 (feedK d L).2.length c1, _, rfl, HROW.out, HDO.out, fun j hj => HOO.out j hj.1, HCO.out⟩
  case stop =>
    rintro E c pre f W _ _ _ h _
    exact h.elim
end Go.Proofs.YteolafeeggjblaaDoor
