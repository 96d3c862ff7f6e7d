/-
  Walks: cluster.Cut, cluster.Clean, cluster.Fit.
-/
import Derived.Test.YtmgakdbcgdhpaaaDoorClRow
import Derived.Test.YtmgakdbcgdhpaaaDoorClWidth
namespace Go.Proofs.YtmgakdbcgdhpaaaDoor
open Go.RowKit Go.Shelf
attribute [local go_sem] Oper.semAt_some
set_option linter.unusedVariables false

/-- the texts that came -/
def txs (pre : List (Int × List UInt8)) : List (List UInt8) := pre.map (·.2)
theorem txs_snoc (pre : List (Int × List UInt8)) (x : Int × List UInt8) : txs (pre ++ [x]) = txs pre ++ [x.2] := by simp [txs]
theorem txs_length (pre : List (Int × List UInt8)) : (txs pre).length = pre.length := by simp [txs]
theorem txs_prs (cs : List (List Int)) (a : Int) : txs (prs a cs) = cs.map eb := prs_map cs a
theorem blk_at {A A' : Option Addr} {z : Nat} (h : blk A' = blk A ∨ blk A' = some z) : ∀ g, blk A' = some g → blk A = some g ∨ z ≤ g := fun g hg => by
  rcases h with h | h
  · exact .inl (by rw [← h]; exact hg)
  · rw [h] at hg; cases hg; exact .inr (Nat.le_refl _)

set_option maxRecDepth 100000 in
set_option maxHeartbeats 2000000 in
theorem ccut_any (s : ByteArray) (hs : s.size ≤ 100000) (w : World) (hT : Tabs w) :
    Calls Tryd.prog 33 #[.string s] w fun e w' => ∃ A c, e = .returned (.slice A (cls (rs s.data.toList)).length c) ∧ OR w' w.heap.size 9 A (cls (rs s.data.toList)).length c (sv ((cls (rs s.data.toList)).map eb)) ∧ Below w.heap.size w w' := by
  have HT := Lib.hid hT
  clear hT
  refine (callsIn_wide (n := 9)).1 ?_
  refine callsIn_of_wp_marks Tryd.func33 rfl trivial ?_ rfl
  simp only [Tryd.ntmps33, List.size_toArray, List.length_cons, List.length_nil, Nat.reduceAdd, Nat.reduceSub, Array.replicate_succ, Array.replicate_zero, List.push_toArray, List.append_toArray, List.nil_append, List.cons_append]
  refine wpIn_wide.2 ?_
  go_wp2_with (go_at_call 59; refine (call_any _ _).mono ?_; rintro e w' ⟨rfl, rfl⟩)
  refine (wpIn_wide (n := 9)).1 ?_
  have hB := (Boxed.new w 44 (.slice none 0 0)).alloc (.cells #[.string s] 9)
  have hS := Boxed.new (w.alloc (.cells #[.slice none 0 0] 44)) 9 (.string s)
  rw [World.size_alloc] at hS
  have hb0 : Below w.heap.size w ((w.alloc (.cells #[.slice none 0 0] 44)).alloc (.cells #[.string s] 9)) := ((Below.refl _ w).alloc (Nat.le_refl _) _).alloc (by simp) _
  have hg := HT.out.mg
  have hg' := HT.out.wg
  refine range_priv rfl (by omega) (gf := 68) (lb := #[.pointer (some ⟨w.heap.size + 1, 0, none⟩)]) rfl trivial (enters_of Tryd.func68 (by kernel_rfl) rfl)
    (call_stops (w.heap.size + 1) s (by omega) (lent w.heap.size (w.heap.size + 1)) _ hS.cell (HT.out.below hb0) (.inr rfl) (.inl hg) (.inl hg') (fun k hk => by rcases hk with hk | hk <;> simp <;> omega))
    (Nat.le_refl _) (fun k hk => ⟨by rcases hk with hk | hk <;> simp <;> omega, rfl⟩) (fun _ => rfl)
    (fun pre f W => HoldP w.heap.size 44 9 w.heap.size (sv (txs pre)) f W ∧ Below w.heap.size w W)
    (fun _ _ _ _ => False)
    (AbP.and (AbP.hold (fun pre => sv (txs pre)) (by simp <;> omega)) (AbP.below (by simp <;> omega) (Nat.le_refl _)))
    (fun _ => AbP.none _)
    ⟨⟨none, 0, 0, hB, OR.none_ _ _ _, fun g hg => by cases hg⟩, hb0⟩
    (fun x => { tmps := #[.string s, undef, .slice none 0 0, .pointer (some ⟨w.heap.size, 0, none⟩), undef, .string ⟨x.2.toArray⟩, .string s, .func (.func 68) #[] #[.pointer (some ⟨w.heap.size + 1, 0, none⟩)], .int .i64 x.1, .string ⟨x.2.toArray⟩, undef, undef, undef, undef, undef], defers := [] }) ?assign ?body ?done ?stop
  case assign =>
    intro l x W K hK
    simp only [encC]
    rw [put_two]
    gi_wp2
    exact hK
  case body =>
    rintro l pre x f W hf hz ⟨⟨A, n, c, hb, hr, hm⟩, hbW⟩ hlen hel
    have hn : n = pre.length := by rw [hr.len, sv_length, txs_length]
    have hc := hb.cell
    have hfl := hb.frozen
    have hnf := not_lent (b := w.heap.size) hf (Nat.le_refl _) (by omega) (by simp <;> omega)
    have hsz := hbW.size
    have hfs : ∀ k, f k → k < W.heap.size := fun k hk => by
      rcases hf k hk with h | h
      · rcases h with h | h
        · omega
        · simp at hz; omega
      · exact h.2
    obtain ⟨A5, c5, w5, hrun, hO5, hg5, hat5⟩ := run_app Tryd.underlying44 str_info rfl (by omega) (W.alloc (.cells #[.string ⟨x.2.toArray⟩] 9)) 44 w.heap.size A n c _ (hr.alloc _) (some ⟨W.heap.size, 0, none⟩) 1 1 [.string ⟨x.2.toArray⟩] (W.heap.size + 1) (Sl.new W #[.string ⟨x.2.toArray⟩] 9) rfl (fun e => by cases e) (by intro u hu; simp at hu; subst hu; rfl) (n + 1) rfl (by omega) (by simp; omega)
    obtain ⟨hH, hRk, hb5, hbe⟩ := HoldP.appended (X := W.alloc (.cells #[.string ⟨x.2.toArray⟩] 9)) (by decide) (Nat.le_refl _) hfs ((Below.refl _ _).alloc (Nat.le_refl _) _) hb hr hm hnf hO5 hg5 (blk_at hat5) ((w.alloc (.cells #[.slice none 0 0] 44)).alloc (.cells #[.string s] 9)).heap.size
    have hc5 := hb5.cell
    have hf5 := hb5.frozen
    have HR := Lib.hid hrun
    have HH := Lib.hid hH
    have HN := Lib.hid hn
    clear hrun hH hn hO5 hg5 hat5 hb5 hr hm
    gi_wp2_with (gi_at_builtin; refine wpListIn_app 44 44 rfl (.tmp 10) (.tmp 12) rfl _ _ _ _ rfl rfl HR.out ?_)
    refine ⟨hRk, ?_, hbW.trans (hbe hsz)⟩
    rw [txs_snoc, sv_snoc]
    exact HH.out
  case done =>
    rintro D ys f W hD rfl ⟨⟨A, n, c, hb, hr, hm⟩, hbW⟩ hK
    rw [txs_prs] at hr
    have hn : n = (cls (rs s.data.toList)).length := by rw [hr.len, sv_length, List.length_map]
    subst hn
    have hc := hb.cell
    go_wp2
    refine ⟨by simp, .inl ⟨_, _, rfl, run_takeDeferred hK, ?_⟩⟩
    refine ⟨_, results_tmp rfl _ _ _, A, c, rfl, ⟨?_, hr.2⟩, hbW.trans (belowK_b (w := w) (Nat.le_refl _) W D _ _ (by simp at hD; omega) hK rfl rfl)⟩
    exact ownsRow_putObj hr.1 (.deferred none) hK rfl
  case stop =>
    rintro D c pre f W _ _ h _
    exact h.elim

def cleanB (l : List UInt8) : List UInt8 := eb (cls (rs l)).flatten
theorem txs_flat (pre : List (Int × List UInt8)) (x : Int × List UInt8) : (txs (pre ++ [x])).flatten = (txs pre).flatten ++ x.2 := by simp [txs]

/-- A box that holds a row of bytes, which is not the iterator's. -/
def HoldB (B base : Nat) (l : List UInt8) (f : Nat → Prop) (W : World) : Prop := HoldP B 66 5 base (bv l) f W

theorem size_mk (l : List UInt8) : (⟨l.toArray⟩ : ByteArray).size = l.length := by show l.toArray.size = _; simp

set_option maxRecDepth 100000 in
set_option maxHeartbeats 2000000 in
theorem cclean_any (s : ByteArray) (hs : s.size ≤ 50000) (w : World) (hT : Tabs w) :
    Calls Tryd.prog 42 #[.string s] w fun e w' => e = .returned (.string ⟨(cleanB s.data.toList).toArray⟩) ∧ Below w.heap.size w w' := by
  have HT := Lib.hid hT
  clear hT
  obtain ⟨i0, hi0, hz0, hz1, hz2⟩ := info_parts u8_info
  have I0 := Lib.hid hi0
  have Z0 := Lib.hid hz0
  have Z1 := Lib.hid hz1
  have Z2 := Lib.hid hz2
  clear hi0 hz0 hz1 hz2
  have hsz : s.size ≤ maxLen := by simp only [maxLen]; omega
  refine (callsIn_wide (n := 9)).1 ?_
  refine callsIn_of_wp_marks Tryd.func42 rfl trivial ?_ rfl
  simp only [Tryd.ntmps42, List.size_toArray, List.length_cons, List.length_nil, Nat.reduceAdd, Nat.reduceSub, Array.replicate_succ, Array.replicate_zero, List.push_toArray, List.append_toArray, List.nil_append, List.cons_append]
  refine wpIn_wide.2 ?_
  go_wp2_with (first
    | (at_make
       refine wpList_make_own _ rfl (.const (.int .i64 0)) (.tmp 7) 66 rfl w.heap.size 5 i0 _ 1 Tryd.underlying66 I0.out Z0.out Z1.out .i64 .i64 (s.size : Int) s.size rfl rfl rfl (by rw [Z2.out]; omega) hsz (Nat.le_refl _) ?_
       intro w1 hown1 hg1
       have hb1 : Below w.heap.size w w1 := (Below.refl _ _).grown hg1 (Nat.le_refl _) (fun k h => by cases h))
    | (go_at_call 59; refine (call_any _ _).mono ?_; rintro e w' ⟨rfl, rfl⟩))
  refine (wpIn_wide (n := 9)).1 ?_
  have hs1 := hb1.size
  have hO1 : OB w1 w.heap.size (some ⟨w.heap.size, 0, none⟩) 0 s.size [] := ⟨hown1, fun h => by cases h⟩
  generalize hA0 : (some ⟨w.heap.size, 0, none⟩ : Option Addr) = A0 at hO1 ⊢
  have HA0 := Lib.hid hA0
  have hB := (Boxed.new w1 66 (.slice A0 0 s.size)).alloc (.cells #[.string s] 9)
  have hS := Boxed.new (w1.alloc (.cells #[.slice A0 0 s.size] 66)) 9 (.string s)
  rw [World.size_alloc] at hS
  have hb0 : Below w.heap.size w ((w1.alloc (.cells #[.slice A0 0 s.size] 66)).alloc (.cells #[.string s] 9)) := (hb1.alloc hs1 _).alloc (by simp; omega) _
  have hO0 := (hO1.alloc (.cells #[.slice A0 0 s.size] 66)).alloc (.cells #[.string s] 9)
  have hg := HT.out.mg
  have hg' := HT.out.wg
  have hA0l : ∀ g, blk A0 = some g → ¬ lent w.heap.size (w1.heap.size + 1) g := by
    rw [← HA0.out]
    intro g hg hl
    have hgv : w.heap.size = g := by simpa [blk] using hg
    subst hgv
    have := (hO1.blk_lt w.heap.size (by rw [← HA0.out]; rfl)).2
    rcases hl with h | h <;> omega
  clear hown1 hg1 hA0
  refine range_priv rfl (by omega) (gf := 68) (lb := #[.pointer (some ⟨w1.heap.size + 1, 0, none⟩)]) rfl trivial (enters_of Tryd.func68 (by kernel_rfl) rfl)
    (call_stops (w1.heap.size + 1) s (by omega) (lent w.heap.size (w1.heap.size + 1)) _ hS.cell (HT.out.below hb0) (.inr rfl) (.inl hg) (.inl hg') (fun k hk => by rcases hk with hk | hk <;> simp <;> omega))
    (Nat.le_refl _) (fun k hk => ⟨by rcases hk with hk | hk <;> simp <;> omega, rfl⟩) (fun _ => rfl)
    (fun pre f W => HoldB w1.heap.size w.heap.size (txs pre).flatten f W ∧ (txs pre).flatten.length ≤ 100 * pre.length ∧ Below w.heap.size w W)
    (fun _ _ _ _ => False)
    (AbP.and (AbP.hold (fun (pre : List (Int × List UInt8)) => bv (txs pre).flatten) (by simp <;> omega)) (AbP.and (AbP.pure _) (AbP.below (by simp <;> omega) (Nat.le_refl _))))
    (fun _ => AbP.none _)
    ⟨⟨A0, 0, s.size, hB, hO0, hA0l⟩, by simp [txs], hb0⟩
    (fun x => { tmps := #[.string s, undef, .string ⟨#[]⟩, .pointer (some ⟨w1.heap.size, 0, none⟩), undef, .string ⟨x.2.toArray⟩, .string s, .int .i64 s.size, .slice A0 0 s.size, .string s, .func (.func 68) #[] #[.pointer (some ⟨w1.heap.size + 1, 0, none⟩)], .int .i64 x.1, .string ⟨x.2.toArray⟩, undef, undef, undef, undef, undef], defers := [] }) ?assign ?body ?done ?stop
  case assign =>
    intro l x W K hK
    simp only [encC]
    rw [put_two]
    gi_wp2
    exact hK
  case body =>
    rintro l pre x f W hf hz ⟨⟨A, n, c, hb, hr, hm⟩, hlb, hbW⟩ hlen hel
    have hO : OB W w.heap.size A n c (txs pre).flatten := hr
    have hn : n = (txs pre).flatten.length := hO.len
    have hc := hb.cell
    have hfl := hb.frozen
    have hnf := not_lent (b := w1.heap.size) hf hs1 (by omega) (by simp <;> omega)
    have hsz := hbW.size
    have hfs : ∀ k, f k → k < W.heap.size := fun k hk => by
      rcases hf k hk with h | h
      · rcases h with h | h
        · omega
        · simp at hz; omega
      · exact h.2
    have hx64 := hel.1
    have hxs := size_mk x.2
    obtain ⟨A5, c5, w5, hrun, hO5, hg5, hat5⟩ := run_app_str W 66 w.heap.size A n c _ hO ⟨x.2.toArray⟩ (n + x.2.length) (by rw [hxs]) (by omega) hsz
    obtain ⟨hH, hRk, hb5, hbe⟩ := HoldP.appended (e := 5) (ys := bv ((txs pre).flatten ++ x.2)) (X := W) (by decide) hs1 hfs (Below.refl _ _) hb hr hm hnf hO5 hg5 hat5 ((w1.alloc (.cells #[.slice A0 0 s.size] 66)).alloc (.cells #[.string s] 9)).heap.size
    have hc5 := hb5.cell
    have hf5 := hb5.frozen
    have HR := Lib.hid hrun
    have HH := Lib.hid hH
    have HN := Lib.hid hn
    have HX := Lib.hid hxs
    clear hrun hH hn hO5 hg5 hat5 hb5 hr hm hO hxs
    gi_wp2_with (gi_at_builtin; refine wpListIn_app 66 9 rfl (.tmp 13) (.tmp 14) rfl _ _ _ _ rfl rfl HR.out ?_)
    refine ⟨hRk, ?_, ?_, hbW.trans (hbe hsz)⟩
    · rw [txs_flat]; exact HH.out
    · rw [txs_flat, List.length_append, List.length_append]; simp only [List.length_cons, List.length_nil]; omega
  case done =>
    rintro D ys f W hD rfl ⟨⟨A, n, c, hb, hr, hm⟩, hlb, hbW⟩ hK
    rw [txs_prs, ← eb_flatten] at hr
    have hO : OB W w.heap.size A n c (cleanB s.data.toList) := hr
    have hc := hb.cell
    have hcv := run_str_sl W W.heap.size A n c (cleanB s.data.toList) hO.sl hO.len
    clear hr hO hlb hm
    go_wp2
    refine ⟨by simp, .inl ⟨_, _, rfl, run_takeDeferred hK, ?_⟩⟩
    exact ⟨_, results_tmp rfl _ _ _, rfl, hbW.trans (belowK_b (w := w) (Nat.le_refl _) W D _ _ (by simp at hD; omega) hK rfl rfl)⟩
  case stop =>
    rintro D c pre f W _ _ h _
    exact h.elim
end Go.Proofs.YtmgakdbcgdhpaaaDoor
