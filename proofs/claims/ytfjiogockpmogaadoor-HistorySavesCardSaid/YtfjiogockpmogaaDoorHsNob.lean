/-
  Walks: Find of a history that nobody made; told over a history.
-/
import Derived.Test.YtfjiogockpmogaaDoorHsFork
namespace Go.Proofs.YtfjiogockpmogaaDoor
open Go.RowKit Go.Shelf Go.Sort
attribute [local go_sem] Oper.semAt_some
set_option linter.unusedVariables false
set_option linter.unusedSimpArgs false

theorem told_not {w : World} {p : Option Addr} (q : HsNo w p) (m : Nat) : Calls Tryd.prog 13 #[.pointer p, .int .i64 m] w (ToldH w []) := by
  have h := told_seqH p m w (fun k => k = w.heap.size + 1 ∨ ∃ g, p = some ⟨g, 0, none⟩ ∧ k = g) [] rfl 0 (by omega) (fun _ => False)
    (fun k hk => by
      rcases hk with hk | ⟨g, hg, rfl⟩
      · exact .inr (.inl hk)
      · rcases q with h | ⟨g', h1, h2⟩
        · rw [h] at hg; cases hg
        · rw [h1] at hg; cases hg; exact .inl (World.block_lt_of_cell? w _ h2))
    (fun W hW z1 z2 => hfrom_not (q.below hW) (w.heap.size + 1) (w.heap.size + 1 + 1) z1 _ (.inl rfl) (fun g hg => .inr ⟨g, hg, rfl⟩) 6)
  simpa [txh] using h
theorem told_yes {w : World} {lo h c most : Nat} {A : Option Addr} {L : List (List UInt8)} {K : Option HW} (q : HsAt w lo h A c most L K) (m : Nat) :
    Calls Tryd.prog 13 #[.pointer (some ⟨h, 0, none⟩), .int .i64 m] w (ToldH w (L.take m)) := by
  have h := told_seqH (some ⟨h, 0, none⟩) m w (fun k => HsAt.Own h A K k ∨ k = w.heap.size + 1 ∨ k = w.heap.size + 1 + 1) (hats L) (okV_hats L) L.length (by have := q.len4; omega) (fun x => L[x.1]? = some x.2)
    (fun k hk => by
      rcases hk with hk | hk | hk
      · exact .inl (q.own_lt k hk).2
      · exact .inr (.inl hk)
      · exact .inr (.inr hk))
    (fun W hW z1 z2 => by
      have := hfrom_stops (q.below hW) (w.heap.size + 1) (w.heap.size + 1 + 1) 0 (by omega) z1 z2 (fun k => HsAt.Own _ A K k ∨ k = w.heap.size + 1 ∨ k = w.heap.size + 1 + 1) (.inr (.inl rfl)) (.inr (.inr rfl)) (fun k hk => .inl hk) 6
      simpa using this)
  rw [txh_take, txh_hats] at h
  exact h

/-- what Find comes to -/
def findR (P : List UInt8 → Bool) (T : List (Nat × List UInt8)) : Nat × Bool := match T.find? (fun x => P x.2) with | none => (0, false) | some x => (x.1, true)
/-- How Find is left within a round. -/
def FindX (w : World) (P : List UInt8 → Bool) (co : Code) (pre : List (Nat × List UInt8)) (f : Nat → Prop) (W : World) : Prop :=
  co = .ret ∧ ∃ p x, pre = p ++ [x] ∧ (∀ y ∈ p, P y.2 = false) ∧ P x.2 = true ∧ Boxed W (w.heap.size + 1) 3 (.int .i64 x.1) ∧ Boxed W (w.heap.size + 1 + 1) 4 (.bool true) ∧ Below w.heap.size w W
theorem FindX.ab {w : World} {P : List UInt8 → Bool} {b₀ : Nat} (h0 : w.heap.size ≤ b₀) (h1 : w.heap.size + 1 < b₀) (h2 : w.heap.size + 1 + 1 < b₀) (co : Code) : AbP b₀ (FindX w P co) := fun pre f f' X Y q ht hf => by
  obtain ⟨hc, p, x, e1, e2, e3, e5, e6, e7⟩ := q
  exact ⟨hc, p, x, e1, e2, e3, ht.block _ _ e5 (.inl h1), ht.block _ _ e6 (.inl h2), AbP.below (n₀ := w.heap.size) (β := Unit) h0 (Nat.le_refl _) () f f' X Y e7 ht hf⟩
theorem find_end {w W : World} {D : Nat} {u v : Value} (hK : W.heap[D]? = some (.deferred (some []))) (z2 : Boxed W (w.heap.size + 1) 3 u) (z3 : Boxed W (w.heap.size + 1 + 1) 4 v) (hc : Below w.heap.size w W) (hD : w.heap.size ≤ D) :
    (W.putObj D (.deferred none)).cell? ⟨w.heap.size + 1, 0, none⟩ = some u ∧ (W.putObj D (.deferred none)).cell? ⟨w.heap.size + 1 + 1, 0, none⟩ = some v ∧ Below w.heap.size w (W.putObj D (.deferred none)) := by
  have hne : ∀ (k : Nat) (o : Obj), W.heap[k]? = some o → o.isCells = true → k ≠ D := fun k o ho hc e => by
    subst e; rw [hK] at ho; cases ho; cases hc
  have hz : ∀ (k : Nat) (o : Obj), W.heap[k]? = some o → o.isCells = true → (W.putObj D (.deferred none)).heap[k]? = W.heap[k]? := fun k o ho hc => World.putObj_heap_other (hne k o ho hc)
  exact ⟨Boxed.cell (t := 3) ((hz _ _ z2 rfl).trans z2), Boxed.cell (t := 4) ((hz _ _ z3 rfl).trans z3), hc.trans (belowK_b (w := w) (Nat.le_refl _) W D _ _ hD hK rfl rfl)⟩

set_option maxRecDepth 100000 in
set_option maxHeartbeats 8000000 in
theorem hfind_seq (p : Option Addr) (t : ByteArray) (a : Int) (P : List UInt8 → Bool) (w : World) (f0 : Nat → Prop) (T : List (Nat × List UInt8)) (N : Nat) (El : Nat × List UInt8 → Prop) (hf : ∀ k, f0 k → k < w.heap.size ∨ k = w.heap.size + 3 ∨ k = w.heap.size + 4)
    (hseq : ∀ W, Below w.heap.size w W → Boxed W (w.heap.size + 3) 23 (.pointer p) → Boxed W (w.heap.size + 4) 3 (.int .i64 (max a 0)) → SeqP Fence.wide 8 Tryd.prog 54 #[.pointer (some ⟨w.heap.size + 3, 0, none⟩), .pointer (some ⟨w.heap.size + 4, 0, none⟩)] encH f0 El (fun ys => ys = T) (fun pre => pre <+: T) N W)
    (hP : ∀ x, El x → ∀ W, Calls Tryd.prog 38 #[.string ⟨x.2.toArray⟩, .string t] W fun e w' => e = .returned (.bool (P x.2)) ∧ W = w') :
    Calls Tryd.prog 17 #[.pointer p, .string t, .int .i64 a] w fun e w' => e = .returned (.tuple #[.int .i64 (findR P T).1, .bool (findR P T).2]) ∧ Below w.heap.size w w' := by
  have z1 := ((Boxed.new w 9 (.string t)).alloc (.cells #[.int .i64 0] 3)).alloc (.cells #[.bool false] 4)
  have z2 := (Boxed.new (w.alloc (.cells #[.string t] 9)) 3 (.int .i64 0)).alloc (.cells #[.bool false] 4)
  have z3 := Boxed.new ((w.alloc (.cells #[.string t] 9)).alloc (.cells #[.int .i64 0] 3)) 4 (.bool false)
  simp only [World.size_alloc] at z2 z3
  have hb : Below w.heap.size w (((w.alloc (.cells #[.string t] 9)).alloc (.cells #[.int .i64 0] 3)).alloc (.cells #[.bool false] 4)) := (((Below.refl _ w).alloc (Nat.le_refl _) _).alloc (by simp) _).alloc (by simp; omega) _
  have hsz : (((w.alloc (.cells #[.string t] 9)).alloc (.cells #[.int .i64 0] 3)).alloc (.cells #[.bool false] 4)).heap.size = w.heap.size + 3 := by simp
  have HSEQ := Lib.hid hseq
  have HF := Lib.hid hf
  have HP := Lib.hid hP
  have HB := Lib.hid hb
  have HZ1 := Lib.hid z1
  have HZ2 := Lib.hid z2
  have HZ3 := Lib.hid z3
  have HSZ := Lib.hid hsz
  clear hseq hf hP hb hsz z1 z2 z3
  obtain ⟨ma, hma⟩ : ∃ ma, max a 0 = ma := ⟨_, rfl⟩
  rw [hma] at HSEQ
  refine (callsIn_wide (n := 9)).1 ?_
  refine callsIn_of_wp_marks Tryd.func17 rfl trivial ?_ rfl
  simp only [Tryd.ntmps17, List.size_toArray, List.length_cons, List.length_nil, Nat.reduceAdd, Nat.reduceSub, Array.replicate_succ, Array.replicate_zero, List.push_toArray, List.append_toArray, List.nil_append, List.cons_append]
  refine wpIn_wide.2 ?_
  go_upto_region 1 with (fail)
  generalize ((w.alloc (.cells #[.string t] 9)).alloc (.cells #[.int .i64 0] 3)).alloc (.cells #[.bool false] 4) = w1 at *
  go_wp2_with (go_at_call 37; refine (hfrom_any _ _ _).mono ?_; rintro e w' ⟨rfl, rfl⟩)
  clear hma
  rw [HSZ.out]
  obtain ⟨X1, hX1⟩ : ∃ X1, X1 = (w1.alloc (.cells #[.pointer p] 23)).alloc (.cells #[.int .i64 ma] 3) := ⟨_, rfl⟩
  have hb1X : Below w1.heap.size w1 X1 := by rw [hX1]; exact ((Below.refl _ _).alloc (Nat.le_refl _) _).alloc (by simp) _
  have y0 : Boxed X1 (w.heap.size + 3) 23 (.pointer p) := by rw [hX1, ← HSZ.out]; exact (Boxed.new _ _ _).alloc _
  have y1 : Boxed X1 (w.heap.size + 4) 3 (.int .i64 ma) := by
    have := Boxed.new (w1.alloc (.cells #[.pointer p] 23)) 3 (.int .i64 ma)
    rw [World.size_alloc, HSZ.out] at this
    rw [hX1]; exact this
  have hszX : X1.heap.size = w.heap.size + 5 := by rw [hX1]; simp [HSZ.out]
  have hbX : Below w.heap.size w X1 := HB.out.trans (hb1X.mono HB.out.size)
  have HY1 : Hid (Boxed X1 w.heap.size 9 (.string t)) := Lib.hid ((hb1X.block _ (Boxed.lt HZ1.out)).trans HZ1.out)
  have HY2 : Hid (Boxed X1 (w.heap.size + 1) 3 (.int .i64 0)) := Lib.hid ((hb1X.block _ (Boxed.lt HZ2.out)).trans HZ2.out)
  have HY3 : Hid (Boxed X1 (w.heap.size + 1 + 1) 4 (.bool false)) := Lib.hid ((hb1X.block _ (Boxed.lt HZ3.out)).trans HZ3.out)
  have HBX := Lib.hid hbX
  have hxs : w.heap.size + 5 ≤ X1.heap.size := by omega
  rw [← hX1]
  have HSX := Lib.hid hszX
  clear hX1 hb1X hszX
  refine (wpIn_wide (n := 9)).1 ?_
  refine range_priv rfl (by omega) (gf := 54) (lb := #[.pointer (some ⟨w.heap.size + 3, 0, none⟩), .pointer (some ⟨w.heap.size + 4, 0, none⟩)]) rfl trivial (enters_of Tryd.func54 (by kernel_rfl) rfl)
    (HSEQ.out X1 hbX y0 y1)
    (Nat.le_refl _) (fun k hk => ⟨by have := HF.out k hk; omega, rfl⟩) (fun _ => rfl)
    (fun pre f W => (∀ y ∈ pre, P y.2 = false) ∧ Below X1.heap.size X1 W)
    (FindX w P)
    (AbP.and (AbP.pure _) (AbP.below (Nat.le_refl _) (Nat.le_refl _)))
    (FindX.ab (by omega) (by omega) (by omega))
    ⟨by simp, Below.refl _ _⟩
    ?a1 ?assign ?body ?done ?stop
  case assign =>
    intro l x W K hK
    simp only [encH]
    rw [put_two]
    gi_wp2
    exact hK
  case body =>
    rintro lo' pre x f W hff hz ⟨hno, hbW⟩ hlen hel
    have k1 : W.cell? ⟨w.heap.size, 0, none⟩ = some (.string t) := Boxed.cell (t := 9) ((hbW.block _ (Boxed.lt HY1.out)).trans HY1.out)
    have z2 : Boxed W (w.heap.size + 1) 3 (.int .i64 0) := (hbW.block _ (Boxed.lt HY2.out)).trans HY2.out
    have z3 : Boxed W (w.heap.size + 1 + 1) 4 (.bool false) := (hbW.block _ (Boxed.lt HY3.out)).trans HY3.out
    have r1 := z2.cell
    have fr1 := z2.frozen
    have r2 := z3.cell
    have fr2 := z3.frozen
    have HC := Lib.hid (HP.out x hel W)
    have HNO := Lib.hid hno
    have HBW := Lib.hid hbW
    have HZ2' := Lib.hid z2
    have HZ3' := Lib.hid z3
    by_cases hv : P x.2 = true
    · rw [hv] at HC
      have HV := Lib.hid hv
      clear hno hbW hv hel hlen hff z2 z3 y0 y1 hbX
      gi_wp2_with (fail)
      refine ⟨trivial, ?_⟩
      refine (CallsIn.inRound lo' (callsIn_wide.2 HC.out)).mono ?_
      rintro e w' ⟨rfl, rfl⟩
      gi_wp2
      refine ⟨((KeepsOthers.setCell W ⟨w.heap.size + 1, 0, none⟩ (.int .i64 x.1)).trans (KeepsOthers.setCell _ ⟨w.heap.size + 1 + 1, 0, none⟩ (.bool true))).from _, rfl, pre, x, rfl, HNO.out, HV.out, Boxed.setO (Boxed.set _ HZ2'.out) (k := w.heap.size + 1 + 1) (by omega) 0 _, Boxed.set _ (Boxed.setO HZ3'.out (k := w.heap.size + 1) (by omega) 0 _), ?_⟩
      exact ((HBX.out.trans (HBW.out.mono (by omega))).setCell (p := ⟨w.heap.size + 1, 0, none⟩) (by simp) _).setCell (p := ⟨w.heap.size + 1 + 1, 0, none⟩) (by simp; omega) _
    · have hv' : P x.2 = false := by simpa using hv
      rw [hv'] at HC
      have HV := Lib.hid hv'
      clear hno hbW hv hv' hel hlen hff z2 z3 y0 y1 hbX
      gi_wp2_with (fail)
      refine ⟨trivial, ?_⟩
      refine (CallsIn.inRound lo' (callsIn_wide.2 HC.out)).mono ?_
      rintro e w' ⟨rfl, rfl⟩
      gi_wp2
      exact ⟨Rk.refl _ _ _, (fun y hy => by
        rcases List.mem_append.1 hy with hy | hy
        · exact HNO.out y hy
        · simp only [List.mem_cons, List.not_mem_nil, or_false] at hy
          rw [hy]; exact HV.out), HBW.out⟩
  case done =>
    rintro D ys f W hD hys ⟨hno, hbW⟩ hK
    have hnone : findR P T = (0, false) := by
      unfold findR
      rw [← hys, find_nowhere hno]
    have z2 : Boxed W (w.heap.size + 1) 3 (.int .i64 0) := (hbW.block _ (Boxed.lt HY2.out)).trans HY2.out
    have z3 : Boxed W (w.heap.size + 1 + 1) 4 (.bool false) := (hbW.block _ (Boxed.lt HY3.out)).trans HY3.out
    have r1 := z2.cell
    have fr1 := z2.frozen
    have r2 := z3.cell
    have fr2 := z3.frozen
    have HN := Lib.hid hnone
    have HB2 := Lib.hid (HBX.out.trans (hbW.mono (by omega)))
    have HZ2' := Lib.hid z2
    have HZ3' := Lib.hid z3
    clear hno hbW hys hnone z2 z3 y0 y1 hbX
    go_wp2
    have hK' := ((KeepsOthers.setCell W ⟨w.heap.size + 1, 0, none⟩ (.int .i64 0)).trans (KeepsOthers.setCell _ ⟨w.heap.size + 1 + 1, 0, none⟩ (.bool false))).same D _ hK rfl
    refine ⟨by simp, .inl ⟨_, _, rfl, run_takeDeferred hK', ?_⟩⟩
    have z2 := Boxed.setO (Boxed.set (.int .i64 0) HZ2'.out) (k := w.heap.size + 1 + 1) (by omega) 0 (.bool false)
    have z3 := Boxed.set (.bool false) (Boxed.setO HZ3'.out (k := w.heap.size + 1) (by omega) 0 (.int .i64 0))
    have hend := find_end hK' z2 z3 ((HB2.out.setCell (p := ⟨w.heap.size + 1, 0, none⟩) (by simp) _).setCell (p := ⟨w.heap.size + 1 + 1, 0, none⟩) (by simp; omega) _) (by omega)
    have c2 := hend.1
    have c3 := hend.2.1
    have HE := Lib.hid hend.2.2
    clear hend
    refine ⟨.tuple #[.int .i64 0, .bool false], by simp [results, Tryd.f17, go_sem, c2, c3], ?_⟩
    exact ⟨by rw [HN.out]; rfl, HE.out⟩
  case stop =>
    rintro D co pre f W hD hpre ⟨rfl, p', x, hp, hno, hv, z2, z3, hb2⟩ hK
    rw [hp] at hpre
    have hsome : findR P T = (x.1, true) := by
      unfold findR
      rw [find_here hno hv hpre]
    have hend := find_end hK z2 z3 hb2 (by omega)
    have c2 := hend.1
    have c3 := hend.2.1
    have HE := Lib.hid hend.2.2
    have HN := Lib.hid hsome
    clear hend hsome hpre hp hno hv z2 z3 hb2 y0 y1 hbX
    gi_wp2
    refine ⟨by simp, .inl ⟨_, _, rfl, run_takeDeferred hK, ?_⟩⟩
    refine ⟨.tuple #[.int .i64 x.1, .bool true], by simp [results, Tryd.f17, go_sem, c2, c3], ?_⟩
    exact ⟨by rw [HN.out], HE.out⟩

theorem hfind_not {w : World} {p : Option Addr} (q : HsNo w p) (t : ByteArray) (a : Int) :
    Calls Tryd.prog 17 #[.pointer p, .string t, .int .i64 a] w fun e w' => e = .returned (.tuple #[.int .i64 0, .bool false]) ∧ Below w.heap.size w w' := by
  have h := hfind_seq p t a (fun _ => false) w (fun k => k = w.heap.size + 3 ∨ ∃ g, p = some ⟨g, 0, none⟩ ∧ k = g) [] 0 (fun _ => False)
    (fun k hk => by
      rcases hk with hk | ⟨g, hg, rfl⟩
      · exact .inr (.inl hk)
      · rcases q with h | ⟨g', h1, h2⟩
        · rw [h] at hg; cases hg
        · rw [h1] at hg; cases hg; exact .inl (World.block_lt_of_cell? w _ h2))
    (fun W hW z1 z2 => hfrom_not (q.below hW) (w.heap.size + 3) (w.heap.size + 4) z1 _ (.inl rfl) (fun g hg => .inr ⟨g, hg, rfl⟩) 6)
    (fun x hx => hx.elim)
  exact h
end Go.Proofs.YtfjiogockpmogaaDoor
