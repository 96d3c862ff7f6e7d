/-
  Walks: two clusters of a line exchanged; other clusters in the place of all.
-/
import Derived.Test.YtfhfhjcdeeepbaaGreatDoorEdEr
namespace Go.Proofs.YtfhfhjcdeeepbaaGreatDoor
open Go.RowKit Go.Sort
set_option linter.unusedVariables false
set_option linter.unusedSimpArgs false
set_option maxRecDepth 100000

set_option maxHeartbeats 4000000 in
theorem lswap_no {w : World} {lo g n C most f t : Nat} {A : Option Addr} {p s : List (List UInt8)} (h : GpAt w lo g A n C most f t p s) (hz : f = 0 ∨ ln p s ≤ 1) :
    Calls Tryz.prog 81 #[.agg #[.pointer (some ⟨g, 0, none⟩)]] w fun e w' => e = .returned (.bool false) ∧ Below w.heap.size w w' := by
  obtain ⟨hb0, hx0⟩ := line_box (w := w) (v := .pointer (some ⟨g, 0, none⟩))
  have hle := h.ln_le
  have hm4 := h.m4
  obtain ⟨L, hL⟩ : ∃ L, L = ln p s := ⟨_, rfl⟩
  have hfL : f ≤ L := by have := h.fp; rw [hL]; unfold ln; omega
  rw [← hL] at hle hz
  obtain ⟨W, hW⟩ : ∃ W, W = w.alloc (.cells #[.pointer (some ⟨g, 0, none⟩)] 45) := ⟨_, rfl⟩
  rw [← hW] at hb0 hx0
  have H0 := Lib.hid (h.below hb0)
  have HB0 := Lib.hid hb0
  have k0 := cell_regrown hx0.cell
  have hwr : IntKind.i64.wrap ((L : Int) - 1) = (L : Int) - 1 := IntWalk.i64_in _ (by omega)
  obtain ⟨z, hz1, hz2⟩ : ∃ z : Int, min (f : Int) ((L : Int) - 1) = z ∧ z < 1 := ⟨_, rfl, by omega⟩
  have Q1 := Lib.hid (fun d os => Calls.regrown_of (gcursor_any (H0.out.below (below_regrown _ d os))))
  have Q2 : Hid (∀ d os, Calls Tryz.prog 32 #[.pointer (some ⟨g, 0, none⟩)] (grow (redrawn W d) os) _) := Lib.hid (fun d os => Calls.regrown_of (by have := glen_any (H0.out.below (below_regrown W d os)); rw [← hL] at this; exact this))
  clear h hb0 hx0 hle hm4 hL hz hfL
  go_enter Tryz.func81, Tryz.ntmps81
  go_upto_region 1 with (fail)
  rw [← hW]
  clear hW
  refine region_below0 (by kernel_rfl) (by kernel_rfl) ?_
  repeat (first
    | go_big_quiet_step (first | exact Q1.out _ _ | exact Q2.out _ _)
    | quiet_step (first | exact Q1.out _ _ | exact Q2.out _ _))
  refine wpQuiet_nil ?_
  intro _ hw'
  obtain ⟨⟨dq, osq⟩, hw''⟩ := hw'
  subst hw''
  have HBQ := Lib.hid (below_regrown W dq osq)
  go_wp2_with (fail)
  go_ret
  exact ⟨rfl, HB0.out.trans (HBQ.out.mono HB0.out.size)⟩
/-- what swap leaves -/
def SwpP (w : World) (lo g : Nat) (A : Option Addr) (n C most : Nat) (l' : List (List UInt8)) (k : Nat) (e : Ending) (w' : World) : Prop :=
  e = .returned (.bool true) ∧ (∃ f' t', GpAt w' lo g A n C most f' t' (l'.take (k + 2)) (l'.drop (k + 2))) ∧ Chg (GpOwn g A) w w'
set_option maxHeartbeats 8000000 in
theorem lswap_yes {w : World} {lo g n C most f t : Nat} {A : Option Addr} {p s : List (List UInt8)} (h : GpAt w lo g A n C most f t p s) (hT : ∀ V, Chg (GpOwn g A) w V → Tabs V) (k : Nat) (x y : List UInt8) (hk : min (f : Int) ((ln p s : Nat) - 1 : Int) = (k : Int) + 1) (hx : (p ++ s)[k]? = some x) (hy : (p ++ s)[k + 1]? = some y) :
    Calls Tryz.prog 81 #[.agg #[.pointer (some ⟨g, 0, none⟩)]] w (SwpP w lo g A n C most (((p ++ s).set k y).set (k + 1) x) k) := by
  obtain ⟨hb0, hx0⟩ := line_box (w := w) (v := .pointer (some ⟨g, 0, none⟩))
  have hle := h.ln_le
  have hm4 := h.m4
  have hkl : k + 1 < (p ++ s).length := (List.getElem?_eq_some_iff.1 hy).1
  have hxi : isC x = true := h.is x (List.mem_of_getElem? hx)
  have hyi : isC y = true := h.is y (List.mem_of_getElem? hy)
  have hx4 := isC_len hxi
  have hy4 := isC_len hyi
  obtain ⟨L, hL⟩ : ∃ L, L = ln p s := ⟨_, rfl⟩
  have hll : (p ++ s).length = L := by rw [hL, ln_eq]
  rw [← hL] at hle hk
  rw [hll] at hkl
  obtain ⟨W, hW⟩ : ∃ W, W = w.alloc (.cells #[.pointer (some ⟨g, 0, none⟩)] 45) := ⟨_, rfl⟩
  rw [← hW] at hb0 hx0
  have H0 := Lib.hid (h.below hb0)
  have HB0 := Lib.hid hb0
  have HX0 := Lib.hid hx0
  have HOW : Hid (¬ GpOwn g A w.heap.size) := Lib.hid (fun e => absurd (h.own_lt _ e).2 (Nat.lt_irrefl _))
  have HT := Lib.hid hT
  have k0 := cell_regrown hx0.cell
  have hwr : IntKind.i64.wrap ((L : Int) - 1) = (L : Int) - 1 := IntWalk.i64_in _ (by omega)
  have Q1 := Lib.hid (fun d os => Calls.regrown_of (gcursor_any (H0.out.below (below_regrown _ d os))))
  have Q2 : Hid (∀ d os, Calls Tryz.prog 32 #[.pointer (some ⟨g, 0, none⟩)] (grow (redrawn W d) os) _) := Lib.hid (fun d os => Calls.regrown_of (by have := glen_any (H0.out.below (below_regrown W d os)); rw [← hL] at this; exact this))
  have HXX := Lib.hid hx
  have HYY := Lib.hid hy
  have HXI := Lib.hid hxi
  have HYI := Lib.hid hyi
  have HLL := Lib.hid hll
  have hk4 : k ≤ 4096 := by omega
  have E1 : Hid (((k + 1 : Nat) : Int) = (k : Int) + 1) := Lib.hid (by omega)
  clear h hb0 hx0 hL hx hy hxi hyi hT hll
  generalize hl : p ++ s = l at *
  have HPS := Lib.hid hl
  clear hl
  go_enter Tryz.func81, Tryz.ntmps81
  go_upto_region 1 with (fail)
  rw [← hW]
  clear hW
  refine region_below0 (by kernel_rfl) (by kernel_rfl) ?_
  repeat (first
    | go_big_quiet_step (first | exact Q1.out _ _ | exact Q2.out _ _)
    | quiet_step (first | exact Q1.out _ _ | exact Q2.out _ _))
  refine wpQuiet_nil ?_
  intro _ hw'
  obtain ⟨⟨dq, osq⟩, hw''⟩ := hw'
  subst hw''
  have hbq := below_regrown W dq osq
  have HB1 := Lib.hid (HB0.out.trans (hbq.mono HB0.out.size))
  have H1 := Lib.hid (H0.out.below hbq)
  have kb1 := (box_bel HX0.out hbq).cell
  have HX1 := Lib.hid (box_bel HX0.out hbq)
  clear k0 Q1 Q2 hbq hk hwr
  generalize grow (redrawn W dq) osq = w1 at *
  go_wp2_with (fail)
  refine (gat_yes H1.out k x (by rw [HPS.out]; exact HXX.out)).mono ?_
  rintro e w2 ⟨rfl, hb2⟩
  have HB2 := Lib.hid (HB1.out.trans (hb2.mono HB1.out.size))
  have H2 := Lib.hid (H1.out.below hb2)
  have kb2 := (box_bel HX1.out hb2).cell
  have HX2 := Lib.hid (box_bel HX1.out hb2)
  have HG2 := Lib.hid (gat_yes (H1.out.below hb2) (k + 1) y (by rw [HPS.out]; exact HYY.out))
  rw [E1.out] at HG2
  clear hb2 kb1
  go_wp2_with (fail)
  refine HG2.out.mono ?_
  rintro e w3 ⟨rfl, hb3⟩
  have HB3 := Lib.hid (HB2.out.trans (hb3.mono HB2.out.size))
  have H3 := Lib.hid (H2.out.below hb3)
  have kb3 := (box_bel HX2.out hb3).cell
  have HX3 := Lib.hid (box_bel HX2.out hb3)
  clear hb3 kb2
  go_wp2_with (fail)
  refine (greplace_ok H3.out (HT.out _ (Chg.of_below HB3.out)) k y (by have h8 := HLL.out; have h9 := HPS.out; rw [ln_eq, h9, h8]; omega) (by omega) HYI.out).mono ?_
  rintro e w4 ⟨rfl, p4, s4, hps4, hg4, hc4⟩
  have H4 := Lib.hid hg4
  have HC4 := Lib.hid ((Chg.of_below (S := GpOwn g A) HB3.out).trans hc4 (fun _ h => .inl h))
  have hx4 : Boxed w4 w.heap.size 45 (.pointer (some ⟨g, 0, none⟩)) := hc4.heap HX3.out HOW.out
  have kb4 := hx4.cell
  have HX4 : Hid (Boxed w4 w.heap.size 45 (.pointer (some ⟨g, 0, none⟩))) := Lib.hid hx4
  clear hx4
  have HPS4 := Lib.hid hps4
  have HG4 := Lib.hid (greplace_ok hg4 (HT.out _ HC4.out) (k + 1) x (by have h8 := HLL.out; have h9 := HPS.out; rw [ln_eq, hps4, List.length_set, h9, h8]; omega) (by omega) HXI.out)
  rw [E1.out] at HG4
  clear hg4 hc4 hps4 kb3
  go_wp2_with (fail)
  refine HG4.out.mono ?_
  rintro e w5 ⟨rfl, p5, s5, hps5, hg5, hc5⟩
  have H5 := Lib.hid hg5
  have HC5 := Lib.hid (HC4.out.trans hc5 (fun _ h => .inl h))
  have hx5 : Boxed w5 w.heap.size 45 (.pointer (some ⟨g, 0, none⟩)) := hc5.heap HX4.out HOW.out
  have kb5 := hx5.cell
  clear hx5
  have HPS5 : Hid (p5 ++ s5 = (l.set k y).set (k + 1) x) := Lib.hid (by rw [hps5, HPS4.out, HPS.out])
  clear hg5 hc5 hps5 kb4
  go_wp2_with (fail)
  refine (gmove_any H5.out _).mono ?_
  rintro e w6 ⟨rfl, ⟨f', t', hg6⟩, hc6⟩
  have HC6 := Lib.hid (HC5.out.trans hc6 (fun _ h => .inl h))
  have hcl : ∀ z : Int, z = (k : Int) + 2 → clampN z (ln p5 s5) = k + 2 := fun z hz => by
    rw [hz, ln_eq, HPS5.out, List.length_set, List.length_set, HLL.out]
    unfold clampN
    omega
  rw [hcl _ (by omega), HPS5.out] at hg6
  have H6 := Lib.hid hg6
  clear hg6 hc6 hcl kb5
  go_wp2_with (fail)
  go_ret
  exact ⟨rfl, ⟨f', t', H6.out⟩, HC6.out⟩

/-- what become leaves -/
def BecP (w : World) (lo g : Nat) (A : Option Addr) (most : Nat) (l : List (List UInt8)) (e : Ending) (w' : World) : Prop :=
  e = .returned (.tuple #[]) ∧ ∃ A' n' C' t', GpAt w' lo g A' n' C' most l.length t' l [] ∧ Chg (GpOwn g A) w w' ∧ ∀ k, blk A' = some k → blk A = some k ∨ w.heap.size ≤ k
set_option maxHeartbeats 8000000 in
theorem lbecome_any {w : World} {lo g n C most f t : Nat} {A : Option Addr} {p s : List (List UInt8)} (h : GpAt w lo g A n C most f t p s) (hT : ∀ V, Chg (GpOwn g A) w V → Tabs V) (l : List (List UInt8)) (X : Option Addr) (m d : Nat) (hm : m = l.length) (hmm : m ≤ most) (hl : ∀ c ∈ l, isC c = true) (hX : Sl w w.heap.size X (sv l)) (hXo : ∀ b off, X = some ⟨b, off, none⟩ → ¬ GpOwn g A b) :
    Calls Tryz.prog 51 #[.agg #[.pointer (some ⟨g, 0, none⟩)], .slice X m d] w (BecP w lo g A most l) := by
  obtain ⟨hb0, hx0⟩ := line_box (w := w) (v := .pointer (some ⟨g, 0, none⟩))
  have hle := h.ln_le
  have hm4 := h.m4
  obtain ⟨L, hL⟩ : ∃ L, L = ln p s := ⟨_, rfl⟩
  obtain ⟨W, hW⟩ : ∃ W, W = w.alloc (.cells #[.pointer (some ⟨g, 0, none⟩)] 45) := ⟨_, rfl⟩
  rw [← hW] at hb0 hx0
  have H0 := Lib.hid (h.below hb0)
  have HB0 := Lib.hid hb0
  have HX0 := Lib.hid hx0
  have HOW : Hid (¬ GpOwn g A w.heap.size) := Lib.hid (fun e => absurd (h.own_lt _ e).2 (Nat.lt_irrefl _))
  have HT := Lib.hid hT
  have kb0 := hx0.cell
  have HXX := Lib.hid hX
  have HXO := Lib.hid hXo
  have HM := Lib.hid hm
  have HLI := Lib.hid hl
  have q1 := fun (V : World) (hV : GpAt V lo g A n C most f t p s) => glen_any hV
  have q2 := fun (V : World) (hV : GpAt V lo g A n C most f t p s) => lerase_any hV 0 ((L : Nat) : Int)
  have e0 : delL (p ++ s) (clampN 0 (ln p s)) (clampN ((L : Nat) : Int) (ln p s)) = [] := by
    have e1 : clampN 0 (ln p s) = 0 := by unfold clampN; omega
    have e2 : clampN ((L : Nat) : Int) (ln p s) = ln p s := by rw [hL]; unfold clampN; omega
    rw [e1, e2]
    unfold delL
    split
    · rw [ln_eq, List.drop_of_length_le (Nat.le_refl _)]; rfl
    · next hh => exact List.eq_nil_of_length_eq_zero (by rw [← ln_eq]; omega)
  rw [e0] at q2
  simp only [List.take_nil, List.drop_nil] at q2
  rw [← hL] at q1
  have HQ1 := Lib.hid q1
  have HQ2 := Lib.hid q2
  clear h hb0 hx0 hL hT hX hXo hm hl q1 q2 e0
  go_enter Tryz.func51, Tryz.ntmps51
  go_upto_region 1 with (fail)
  rw [← hW]
  clear hW
  go_region_law (first
    | (refine step_call rfl 32 _ _ rfl (enters_of Tryz.func32 (by kernel_rfl) rfl) #[.pointer (some ⟨g, 0, none⟩)] (by simp [Act.eval, Act.put]) (HQ1.out _ (H0.out.below ((Below.refl _ _).drew))) ?_; rintro e w2 ⟨rfl, hb2⟩; refine ⟨_, rfl, ?_⟩
       have hb12 := (Below.drew (Below.refl _ _)).trans hb2
       have H2 := Lib.hid (H0.out.below hb12)
       have HX2 := Lib.hid (box_bel HX0.out hb12)
       have kb2 := (box_bel HX0.out hb12).cell
       have HB2 := Lib.hid (HB0.out.trans (hb12.mono HB0.out.size))
       clear hb2 hb12)
    | (refine step_call rfl 73 _ _ rfl (enters_of Tryz.func73 (by kernel_rfl) rfl) #[.agg #[.pointer (some ⟨g, 0, none⟩)], .int .i64 0, .int .i64 ((L : Nat) : Int)] (by simp [Act.eval, Act.put]) (HQ2.out _ H2.out) ?_; rintro e w3 ⟨rfl, ⟨f3, t3, hg3⟩, hc3⟩; refine ⟨_, rfl, ?_⟩
       have HC3 := Lib.hid ((Chg.of_below (S := GpOwn g A) HB2.out).trans hc3 (fun _ h => .inl h))
       have H3 := Lib.hid hg3
       have hx3 : Boxed w3 w.heap.size 45 (.pointer (some ⟨g, 0, none⟩)) := hc3.heap HX2.out HOW.out
       have kb3 := hx3.cell
       clear hx3
       clear hg3 hc3))
  all_goals
    have HI := Lib.hid (ginsert_ok H3.out (HT.out _ HC3.out) l X m d HM.out (by omega) ((HC3.out.sl HXX.out (Nat.le_refl _) (fun b off e => HXO.out b off e)).more HC3.out.size) (fun b off e e2 => HXO.out b off e (.inl e2)) (fun c hc => by have := isC_len (HLI.out c hc); omega) HLI.out (by simp [ln]; omega))
    go_wp2_with (fail)
    refine HI.out.mono ?_
    rintro e w4 ⟨rfl, A', n', C', t', hg4, hc4, hk4⟩
    have H4 := Lib.hid hg4
    have HC4 := Lib.hid (HC3.out.trans hc4 (fun _ h => .inl h))
    have HK4 := Lib.hid hk4
    clear hg4 hc4 hk4
    go_wp2_with (fail)
    exact bodyPost_ret (results_none rfl _ _ _) rfl ⟨rfl, A', n', C', t', H4.out, HC4.out, fun k hk => (HK4.out k hk).imp id (fun h => Nat.le_trans HC3.out.size h)⟩
end Go.Proofs.YtfhfhjcdeeepbaaGreatDoor
