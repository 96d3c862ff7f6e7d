/-
  Walks: cluster.All's iterator has its contract.
-/
import Derived.Test.YtmgakdbcgdhpaaaDoorClAll
import Derived.Outline
import Derived.IntWalk
namespace Go.Proofs.YtmgakdbcgdhpaaaDoor
open Go.RowKit Go.Shelf
attribute [local go_sem] Oper.semAt_some
set_option linter.unusedVariables false

/-- Between two rounds over the runes. -/
def InI (h : Nat) (f0 : Nat → Prop) (J : List (Int × List UInt8) → (Nat → Prop) → World → Prop) (l : Nat) (s : ByteArray) (q : List (List Int) × List Int) (X : World) : Prop :=
  ∃ f A n c, Cl h f X l s A n c (eb q.2) (.slice A n c) (sumC q.1) (wc q.2) X ∧ J (prs 0 q.1) f X ∧ (∀ k, f0 k → f k) ∧ (∀ j, h ≤ j → j < h + 5 → f j) ∧ (∀ g, blk A = some g → f g)

theorem inI_own {h : Nat} {f0 : Nat → Prop} {J : List (Int × List UInt8) → (Nat → Prop) → World → Prop} {l : Nat} {s : ByteArray} {q : List (List Int) × List Int} {X Y : World} {row : Option Nat} (hJ : AbP h J)
    (hi : InI h f0 J l s q X) (hg : X.grownBy Y row) (hr : ∀ r, row = some r → h + 5 ≤ r ∧ ∃ o : Obj, X.heap[r]? = some o ∧ o.isCells = false) : InI h f0 J l s q Y := by
  obtain ⟨f, A, n, c, hC, hj, h1, h2, h3⟩ := hi
  have hne : ∀ {B : Nat} {t : TypeId} {v : Value}, Boxed X B t v → some B ≠ row := fun hb e => by
    obtain ⟨_, o, ho, hc⟩ := hr _ e.symm
    rw [show X.heap[_]? = _ from hb] at ho; cases ho; cases hc
  have hz := hC.sz
  refine ⟨f, A, n, c, hC.again hg.size (fun j hj => hg.block j ?_ ?_) ⟨h2 _ (by omega) (by omega), h2 _ (by omega) (by omega), h2 _ (by omega) (by omega)⟩ h3, hJ _ f f X Y hj (Turn.of_grown hg (fun k e => ⟨by have := (hr k e).1; omega, .inr (hr k e).2⟩)) (fun _ h => .inl h), h1, h2, h3⟩
  · have := hC.tg
    rcases hj with hj | hj | hj | hj
    · omega
    · exact (hC.row.blk_lt j hj).2
    · omega
    · omega
  · intro e
    have hr' := hr j e.symm
    have := hC.tg
    rcases hj with hj | hj | hj | hj
    · omega
    · obtain ⟨_, o, ho, hc⟩ := hr'
      have := OR.isCells (e := 5) (xs := bv (eb q.2)) hC.row j o hj ho
      rw [hc] at this; cases this
    · omega
    · omega

def rr (pre : List (Nat × Int)) : List Int := pre.map (·.2)
theorem rr_snoc (pre : List (Nat × Int)) (x : Nat × Int) : run (rr (pre ++ [x])) = st2 (run (rr pre)) x.2 := by
  unfold rr; rw [List.map_append]; exact run_snoc _ _
/-- Where a round over the runes goes on. -/
theorem inI_next {h : Nat} {f0 f : Nat → Prop} {J : List (Int × List UInt8) → (Nat → Prop) → World → Prop} {l : Nat} {s : ByteArray} {q : List (List Int) × List Int} {X Y : World} {A : Option Addr} {n c : Nat} (hJ : AbP h J)
    (hC : Cl h f X l s A n c (eb q.2) (.slice A n c) (sumC q.1) (wc q.2) Y) (hj : J (prs 0 q.1) f X) (h1 : ∀ k, f0 k → f k) (h2 : ∀ j, h ≤ j → j < h + 5 → f j) :
    InI h f0 J l s q Y := by
  refine ⟨fun k => f k ∨ (X.heap.size ≤ k ∧ k < Y.heap.size), A, n, c, hC.again (Nat.le_refl _) (fun _ _ => rfl) ⟨.inl (h2 _ (by omega) (by omega)), .inl (h2 _ (by omega) (by omega)), .inl (h2 _ (by omega) (by omega))⟩ ?_, hJ _ f _ X Y hj hC.turn (fun k hk => hk), fun k hk => .inl (h1 k hk), fun j a b => .inl (h2 j a b), ?_⟩
  all_goals
    intro g hg
    exact (hC.mine g hg).imp id (fun hl => ⟨hl, (hC.row.blk_lt g hg).2⟩)
/-- what holds of each cluster that is told -/
def elC (x : Int × List UInt8) : Prop := x.2.length ≤ 64 ∧ 0 ≤ x.1 ∧ x.1 ≤ 3000000
theorem keepsFrom_of {W X : World} (h : KeepsOthers W X) (B : Nat) : KeepsFrom B W X := h.from B
theorem prs_prefix {a b : List (List Int)} (h : a <+: b) : prs 0 a <+: prs 0 b := by
  obtain ⟨t, rfl⟩ := h
  rw [prs_append]
  exact List.prefix_append _ _
theorem kps_of {h : Nat} {f : Nat → Prop} {X Y : World} {l : Nat} {s : ByteArray} {A : Option Addr} {n c : Nat} {k : List UInt8} {v : Value} {a b : Int} (hC : Cl h f X l s A n c k v a b Y) : KpS 0 (h + 1 + 1 + 1 + 1) s X Y :=
  ⟨⟨hC.turn.os, hC.turn.tape, hC.turn.output, hC.turn.size, fun k hk => by omega⟩, fun _ => hC.b4.cell⟩
theorem Turn.below0 {b : Nat} {f : Nat → Prop} {A B : World} (h : Turn b f A B) : Below 0 A B := ⟨h.os, h.tape, h.output, h.size, fun k hk => by omega⟩

set_option maxRecDepth 100000 in
set_option maxHeartbeats 2000000 in
theorem call_stops (Bn : Nat) (s : ByteArray) (hs : s.size ≤ 1000000) (f0 : Nat → Prop) (w : World) (hc : w.cell? ⟨Bn, 0, none⟩ = some (.string s)) (hT : Tabs w)
    (h0B : f0 Bn) (h0m : f0 1) (h0w : f0 0) (h0l : ∀ k, f0 k → k < w.heap.size) :
    SeqP Fence.wide 8 Tryd.prog 68 #[.pointer (some ⟨Bn, 0, none⟩)] encC f0 elC (fun ys => ys = prs 0 (cls (rs s.data.toList))) (fun pre => pre <+: prs 0 (cls (rs s.data.toList))) s.size w := by
  intro l J Jx W hsz hf0 hJ hJx hY h0
  have hcW : W.cell? ⟨Bn, 0, none⟩ = some (.string s) := (World.cell?_of_block (w := w) (hf0 Bn h0B)).trans hc
  have hTW : Tabs W := hT.same (hf0 _ h0m) (hf0 _ h0w) hsz
  have hY' : ∀ m pre x f W1, J pre f W1 → pre.length < s.size → elC x → YieldAt Fence.wide m Tryd.prog l (encC x) W1 fun e W' =>
      (e = .returned (.bool true) ∧ J (pre ++ [x]) f W' ∧ Rk W.heap.size f W1 W') ∨ (e = .returned (.bool false) ∧ Jx (pre ++ [x]) f W' ∧ KeepsFrom W.heap.size W1 W') := fun m pre x f W1 hj hl he => YieldAt.deep m (hY pre x f W1 hj hl he)
  have hBl : Bn < W.heap.size := cell_lt' hcW
  have hld : ∀ o1 o2 o3 o4, ((((W.alloc o1).alloc o2).alloc o3).alloc o4).cell? ⟨Bn, 0, none⟩ = some (.string s) := fun o1 o2 o3 o4 => by
    rw [World.cell?_alloc_lt _ _ _ (by simp; omega), World.cell?_alloc_lt _ _ _ (by simp; omega), World.cell?_alloc_lt _ _ _ (by simp; omega), World.cell?_alloc_lt _ _ _ (by simpa using hBl)]; exact hcW
  have HJ := Lib.hid hJ
  have HJx := Lib.hid hJx
  have HY := Lib.hid hY'
  have H0 := Lib.hid h0
  have HT := Lib.hid hTW
  clear hJ hJx hY hY' h0 hT hTW hf0 hc h0B
  refine callsIn_of_wp_marks Tryd.func68 rfl trivial ?_ rfl
  simp only [Tryd.ntmps68, List.size_toArray, List.length_cons, List.length_nil, Nat.reduceAdd, Nat.reduceSub, Array.replicate_succ, Array.replicate_zero, List.push_toArray, List.append_toArray, List.nil_append, List.cons_append]
  gi_wp2
  refine wpIn_wide.2 (wp_scope_straight ((wpIn_wide (n := 8)).1 ?_))
  gi_wp2
  refine wpIn_label ?_
  rename_i hKK
  refine hKK _ _ ?_
  refine wpIn_wide.2 ?_
  go_wp2_with (go_at_call 60; refine (all_any _ _).mono ?_; rintro e w' ⟨rfl, rfl⟩)
  refine (wpIn_wide (n := 8)).1 ?_
  obtain ⟨h, hh⟩ : ∃ h, h = W.heap.size := ⟨_, rfl⟩
  rw [← hh]
  rw [← hh] at HJ HJx
  obtain ⟨W0, hW0⟩ : ∃ W0, W0 = ((((W.alloc (.cells #[.func (.yield l) #[] #[]] 80)).alloc (.cells #[.slice none 0 0] 66)).alloc (.cells #[.int .i64 0] 3)).alloc (.cells #[.int .i64 0] 3)).alloc (.cells #[.string s] 9) := ⟨_, rfl⟩
  have hsz0 : W0.heap.size = h + 5 := by rw [hW0, hh]; simp
  have hB0 : Below h W W0 := by
    rw [hW0, hh]
    exact (((((Below.refl _ W).alloc (Nat.le_refl _) _).alloc (by simp) _).alloc (by simp; omega) _).alloc (by simp; omega) _).alloc (by simp; omega) _
  have hI0 : InI h f0 J l s ([], []) W0 := by
    refine ⟨fun k => f0 k ∨ (h ≤ k ∧ k < h + 5), none, 0, 0, ?_, ?_, fun k hk => .inl hk, fun j h1 h2 => .inr ⟨h1, h2⟩, fun g hg => by cases hg⟩
    · refine ⟨Turn.refl _ _ _, KeepsOthers.refl _, ?_, ?_, ?_, ?_, ?_, OB.none_ _ _, (fun g hg => by cases hg), by omega, ⟨.inr (by omega), .inr (by omega), .inr (by omega)⟩, ?_, ?_⟩
      · rw [hW0, hh]; exact ((((Boxed.new W _ _).alloc _).alloc _).alloc _).alloc _
      · have := (((Boxed.new (W.alloc (.cells #[.func (.yield l) #[] #[]] 80)) 66 (.slice none 0 0)).alloc (.cells #[.int .i64 0] 3)).alloc (.cells #[.int .i64 0] 3)).alloc (.cells #[.string s] 9)
        rw [hW0, hh]; simpa using this
      · have := ((Boxed.new ((W.alloc (.cells #[.func (.yield l) #[] #[]] 80)).alloc (.cells #[.slice none 0 0] 66)) 3 (.int .i64 0)).alloc (.cells #[.int .i64 0] 3)).alloc (.cells #[.string s] 9)
        rw [hW0, hh]; simpa [sumC] using this
      · have := (Boxed.new (((W.alloc (.cells #[.func (.yield l) #[] #[]] 80)).alloc (.cells #[.slice none 0 0] 66)).alloc (.cells #[.int .i64 0] 3)) 3 (.int .i64 0)).alloc (.cells #[.string s] 9)
        rw [hW0, hh, show wc (([], []) : List (List Int) × List Int).2 = 0 from wc_nil]; simpa using this
      · have := Boxed.new ((((W.alloc (.cells #[.func (.yield l) #[] #[]] 80)).alloc (.cells #[.slice none 0 0] 66)).alloc (.cells #[.int .i64 0] 3)).alloc (.cells #[.int .i64 0] 3)) 9 (.string s)
        rw [hW0, hh]; simpa using this
      · exact HT.out.below (by rw [← hh]; exact hB0)
      · have h1 := HT.out.mg; have h2 := HT.out.wg; omega
    · exact HJ.out _ f0 _ W W0 H0.out (Turn.of_below (by rw [← hh]; exact hB0)) (fun k hk => hk.imp id (fun hk => ⟨by omega, by omega⟩))
  have hbase : h + 5 ≤ W0.heap.size := by omega
  have hbase2 : W0.heap.size ≤ h + 5 := by omega
  rw [← hW0]
  have hcs : W0.cell? ⟨h + 1 + 1 + 1 + 1, 0, none⟩ = some (.string s) := by
    obtain ⟨f, A, m, c, hC, _⟩ := hI0
    exact hC.b4.cell
  have HH := Lib.hid hh
  clear hW0 hB0 hsz0 hh hcW hBl hld
  refine wpIn_rangeFunc_ownG rfl (by omega) (gf := 70) (lb := #[.pointer (some ⟨h + 1 + 1 + 1 + 1, 0, none⟩)]) rfl trivial (enters_of Tryd.func70 (by kernel_rfl) rfl)
    (all_stops 7 (by omega) (h + 1 + 1 + 1 + 1) 0 s hs _ hcs) KpS.t (KpS.b (by omega)) (Below.refl _ _) (fun _ => rfl)
    (fun pre X => InI h f0 J l s (run (rr pre)) X)
    (fun c pre X => c = .ret ∧ ∃ f, Jx (prs 0 (run (rr pre)).1) f X)
    (fun pre X Y row hi hg hr => inI_own HJ.out hi hg (fun r e => ⟨by have := (hr r e).1; omega, (hr r e).2⟩))
    (fun c pre X Y row hi hg hr => ⟨hi.1, hi.2.elim fun f hj => ⟨f, HJx.out _ f f X Y hj (Turn.of_grown hg (fun k e => ⟨by have := (hr k e).1; omega, .inr (hr k e).2⟩)) (fun _ h => .inl h)⟩⟩)
    hI0
    (fun x => { tmps := #[.func (.yield l) #[] #[], .pointer (some ⟨Bn, 0, none⟩), .pointer (some ⟨h, 0, none⟩), .pointer (some ⟨h + 1, 0, none⟩), .pointer (some ⟨h + 1 + 1, 0, none⟩), .pointer (some ⟨h + 1 + 1 + 1, 0, none⟩), undef, .int .i32 x.2, .string s, .func (.func 70) #[] #[.pointer (some ⟨h + 1 + 1 + 1 + 1, 0, none⟩)], .int .i64 x.1, .int .i32 x.2, undef, undef, undef, undef, undef, undef, undef, undef, undef, undef, undef, undef, undef, undef, undef, undef, undef, undef, undef, undef, undef, undef, undef, undef, undef, undef, undef, undef, undef, undef, undef, undef, undef, undef, undef, undef, undef, undef], defers := [] }) ?assign ?body ?done ?stop
  case assign =>
    intro l x W K hK
    simp only [encR]
    rw [put_two]
    gi_wp2
    exact hK
  case body =>
    rintro lo pre x X hI hlen
    have hrun := rr_snoc pre x
    have hcount := run_count (rr pre)
    have hrl : (rr pre).length = pre.length := by simp [rr]
    have h64 := run_len (rr pre)
    generalize hq : run (rr pre) = q at hI hrun hcount h64
    obtain ⟨f, A, m, c, hC, hj, h1, h2, h3⟩ := hI
    have hm64 : m ≤ 64 := by rw [hC.row.len]; exact h64
    have HR := Lib.hid hrun
    have HQ := Lib.hid hcount
    have HJ1 := Lib.hid hj
    have HF1 := Lib.hid h1
    have HF2 := Lib.hid h2
    have HF3 := Lib.hid h3
    have HC := Lib.hid hC
    clear hq hrun hcount hj h1 h2 h3 hC hrl h64
    rcases kinds x.2 with hk | hk | hk
    · -- a control
      have HK := Lib.hid hk
      clear hk
      gi_wp2_with (refine ⟨trivial, ?_⟩; gi_at_call 13; refine (CallsIn.inRound lo (callsIn_wide.2 (ctl_any _ _))).mono ?_; rintro e w' ⟨rfl, rfl⟩; rw [HK.out])
      refine ⟨KeepsFrom.refl _ _, ⟨Below.refl _ _, id⟩, ?_⟩
      show InI h f0 J l s (run (rr (pre ++ [x]))) X
      rw [HR.out, st2_ct HK.out]
      exact ⟨f, A, m, c, HC.out, HJ1.out, HF1.out, HF2.out, HF3.out⟩
    · -- a mark
      obtain ⟨hk0, hk1⟩ := hk
      have HK0 := Lib.hid hk0
      have HK1 := Lib.hid hk1
      clear hk0 hk1
      gi_wp2_with (first
        | (refine ⟨trivial, ?_⟩; gi_at_call 13; refine (CallsIn.inRound lo (callsIn_wide.2 (ctl_any _ _))).mono ?_; rintro e w' ⟨rfl, rfl⟩; rw [HK0.out])
        | (refine ⟨trivial, ?_⟩; gi_at_call 15; refine (CallsIn.inRound lo (callsIn_wide.2 (mark_any _ _ HC.out.tabs))).mono ?_; rintro e w1 ⟨rfl, hb1⟩; rw [HK1.out]; have hC1 := Lib.hid (HC.out.below hb1); have hc1 := hC1.out.b1.cell)
        | (refine ⟨trivial, ?_⟩; gi_at_call 69; refine (CallsIn.inRound lo (callsIn_wide.2 (join_any _ (h + 5) A m c q.2 x.2 hC1.out.row (by omega) hC1.out.sz))).mono ?_; rintro e w2 ⟨A2, m2, c2, rfl, hO, hg, hm⟩; have hC2 := Lib.hid (hC1.out.app hg hO hm); clear hc1; have hc1 := hC2.out.b1.cell; have hf1 := hC2.out.b1.frozen))
      have hC3 := hC2.out.set1 (.slice A2 m2 c2)
      refine ⟨hC3.keeps.from _, kps_of hC3, ?_⟩
      show InI h f0 J l s (run (rr (pre ++ [x]))) _
      rw [HR.out, st2_mk HK0.out HK1.out]
      refine inI_next (q := (q.1, jn q.2 x.2)) (A := A2) (n := m2) (c := c2) HJ.out ?_ HJ1.out HF1.out HF2.out
      rw [wc_jn]
      exact hC3
    · -- a base
      have hb := hk
      obtain ⟨hk0, hk1⟩ := hk
      have HK0 := Lib.hid hk0
      have HK1 := Lib.hid hk1
      have HB := Lib.hid hb
      clear hk0 hk1 hb
      have hpl : (prs 0 q.1).length < s.size ∨ q.2 = [] := by
        by_cases ho : q.2 = []
        · exact .inr ho
        · refine .inl ?_
          have h1 := HQ.out
          unfold fin at h1
          rw [if_neg ho, List.length_append] at h1
          have h2 : (rr pre).length = pre.length := by simp [rr]
          rw [prs_length]
          simp at h1
          omega
      have HPL := Lib.hid hpl
      clear hpl
      by_cases ho : q.2 = []
      · have hm0 : m = 0 := by rw [HC.out.row.len, ho]; rfl
        have HO := Lib.hid ho
        clear ho
        subst hm0
        gi_wp2_with (first
          | (refine ⟨trivial, ?_⟩; gi_at_call 13; refine (CallsIn.inRound lo (callsIn_wide.2 (ctl_any _ _))).mono ?_; rintro e w' ⟨rfl, rfl⟩; rw [HK0.out])
          | (refine ⟨trivial, ?_⟩; gi_at_call 15; refine (CallsIn.inRound lo (callsIn_wide.2 (mark_any _ _ HC.out.tabs))).mono ?_; rintro e w1 ⟨rfl, hb1⟩; rw [HK1.out]; have hC1 := Lib.hid (HC.out.below hb1); have hc1 := hC1.out.b1.cell))
        refine ⟨fun _ h => (by cases h), ?_⟩
        gi_wp2
        obtain ⟨wS, hwS⟩ : ∃ wS, wS = w1 := ⟨_, rfl⟩
        rw [← hwS]
        have hCS : Cl h f X l s A 0 c (eb q.2) (.slice A 0 c) (sumC q.1) (wc q.2) wS := by rw [hwS]; exact hC1.out
        obtain ⟨fS, hfS⟩ : ∃ fS, fS = f := ⟨_, rfl⟩
        obtain ⟨XS, hXS⟩ : ∃ XS, XS = X := ⟨_, rfl⟩
        rw [← hfS, ← hXS] at hCS
        have HCS := Lib.hid hCS
        have HKF : Hid (KeepsFrom W0.heap.size X XS) := by rw [hXS]; exact KeepsFrom.refl _ _
        have HB0 : Hid (Below 0 X XS) := by rw [hXS]; exact Below.refl _ _
        have HJS : Hid (J (prs 0 (fin q)) fS XS) := by
          have e : fin q = q.1 := by unfold fin; rw [if_pos HO.out]
          rw [e, hfS, hXS]; exact HJ1.out
        have HFS1 : Hid (∀ k, f0 k → fS k) := by rw [hfS]; exact HF1.out
        have HFS2 : Hid (∀ j, h ≤ j → j < h + 5 → fS j) := by rw [hfS]; exact HF2.out
        have ha0 := sumC_bd q.1
        have ha1 := wc_01 q.2
        obtain ⟨hsA, hsB⟩ := ha0
        obtain ⟨hwA, hwB⟩ := ha1
        have ha2 : sumC q.1 ≤ 3000000 := by
          have h1 := HQ.out
          have h2 : (rr pre).length = pre.length := by simp [rr]
          have h3 : (q.1).length ≤ (fin q).length := by unfold fin; split <;> simp
          omega
        clear hCS hwS hfS hXS hC1 hc1 hb1 HC HJ1 HF1 HF2 HF3 hm64 hI0 HPL HO hcs
        have hmx : Tryd.prog.follows .mixedOrders = true := by kernel_rfl
        refine wpIn_region_any hmx ?_
        change wpAnyIn _ _ _ _ _ _ _ _ _ wS.drew
        refine wpAnyIn_inv (fun listed a w2 => ∃ b0 b1 b2 b3 b4 b5 u32 u33 u34 u35 u36, listed = #[b0, b1, b2, b3, b4, b5] ∧
          a = { tmps := #[.func (.yield l) #[] #[], .pointer (some ⟨Bn, 0, none⟩), .pointer (some ⟨h, 0, none⟩), .pointer (some ⟨h + 1, 0, none⟩), .pointer (some ⟨h + 1 + 1, 0, none⟩), .pointer (some ⟨h + 1 + 1 + 1, 0, none⟩), undef, .int .i32 x.2, .string s, .func (.func 70) #[] #[.pointer (some ⟨h + 1 + 1 + 1 + 1, 0, none⟩)], .int .i64 x.1, .int .i32 x.2, .bool false, .int .i32 x.2, .bool false, .bool false, .int .i32 x.2, .bool false, undef, undef, undef, .slice A 0 c, .int .i64 0, .bool false, .bool false, undef, undef, undef, undef, undef, undef, .bool false, u32, u33, u34, u35, u36, undef, undef, undef, undef, undef, undef, undef, undef, undef, undef, undef, undef, undef], defers := [] } ∧
          R9 h fS XS l s A 0 c (eb q.2) (sumC q.1) (wc q.2) x.2 b0 b1 b2 b3 b4 b5 u32 u33 u34 u35 u36 w2) ?_ ?_ _ _ _ _ (by decide) ?_
        · rintro listed a w2 hr ⟨b0, b1, b2, b3, b4, b5, u32, u33, u34, u35, u36, rfl, rfl, hI9⟩
          obtain rfl : b0 = true := listed_of hr (j := 0) rfl (by simp)
          obtain rfl : b1 = true := listed_of hr (j := 1) rfl (by simp [Region.binds])
          obtain rfl : b2 = true := listed_of hr (j := 2) rfl (by simp)
          obtain rfl : b3 = true := listed_of hr (j := 3) rfl (by simp [Region.binds])
          obtain rfl : b4 = true := listed_of hr (j := 4) rfl (by simp [Region.binds])
          obtain rfl : b5 = true := listed_of hr (j := 5) rfl (by simp [Region.binds])
          obtain ⟨A9, n9, c9, k9, v9, hC9, _, w4y, _, w5y⟩ := hI9.ws
          obtain ⟨rfl, rfl⟩ := w4y rfl
          obtain rfl := w5y rfl
          have HC9 := Lib.hid hC9
          clear hC9 w4y w5y hI9 hr
          gi_wp2
          refine wpIn_region_any hmx ?_
          change wpAnyIn _ _ _ _ _ _ _ _ _ w2.drew
          refine wpAnyIn_inv (fun listed a w3 => ∃ b0 b1 b2 b3 b4 b5 b6 u37 u38 u39 u40 u41, listed = #[b0, b1, b2, b3, b4, b5, b6] ∧
            a = { tmps := #[.func (.yield l) #[] #[], .pointer (some ⟨Bn, 0, none⟩), .pointer (some ⟨h, 0, none⟩), .pointer (some ⟨h + 1, 0, none⟩), .pointer (some ⟨h + 1 + 1, 0, none⟩), .pointer (some ⟨h + 1 + 1 + 1, 0, none⟩), undef, .int .i32 x.2, .string s, .func (.func 70) #[] #[.pointer (some ⟨h + 1 + 1 + 1 + 1, 0, none⟩)], .int .i64 x.1, .int .i32 x.2, .bool false, .int .i32 x.2, .bool false, .bool false, .int .i32 x.2, .bool false, undef, undef, undef, .slice A 0 c, .int .i64 0, .bool false, .bool false, undef, undef, undef, undef, undef, undef, .bool false, u32, u33, u34, u35, .slice A9 n9 c9, u37, u38, u39, u40, u41, undef, undef, undef, undef, undef, undef, undef, undef], defers := [] } ∧
            R10 h fS XS l s A9 n9 c9 (e4 x.2) (.slice A9 n9 c9) (sumC q.1) (wc q.2) x.2 b0 b1 b2 b3 b4 b5 b6 u37 u38 u39 u40 u41 w3) ?_ ?_ _ _ _ _ (by decide) ?_
          · rintro listed a w3 hr ⟨b0, b1, b2, b3, b4, b5, b6, u37, u38, u39, u40, u41, rfl, rfl, hI10⟩
            obtain rfl : b0 = true := listed_of hr (j := 0) rfl (by simp)
            obtain rfl : b1 = true := listed_of hr (j := 1) rfl (by simp)
            obtain rfl : b2 = true := listed_of hr (j := 2) rfl (by simp [Region.binds])
            obtain rfl : b3 = true := listed_of hr (j := 3) rfl (by simp)
            obtain rfl : b4 = true := listed_of hr (j := 4) rfl (by simp [Region.binds])
            obtain rfl : b5 = true := listed_of hr (j := 5) rfl (by simp [Region.binds])
            obtain rfl : b6 = true := listed_of hr (j := 6) rfl (by simp [Region.binds])
            obtain ⟨p2, p3, hC10, _, w5y, _, w6y⟩ := hI10.ws
            obtain rfl := w5y rfl
            obtain rfl := w6y rfl
            refine ⟨HKF.out.trans (hC10.keeps.from _), ⟨HB0.out.trans hC10.turn.below0, fun _ => hC10.b4.cell⟩, ?_⟩
            show InI h f0 J l s (run (rr (pre ++ [x]))) _
            rw [HR.out, st2_base HB.out]
            have hn9 : n9 = (eb [x.2]).length := by rw [hC10.row.len]; simp [eb]
            refine inI_next (q := (fin q, [x.2])) (A := A9) (n := n9) (c := c9) HJ.out ?_ HJS.out HFS1.out HFS2.out
            have e1 : sumC (fin q) = sumC q.1 + wc q.2 := sumC_fin q
            have e2 : eb [x.2] = e4 x.2 := by simp [eb]
            show Cl h fS XS l s A9 n9 c9 (eb [x.2]) (.slice A9 n9 c9) (sumC (fin q)) (ofI x.2) w3
            rw [e1, e2]
            exact hC10
          · rintro i listed a w3 ⟨b0, b1, b2, b3, b4, b5, b6, u37, u38, u39, u40, u41, rfl, rfl, hI10⟩ hi
            obtain ⟨hf, o, ho, hdep⟩ := mem_ready.1 hi
            have hi7 : i < 7 := (Array.getElem?_eq_some_iff.1 ho).1
            have hic : i = 0 ∨ i = 1 ∨ i = 2 ∨ i = 3 ∨ i = 4 ∨ i = 5 ∨ i = 6 := by omega
            rcases hic with rfl | rfl | rfl | rfl | rfl | rfl | rfl
            all_goals
              simp at ho
              subst ho
              simp [Region.binds] at hdep
              simp at hf
            all_goals try subst hf
            all_goals try simp only [forall_const] at hdep
            · -- 0: ahead
              have e2 := nb (fun e => (hI10.q2 e).1) rfl
              have e5 := nb (fun e => (hI10.q5 e).1) e2
              obtain ⟨p2, p3, hC10, w5n, w5y, w6n, w6y⟩ := hI10.ws
              obtain rfl := w5n e5
              have hcl := hC10.b2.cell
              have HI := Lib.hid hI10
              have E2 := Lib.hid e2
              clear hI10 e2 e5 hC10 w5n w5y w6n w6y
              refine wpOpIn_step rfl (fun K' hK => ?_)
              go_simp
              refine hK _ _ ?_
              exact ⟨true, b1, b2, b3, b4, b5, b6, _, u38, u39, u40, u41, rfl, rfl, ⟨fun _ => rfl, HI.out.s1, HI.out.s2, HI.out.s3, HI.out.s4, (fun e => by rw [E2.out] at e; cases e), HI.out.q4, HI.out.q5, HI.out.q6, HI.out.ws⟩⟩
            · -- 1: columns
              have e2 := nb (fun e => (hI10.q2 e).2) rfl
              have e5 := nb (fun e => (hI10.q5 e).1) e2
              have e6 := nb hI10.q6 e5
              obtain ⟨p2, p3, hC10, w5n, w5y, w6n, w6y⟩ := hI10.ws
              obtain rfl := w6n e6
              have hcl := hC10.b3.cell
              have HI := Lib.hid hI10
              have E2 := Lib.hid e2
              clear hI10 e2 e5 e6 hC10 w5n w5y w6n w6y
              refine wpOpIn_step rfl (fun K' hK => ?_)
              go_simp
              refine hK _ _ ?_
              exact ⟨b0, true, b2, b3, b4, b5, b6, u37, _, u39, u40, u41, rfl, rfl, ⟨HI.out.s0, fun _ => rfl, HI.out.s2, HI.out.s3, HI.out.s4, (fun e => by rw [E2.out] at e; cases e), HI.out.q4, HI.out.q5, HI.out.q6, HI.out.ws⟩⟩
            · -- 2: the sum
              obtain ⟨rfl, rfl⟩ := hdep
              have e5 := nb (fun e => (hI10.q5 e).1) rfl
              obtain rfl := hI10.s0 rfl
              obtain rfl := hI10.s1 rfl
              have HI := Lib.hid hI10
              have E5 := Lib.hid e5
              clear hI10 e5
              have hws : IntKind.i64.wrap (sumC q.1 + wc q.2) = sumC q.1 + wc q.2 := IntWalk.i64_in _ (by omega)
              refine wpOpIn_step rfl (fun K' hK => ?_)
              go_simp
              refine hK _ _ ?_
              exact ⟨true, true, true, b3, b4, b5, b6, _, _, _, u40, u41, rfl, rfl, ⟨fun _ => rfl, fun _ => rfl, fun _ => by first | rfl | rw [hws] | go_num, HI.out.s3, HI.out.s4, (fun _ => ⟨rfl, rfl⟩), HI.out.q4, (fun e => by rw [E5.out] at e; cases e), HI.out.q6, HI.out.ws⟩⟩
            · -- 3: the rune
              have e4' := nb hI10.q4 rfl
              have HI := Lib.hid hI10
              have E4 := Lib.hid e4'
              clear hI10 e4'
              refine wpOpIn_step rfl (fun K' hK => ?_)
              go_simp
              refine hK _ _ ?_
              exact ⟨b0, b1, b2, true, b4, b5, b6, u37, u38, u39, _, u41, rfl, rfl, ⟨HI.out.s0, HI.out.s1, HI.out.s2, fun _ => rfl, HI.out.s4, HI.out.q2, fun _ => rfl, HI.out.q5, HI.out.q6, HI.out.ws⟩⟩
            · -- 4: the call
              obtain rfl := hdep
              have e5 := nb (fun e => (hI10.q5 e).2) rfl
              obtain rfl := hI10.s3 rfl
              obtain ⟨p2, p3, hC10, w5n, w5y, w6n, w6y⟩ := hI10.ws
              have HI := Lib.hid hI10
              have HCX := Lib.hid hC10
              have HW := Lib.hid (And.intro w5n (And.intro w5y (And.intro w6n w6y)))
              have E5 := Lib.hid e5
              clear hI10 e5 hC10 w5n w5y w6n w6y
              refine wpOpIn_step rfl (fun K' hK => ?_)
              go_simp
              refine ⟨trivial, (CallsIn.inRound lo (callsIn_wide.2 (of_any _ _ HCX.out.tabs))).mono ?_⟩
              rintro e w4 ⟨rfl, hb4⟩
              refine hK _ _ ?_
              exact ⟨b0, b1, b2, true, true, b5, b6, u37, u38, u39, _, _, rfl, rfl, ⟨HI.out.s0, HI.out.s1, HI.out.s2, fun _ => rfl, fun _ => rfl, HI.out.q2, fun _ => rfl, (fun e => by rw [E5.out] at e; cases e), HI.out.q6, ⟨p2, p3, HCX.out.below hb4, HW.out.1, HW.out.2.1, HW.out.2.2.1, HW.out.2.2.2⟩⟩⟩
            · -- 5: the first store
              have hb2 : b2 = true := by simp_all
              have hb4' : b4 = true := by simp_all
              subst hb2
              subst hb4'
              have e6 := nb hI10.q6 rfl
              obtain rfl := hI10.s2 rfl
              obtain ⟨p2, p3, hC10, w5n, w5y, w6n, w6y⟩ := hI10.ws
              have hcl := hC10.b2.cell
              have hfl := hC10.b2.frozen
              have HI := Lib.hid hI10
              have HCX := Lib.hid hC10
              have H6 := Lib.hid (w6n e6)
              have E6 := Lib.hid e6
              clear hI10 e6 hC10 w5n w5y w6n w6y hdep
              refine wpOpIn_step rfl (fun K' hK => ?_)
              go_simp
              refine hK _ _ ?_
              exact ⟨b0, b1, true, b3, true, true, b6, u37, u38, _, u40, u41, rfl, rfl, ⟨HI.out.s0, HI.out.s1, fun _ => rfl, HI.out.s3, HI.out.s4, HI.out.q2, HI.out.q4, (fun _ => ⟨rfl, rfl⟩), fun _ => rfl, ⟨_, p3, HCX.out.set2 _, (fun e => by cases e), (fun _ => rfl), (fun _ => H6.out), (fun e => by rw [E6.out] at e; cases e)⟩⟩⟩
            · -- 6: the second store
              have hb5 : b5 = true := by simp_all
              have hb4' : b4 = true := by simp_all
              subst hb5
              subst hb4'
              obtain rfl := hI10.s4 rfl
              obtain ⟨p2, p3, hC10, w5n, w5y, w6n, w6y⟩ := hI10.ws
              have hcl := hC10.b3.cell
              have hfl := hC10.b3.frozen
              have HI := Lib.hid hI10
              have HCX := Lib.hid hC10
              have H5 := Lib.hid (w5y rfl)
              clear hI10 hC10 w5n w5y w6n w6y hdep
              refine wpOpIn_step rfl (fun K' hK => ?_)
              go_simp
              refine hK _ _ ?_
              exact ⟨b0, b1, b2, b3, true, true, true, u37, u38, u39, u40, _, rfl, rfl, ⟨HI.out.s0, HI.out.s1, HI.out.s2, HI.out.s3, fun _ => rfl, HI.out.q2, HI.out.q4, HI.out.q5, fun _ => rfl, ⟨p2, _, HCX.out.set3 _, (fun e => by cases e), (fun _ => H5.out), (fun e => by cases e), (fun _ => rfl)⟩⟩⟩
          · exact ⟨false, false, false, false, false, false, false, _, _, _, _, _, rfl, rfl, ⟨(fun e => by cases e), (fun e => by cases e), (fun e => by cases e), (fun e => by cases e), (fun e => by cases e), (fun e => by cases e), (fun e => by cases e), (fun e => by cases e), (fun e => by cases e), ⟨_, _, HC9.out.drew, (fun _ => rfl), (fun e => by cases e), (fun _ => rfl), (fun e => by cases e)⟩⟩⟩
        · rintro i listed a w2 ⟨b0, b1, b2, b3, b4, b5, u32, u33, u34, u35, u36, rfl, rfl, hI9⟩ hi
          obtain ⟨hf, o, ho, hdep⟩ := mem_ready.1 hi
          have hi6 : i < 6 := (Array.getElem?_eq_some_iff.1 ho).1
          have hic : i = 0 ∨ i = 1 ∨ i = 2 ∨ i = 3 ∨ i = 4 ∨ i = 5 := by omega
          rcases hic with rfl | rfl | rfl | rfl | rfl | rfl
          all_goals
            simp at ho
            subst ho
            simp [Region.binds] at hdep
            simp at hf
          all_goals try subst hf
          all_goals try simp only [forall_const] at hdep
          · -- 0: open
            have e1 := nb hI9.q1 rfl
            have e4' := nb (fun e => (hI9.q4 e).1) e1
            have e5 := nb hI9.q5 e4'
            obtain ⟨A9, n9, c9, k9, v9, hC9, w4n, w4y, w5n, w5y⟩ := hI9.ws
            have hcl : w2.cell? ⟨h + 1, 0, none⟩ = some (.slice A 0 c) := by rw [← w5n e5]; exact hC9.b1.cell
            have HI := Lib.hid hI9
            have E1 := Lib.hid e1
            clear hI9 e1 e4' e5 hC9 w4n w4y w5n w5y
            refine wpOpIn_step rfl (fun K' hK => ?_)
            go_simp
            refine hK _ _ ?_
            exact ⟨true, b1, b2, b3, b4, b5, _, u33, u34, u35, u36, rfl, rfl, ⟨fun _ => rfl, HI.out.s1, HI.out.s2, HI.out.s3, (fun e => absurd (e.symm.trans E1.out) (by decide)), HI.out.q3, HI.out.q4, HI.out.q5, HI.out.ws⟩⟩
          · -- 1: open[:0]
            obtain rfl := hdep
            have e4' := nb (fun e => (hI9.q4 e).1) rfl
            obtain rfl := hI9.s0 rfl
            have HI := Lib.hid hI9
            have E4 := Lib.hid e4'
            clear hI9 e4'
            refine wpOpIn_step rfl (fun K' hK => ?_)
            go_simp
            refine hK _ _ ?_
            exact ⟨true, true, b2, b3, b4, b5, _, _, u34, u35, u36, rfl, rfl, ⟨fun _ => rfl, fun _ => rfl, HI.out.s2, HI.out.s3, fun _ => rfl, HI.out.q3, (fun e => by rw [E4.out] at e; cases e), HI.out.q5, HI.out.ws⟩⟩
          · -- 2: the rune
            have e3 := nb hI9.q3 rfl
            have HI := Lib.hid hI9
            have E3 := Lib.hid e3
            clear hI9 e3
            refine wpOpIn_step rfl (fun K' hK => ?_)
            go_simp
            refine hK _ _ ?_
            exact ⟨b0, b1, true, b3, b4, b5, u32, u33, _, u35, u36, rfl, rfl, ⟨HI.out.s0, HI.out.s1, fun _ => rfl, HI.out.s3, HI.out.q1, fun _ => rfl, HI.out.q4, HI.out.q5, HI.out.ws⟩⟩
          · -- 3: its bytes
            obtain rfl := hdep
            have e4' := nb (fun e => (hI9.q4 e).2) rfl
            obtain rfl := hI9.s2 rfl
            obtain ⟨A9, n9, c9, k9, v9, hC9, w4n, w4y, w5n, w5y⟩ := hI9.ws
            have HI := Lib.hid hI9
            have E4 := Lib.hid e4'
            have HCX := Lib.hid hC9
            have HW := Lib.hid (And.intro w4n (And.intro w4y (And.intro w5n w5y)))
            clear hI9 e4' hC9 w4n w4y w5n w5y
            refine wpOpIn_step rfl (fun K' hK => ?_)
            go_simp
            refine ⟨trivial, (CallsIn.inRound lo (callsIn_wide.2 (bytes_any _ _))).mono ?_⟩
            rintro e w4 ⟨rfl, rfl⟩
            refine hK _ _ ?_
            exact ⟨b0, b1, true, true, b4, b5, u32, u33, _, _, u36, rfl, rfl, ⟨HI.out.s0, HI.out.s1, fun _ => rfl, (fun _ _ => ⟨_, rfl, by have := Sl.new w2 (bv (e4 x.2)).toArray 5; rw [World.size_alloc]; exact this⟩), HI.out.q1, fun _ => rfl, (fun e => by rw [E4.out] at e; cases e), HI.out.q5, ⟨A9, n9, c9, k9, v9, HCX.out.alloc _, HW.out.1, HW.out.2.1, HW.out.2.2.1, HW.out.2.2.2⟩⟩⟩
          · -- 4: the append
            obtain ⟨rfl, rfl⟩ := hdep
            have e5 := nb hI9.q5 rfl
            obtain rfl := hI9.s1 rfl
            obtain ⟨g, rfl, hg⟩ := hI9.s3 rfl rfl
            obtain ⟨A9, n9, c9, k9, v9, hC9, w4n, w4y, w5n, w5y⟩ := hI9.ws
            obtain ⟨rfl, rfl, rfl, rfl⟩ := w4n rfl
            have hx4 := e4_le x.2
            obtain ⟨A5, c5, w5, hrun, hO5, hg5, hat5⟩ := run_app_u8 w2 66 (h + 5) A9 0 c9 [] hC9.row.cut0 (some ⟨g, 0, none⟩) (e4 x.2).length (e4 x.2).length (e4 x.2) _ hg rfl (fun e => by cases e) (e4 x.2).length (by omega) (by omega) hC9.sz
            have hC5 := hC9.app hg5 hO5 (fun j hj => by
              rcases hat5 with h1 | h1
              · exact .inl (by rw [← h1]; exact hj)
              · rw [h1] at hj; cases hj; exact .inr (Nat.le_refl _))
            have HI := Lib.hid hI9
            have E5 := Lib.hid e5
            have HCX := Lib.hid hC5
            have HV := Lib.hid (w5n e5)
            have HRN := Lib.hid hrun
            clear hI9 e5 hC9 w4n w4y w5n w5y hC5 hrun hO5 hg5 hat5 hg hx4
            refine wpOpIn_step rfl (fun K' hK => ?_)
            refine stepIn_app 66 rfl (.tmp 33) (.tmp 35) rfl _ _ _ _ rfl rfl HRN.out ?_
            refine hK _ _ ?_
            exact ⟨b0, true, b2, true, true, b5, u32, _, u34, _, _, rfl, rfl, ⟨HI.out.s0, fun _ => rfl, HI.out.s2, (fun _ e => by cases e), HI.out.q1, HI.out.q3, (fun _ => ⟨rfl, rfl⟩), fun _ => rfl, ⟨A5, _, c5, _, v9, HCX.out, (fun e => by cases e), (fun _ => ⟨rfl, by simp⟩), (fun _ => HV.out), (fun e => by rw [E5.out] at e; cases e)⟩⟩⟩
          · -- 5: the store
            have hb4' : b4 = true := by simp_all
            subst hb4'
            obtain ⟨A9, n9, c9, k9, v9, hC9, w4n, w4y, w5n, w5y⟩ := hI9.ws
            obtain ⟨rfl, rfl⟩ := w4y rfl
            have hcl := hC9.b1.cell
            have hfl := hC9.b1.frozen
            have HI := Lib.hid hI9
            have HCX := Lib.hid hC9
            clear hI9 hC9 w4n w4y w5n w5y hdep
            refine wpOpIn_step rfl (fun K' hK => ?_)
            go_simp
            refine hK _ _ ?_
            exact ⟨b0, b1, b2, b3, true, true, u32, u33, u34, u35, _, rfl, rfl, ⟨HI.out.s0, HI.out.s1, HI.out.s2, (fun _ e => by cases e), HI.out.q1, HI.out.q3, HI.out.q4, fun _ => rfl, ⟨A9, n9, c9, _, _, HCX.out.set1 _, (fun e => by cases e), (fun _ => ⟨rfl, rfl⟩), (fun e => by cases e), (fun _ => rfl)⟩⟩⟩
        · exact ⟨false, false, false, false, false, false, _, _, _, _, _, rfl, rfl, ⟨(fun e => by cases e), (fun e => by cases e), (fun e => by cases e), (fun e => by cases e), (fun e => by cases e), (fun e => by cases e), (fun e => by cases e), (fun e => by cases e), ⟨_, _, _, _, _, HCS.out.drew, (fun _ => ⟨rfl, rfl, rfl, rfl⟩), (fun e => by cases e), (fun _ => rfl), (fun e => by cases e)⟩⟩⟩
      · have hm0 : 0 < (m : Int) := by rw [HC.out.row.len]; have := eb_pos ho; omega
        have hm1 : 0 < m := by omega
        have HO := Lib.hid ho
        have hpl : (prs 0 q.1).length < s.size := HPL.out.resolve_right ho
        have HP2 := Lib.hid hpl
        have hel : elC (sumC q.1, eb q.2) := ⟨by show (eb q.2).length ≤ 64; rw [← HC.out.row.len]; exact hm64, (sumC_bd q.1).1, by
          have h1 := HQ.out
          have h2 : (rr pre).length = pre.length := by simp [rr]
          have h3 : (q.1).length ≤ (fin q).length := by unfold fin; split <;> simp
          have h4 := (sumC_bd q.1).2
          show sumC q.1 ≤ 3000000
          omega⟩
        have HEL := Lib.hid hel
        clear hel
        clear ho hpl
        gi_wp2_with (first
          | (refine ⟨trivial, ?_⟩; gi_at_call 13; refine (CallsIn.inRound lo (callsIn_wide.2 (ctl_any _ _))).mono ?_; rintro e w' ⟨rfl, rfl⟩; rw [HK0.out])
          | (refine ⟨trivial, ?_⟩; gi_at_call 15; refine (CallsIn.inRound lo (callsIn_wide.2 (mark_any _ _ HC.out.tabs))).mono ?_; rintro e w1 ⟨rfl, hb1⟩; rw [HK1.out]; have hC1 := Lib.hid (HC.out.below hb1); have hc1 := hC1.out.b1.cell; have hc0 := hC1.out.b0.cell; have hc2 := hC1.out.b2.cell;
             have hcv := run_str_sl w1 w1.heap.size A m c (eb q.2) hC1.out.row.sl hC1.out.row.len;
             obtain ⟨fn, tmps, assign, body, hy, hR⟩ := HY.out 5 (prs 0 q.1) (sumC q.1, eb q.2) (fun k => f k ∨ (X.heap.size ≤ k ∧ k < w1.heap.size)) w1 (HJ.out _ f _ X w1 HJ1.out hC1.out.turn (fun k hk => hk)) HP2.out HEL.out; simp only [encC] at hy))
        refine (RoundIn.inR lo hR).mono ?_
        rintro e W3 (⟨rfl, hJ3, hk3⟩ | ⟨rfl, hx3, hk3⟩)
        · clear hR hy hcv hc0 hc1 hc2
          gi_wp2
          obtain ⟨wS, hwS⟩ : ∃ wS, wS = W3 := ⟨_, rfl⟩
          rw [← hwS]
          obtain ⟨fS, hfS⟩ : ∃ fS : Nat → Prop, fS = fun k => f k ∨ (X.heap.size ≤ k ∧ k < w1.heap.size) := ⟨_, rfl⟩
          obtain ⟨XS, hXS⟩ : ∃ XS, XS = W3 := ⟨_, rfl⟩
          have HFS1 : Hid (∀ k, f0 k → fS k) := by rw [hfS]; exact fun k hk => .inl (HF1.out k hk)
          have HFS2 : Hid (∀ j, h ≤ j → j < h + 5 → fS j) := by rw [hfS]; exact fun j a b => .inl (HF2.out j a b)
          rw [← hfS] at hJ3 hk3
          have hmine : ∀ g, blk A = some g → fS g := by
            rw [hfS]
            intro g hg
            exact (hC1.out.mine g hg).imp id (fun hl => ⟨hl, (hC1.out.row.blk_lt g hg).2⟩)
          have hCS : Cl h fS XS l s A m c (eb q.2) (.slice A m c) (sumC q.1) (wc q.2) wS := by
            rw [hwS, hXS]
            refine hC1.out.again hk3.below.size (fun j hj => hk3.mine j ?_) ⟨HFS2.out _ (by omega) (by omega), HFS2.out _ (by omega) (by omega), HFS2.out _ (by omega) (by omega)⟩ hmine
            rcases hj with hj | hj | hj | hj
            · exact HFS2.out j hj.1 hj.2
            · exact hmine j hj
            · subst hj; exact HFS1.out _ h0m
            · subst hj; exact HFS1.out _ h0w
          have HCS := Lib.hid hCS
          have HKF : Hid (KeepsFrom W0.heap.size X XS) := by
            rw [hXS]
            have hHH := HH.out
            exact (hC1.out.keeps.from _).trans ⟨hk3.keeps.size, fun k o hk ho hc => hk3.keeps.same k o (by omega) ho hc⟩
          have HB0 : Hid (Below 0 X XS) := by rw [hXS]; exact hC1.out.turn.below0.trans hk3.below
          have HJS : Hid (J (prs 0 (fin q)) fS XS) := by
            have e : fin q = q.1 ++ [q.2] := by unfold fin; rw [if_neg HO.out]
            rw [e, prs_snoc, hXS, Int.zero_add]; exact hJ3
          have ha0 := sumC_bd q.1
          have ha1 := wc_01 q.2
          obtain ⟨hsA, hsB⟩ := ha0
          obtain ⟨hwA, hwB⟩ := ha1
          have ha2 : sumC q.1 ≤ 3000000 := by
            have h1 := HQ.out
            have h2 : (rr pre).length = pre.length := by simp [rr]
            have h3 : (q.1).length ≤ (fin q).length := by unfold fin; split <;> simp
            omega
          clear hCS hwS hfS hXS hC1 hb1 HC HJ1 HF1 HF2 HF3 hm64 hI0 HPL HO hcs hJ3 hk3 hmine HP2
          have hmx : Tryd.prog.follows .mixedOrders = true := by kernel_rfl
          refine wpIn_region_any hmx ?_
          change wpAnyIn _ _ _ _ _ _ _ _ _ wS.drew
          refine wpAnyIn_inv (fun listed a w2 => ∃ b0 b1 b2 b3 b4 b5 u32 u33 u34 u35 u36, listed = #[b0, b1, b2, b3, b4, b5] ∧
            a = { tmps := #[.func (.yield l) #[] #[], .pointer (some ⟨Bn, 0, none⟩), .pointer (some ⟨h, 0, none⟩), .pointer (some ⟨h + 1, 0, none⟩), .pointer (some ⟨h + 1 + 1, 0, none⟩), .pointer (some ⟨h + 1 + 1 + 1, 0, none⟩), undef, .int .i32 x.2, .string s, .func (.func 70) #[] #[.pointer (some ⟨h + 1 + 1 + 1 + 1, 0, none⟩)], .int .i64 x.1, .int .i32 x.2, .bool false, .int .i32 x.2, .bool false, .bool false, .int .i32 x.2, .bool false, undef, undef, undef, .slice A m c, .int .i64 m, .bool true, .bool true, .func (.yield l) #[] #[], .int .i64 (sumC q.1), .slice A m c, .string ⟨(eb q.2).toArray⟩, .bool true, .bool false, .bool false, u32, u33, u34, u35, u36, undef, undef, undef, undef, undef, undef, undef, undef, undef, undef, undef, undef, undef], defers := [] } ∧
            R9 h fS XS l s A m c (eb q.2) (sumC q.1) (wc q.2) x.2 b0 b1 b2 b3 b4 b5 u32 u33 u34 u35 u36 w2) ?_ ?_ _ _ _ _ (by decide) ?_
          · rintro listed a w2 hr ⟨b0, b1, b2, b3, b4, b5, u32, u33, u34, u35, u36, rfl, rfl, hI9⟩
            obtain rfl : b0 = true := listed_of hr (j := 0) rfl (by simp)
            obtain rfl : b1 = true := listed_of hr (j := 1) rfl (by simp [Region.binds])
            obtain rfl : b2 = true := listed_of hr (j := 2) rfl (by simp)
            obtain rfl : b3 = true := listed_of hr (j := 3) rfl (by simp [Region.binds])
            obtain rfl : b4 = true := listed_of hr (j := 4) rfl (by simp [Region.binds])
            obtain rfl : b5 = true := listed_of hr (j := 5) rfl (by simp [Region.binds])
            obtain ⟨A9, n9, c9, k9, v9, hC9, _, w4y, _, w5y⟩ := hI9.ws
            obtain ⟨rfl, rfl⟩ := w4y rfl
            obtain rfl := w5y rfl
            have HC9 := Lib.hid hC9
            clear hC9 w4y w5y hI9 hr
            gi_wp2
            refine wpIn_region_any hmx ?_
            change wpAnyIn _ _ _ _ _ _ _ _ _ w2.drew
            refine wpAnyIn_inv (fun listed a w3 => ∃ b0 b1 b2 b3 b4 b5 b6 u37 u38 u39 u40 u41, listed = #[b0, b1, b2, b3, b4, b5, b6] ∧
              a = { tmps := #[.func (.yield l) #[] #[], .pointer (some ⟨Bn, 0, none⟩), .pointer (some ⟨h, 0, none⟩), .pointer (some ⟨h + 1, 0, none⟩), .pointer (some ⟨h + 1 + 1, 0, none⟩), .pointer (some ⟨h + 1 + 1 + 1, 0, none⟩), undef, .int .i32 x.2, .string s, .func (.func 70) #[] #[.pointer (some ⟨h + 1 + 1 + 1 + 1, 0, none⟩)], .int .i64 x.1, .int .i32 x.2, .bool false, .int .i32 x.2, .bool false, .bool false, .int .i32 x.2, .bool false, undef, undef, undef, .slice A m c, .int .i64 m, .bool true, .bool true, .func (.yield l) #[] #[], .int .i64 (sumC q.1), .slice A m c, .string ⟨(eb q.2).toArray⟩, .bool true, .bool false, .bool false, u32, u33, u34, u35, .slice A9 n9 c9, u37, u38, u39, u40, u41, undef, undef, undef, undef, undef, undef, undef, undef], defers := [] } ∧
              R10 h fS XS l s A9 n9 c9 (e4 x.2) (.slice A9 n9 c9) (sumC q.1) (wc q.2) x.2 b0 b1 b2 b3 b4 b5 b6 u37 u38 u39 u40 u41 w3) ?_ ?_ _ _ _ _ (by decide) ?_
            · rintro listed a w3 hr ⟨b0, b1, b2, b3, b4, b5, b6, u37, u38, u39, u40, u41, rfl, rfl, hI10⟩
              obtain rfl : b0 = true := listed_of hr (j := 0) rfl (by simp)
              obtain rfl : b1 = true := listed_of hr (j := 1) rfl (by simp)
              obtain rfl : b2 = true := listed_of hr (j := 2) rfl (by simp [Region.binds])
              obtain rfl : b3 = true := listed_of hr (j := 3) rfl (by simp)
              obtain rfl : b4 = true := listed_of hr (j := 4) rfl (by simp [Region.binds])
              obtain rfl : b5 = true := listed_of hr (j := 5) rfl (by simp [Region.binds])
              obtain rfl : b6 = true := listed_of hr (j := 6) rfl (by simp [Region.binds])
              obtain ⟨p2, p3, hC10, _, w5y, _, w6y⟩ := hI10.ws
              obtain rfl := w5y rfl
              obtain rfl := w6y rfl
              refine ⟨HKF.out.trans (hC10.keeps.from _), ⟨HB0.out.trans hC10.turn.below0, fun _ => hC10.b4.cell⟩, ?_⟩
              show InI h f0 J l s (run (rr (pre ++ [x]))) _
              rw [HR.out, st2_base HB.out]
              have hn9 : n9 = (eb [x.2]).length := by rw [hC10.row.len]; simp [eb]
              refine inI_next (q := (fin q, [x.2])) (A := A9) (n := n9) (c := c9) HJ.out ?_ HJS.out HFS1.out HFS2.out
              have e1 : sumC (fin q) = sumC q.1 + wc q.2 := sumC_fin q
              have e2 : eb [x.2] = e4 x.2 := by simp [eb]
              show Cl h fS XS l s A9 n9 c9 (eb [x.2]) (.slice A9 n9 c9) (sumC (fin q)) (ofI x.2) w3
              rw [e1, e2]
              exact hC10
            · rintro i listed a w3 ⟨b0, b1, b2, b3, b4, b5, b6, u37, u38, u39, u40, u41, rfl, rfl, hI10⟩ hi
              obtain ⟨hf, o, ho, hdep⟩ := mem_ready.1 hi
              have hi7 : i < 7 := (Array.getElem?_eq_some_iff.1 ho).1
              have hic : i = 0 ∨ i = 1 ∨ i = 2 ∨ i = 3 ∨ i = 4 ∨ i = 5 ∨ i = 6 := by omega
              rcases hic with rfl | rfl | rfl | rfl | rfl | rfl | rfl
              all_goals
                simp at ho
                subst ho
                simp [Region.binds] at hdep
                simp at hf
              all_goals try subst hf
              all_goals try simp only [forall_const] at hdep
              · -- 0: ahead
                have e2 := nb (fun e => (hI10.q2 e).1) rfl
                have e5 := nb (fun e => (hI10.q5 e).1) e2
                obtain ⟨p2, p3, hC10, w5n, w5y, w6n, w6y⟩ := hI10.ws
                obtain rfl := w5n e5
                have hcl := hC10.b2.cell
                have HI := Lib.hid hI10
                have E2 := Lib.hid e2
                clear hI10 e2 e5 hC10 w5n w5y w6n w6y
                refine wpOpIn_step rfl (fun K' hK => ?_)
                go_simp
                refine hK _ _ ?_
                exact ⟨true, b1, b2, b3, b4, b5, b6, _, u38, u39, u40, u41, rfl, rfl, ⟨fun _ => rfl, HI.out.s1, HI.out.s2, HI.out.s3, HI.out.s4, (fun e => by rw [E2.out] at e; cases e), HI.out.q4, HI.out.q5, HI.out.q6, HI.out.ws⟩⟩
              · -- 1: columns
                have e2 := nb (fun e => (hI10.q2 e).2) rfl
                have e5 := nb (fun e => (hI10.q5 e).1) e2
                have e6 := nb hI10.q6 e5
                obtain ⟨p2, p3, hC10, w5n, w5y, w6n, w6y⟩ := hI10.ws
                obtain rfl := w6n e6
                have hcl := hC10.b3.cell
                have HI := Lib.hid hI10
                have E2 := Lib.hid e2
                clear hI10 e2 e5 e6 hC10 w5n w5y w6n w6y
                refine wpOpIn_step rfl (fun K' hK => ?_)
                go_simp
                refine hK _ _ ?_
                exact ⟨b0, true, b2, b3, b4, b5, b6, u37, _, u39, u40, u41, rfl, rfl, ⟨HI.out.s0, fun _ => rfl, HI.out.s2, HI.out.s3, HI.out.s4, (fun e => by rw [E2.out] at e; cases e), HI.out.q4, HI.out.q5, HI.out.q6, HI.out.ws⟩⟩
              · -- 2: the sum
                obtain ⟨rfl, rfl⟩ := hdep
                have e5 := nb (fun e => (hI10.q5 e).1) rfl
                obtain rfl := hI10.s0 rfl
                obtain rfl := hI10.s1 rfl
                have HI := Lib.hid hI10
                have E5 := Lib.hid e5
                clear hI10 e5
                have hws : IntKind.i64.wrap (sumC q.1 + wc q.2) = sumC q.1 + wc q.2 := IntWalk.i64_in _ (by omega)
                refine wpOpIn_step rfl (fun K' hK => ?_)
                go_simp
                refine hK _ _ ?_
                exact ⟨true, true, true, b3, b4, b5, b6, _, _, _, u40, u41, rfl, rfl, ⟨fun _ => rfl, fun _ => rfl, fun _ => by first | rfl | rw [hws] | go_num, HI.out.s3, HI.out.s4, (fun _ => ⟨rfl, rfl⟩), HI.out.q4, (fun e => by rw [E5.out] at e; cases e), HI.out.q6, HI.out.ws⟩⟩
              · -- 3: the rune
                have e4' := nb hI10.q4 rfl
                have HI := Lib.hid hI10
                have E4 := Lib.hid e4'
                clear hI10 e4'
                refine wpOpIn_step rfl (fun K' hK => ?_)
                go_simp
                refine hK _ _ ?_
                exact ⟨b0, b1, b2, true, b4, b5, b6, u37, u38, u39, _, u41, rfl, rfl, ⟨HI.out.s0, HI.out.s1, HI.out.s2, fun _ => rfl, HI.out.s4, HI.out.q2, fun _ => rfl, HI.out.q5, HI.out.q6, HI.out.ws⟩⟩
              · -- 4: the call
                obtain rfl := hdep
                have e5 := nb (fun e => (hI10.q5 e).2) rfl
                obtain rfl := hI10.s3 rfl
                obtain ⟨p2, p3, hC10, w5n, w5y, w6n, w6y⟩ := hI10.ws
                have HI := Lib.hid hI10
                have HCX := Lib.hid hC10
                have HW := Lib.hid (And.intro w5n (And.intro w5y (And.intro w6n w6y)))
                have E5 := Lib.hid e5
                clear hI10 e5 hC10 w5n w5y w6n w6y
                refine wpOpIn_step rfl (fun K' hK => ?_)
                go_simp
                refine ⟨trivial, (CallsIn.inRound lo (callsIn_wide.2 (of_any _ _ HCX.out.tabs))).mono ?_⟩
                rintro e w4 ⟨rfl, hb4⟩
                refine hK _ _ ?_
                exact ⟨b0, b1, b2, true, true, b5, b6, u37, u38, u39, _, _, rfl, rfl, ⟨HI.out.s0, HI.out.s1, HI.out.s2, fun _ => rfl, fun _ => rfl, HI.out.q2, fun _ => rfl, (fun e => by rw [E5.out] at e; cases e), HI.out.q6, ⟨p2, p3, HCX.out.below hb4, HW.out.1, HW.out.2.1, HW.out.2.2.1, HW.out.2.2.2⟩⟩⟩
              · -- 5: the first store
                have hb2 : b2 = true := by simp_all
                have hb4' : b4 = true := by simp_all
                subst hb2
                subst hb4'
                have e6 := nb hI10.q6 rfl
                obtain rfl := hI10.s2 rfl
                obtain ⟨p2, p3, hC10, w5n, w5y, w6n, w6y⟩ := hI10.ws
                have hcl := hC10.b2.cell
                have hfl := hC10.b2.frozen
                have HI := Lib.hid hI10
                have HCX := Lib.hid hC10
                have H6 := Lib.hid (w6n e6)
                have E6 := Lib.hid e6
                clear hI10 e6 hC10 w5n w5y w6n w6y hdep
                refine wpOpIn_step rfl (fun K' hK => ?_)
                go_simp
                refine hK _ _ ?_
                exact ⟨b0, b1, true, b3, true, true, b6, u37, u38, _, u40, u41, rfl, rfl, ⟨HI.out.s0, HI.out.s1, fun _ => rfl, HI.out.s3, HI.out.s4, HI.out.q2, HI.out.q4, (fun _ => ⟨rfl, rfl⟩), fun _ => rfl, ⟨_, p3, HCX.out.set2 _, (fun e => by cases e), (fun _ => rfl), (fun _ => H6.out), (fun e => by rw [E6.out] at e; cases e)⟩⟩⟩
              · -- 6: the second store
                have hb5 : b5 = true := by simp_all
                have hb4' : b4 = true := by simp_all
                subst hb5
                subst hb4'
                obtain rfl := hI10.s4 rfl
                obtain ⟨p2, p3, hC10, w5n, w5y, w6n, w6y⟩ := hI10.ws
                have hcl := hC10.b3.cell
                have hfl := hC10.b3.frozen
                have HI := Lib.hid hI10
                have HCX := Lib.hid hC10
                have H5 := Lib.hid (w5y rfl)
                clear hI10 hC10 w5n w5y w6n w6y hdep
                refine wpOpIn_step rfl (fun K' hK => ?_)
                go_simp
                refine hK _ _ ?_
                exact ⟨b0, b1, b2, b3, true, true, true, u37, u38, u39, u40, _, rfl, rfl, ⟨HI.out.s0, HI.out.s1, HI.out.s2, HI.out.s3, fun _ => rfl, HI.out.q2, HI.out.q4, HI.out.q5, fun _ => rfl, ⟨p2, _, HCX.out.set3 _, (fun e => by cases e), (fun _ => H5.out), (fun e => by cases e), (fun _ => rfl)⟩⟩⟩
            · exact ⟨false, false, false, false, false, false, false, _, _, _, _, _, rfl, rfl, ⟨(fun e => by cases e), (fun e => by cases e), (fun e => by cases e), (fun e => by cases e), (fun e => by cases e), (fun e => by cases e), (fun e => by cases e), (fun e => by cases e), (fun e => by cases e), ⟨_, _, HC9.out.drew, (fun _ => rfl), (fun e => by cases e), (fun _ => rfl), (fun e => by cases e)⟩⟩⟩
          · rintro i listed a w2 ⟨b0, b1, b2, b3, b4, b5, u32, u33, u34, u35, u36, rfl, rfl, hI9⟩ hi
            obtain ⟨hf, o, ho, hdep⟩ := mem_ready.1 hi
            have hi6 : i < 6 := (Array.getElem?_eq_some_iff.1 ho).1
            have hic : i = 0 ∨ i = 1 ∨ i = 2 ∨ i = 3 ∨ i = 4 ∨ i = 5 := by omega
            rcases hic with rfl | rfl | rfl | rfl | rfl | rfl
            all_goals
              simp at ho
              subst ho
              simp [Region.binds] at hdep
              simp at hf
            all_goals try subst hf
            all_goals try simp only [forall_const] at hdep
            · -- 0: open
              have e1 := nb hI9.q1 rfl
              have e4' := nb (fun e => (hI9.q4 e).1) e1
              have e5 := nb hI9.q5 e4'
              obtain ⟨A9, n9, c9, k9, v9, hC9, w4n, w4y, w5n, w5y⟩ := hI9.ws
              have hcl : w2.cell? ⟨h + 1, 0, none⟩ = some (.slice A m c) := by rw [← w5n e5]; exact hC9.b1.cell
              have HI := Lib.hid hI9
              have E1 := Lib.hid e1
              clear hI9 e1 e4' e5 hC9 w4n w4y w5n w5y
              refine wpOpIn_step rfl (fun K' hK => ?_)
              go_simp
              refine hK _ _ ?_
              exact ⟨true, b1, b2, b3, b4, b5, _, u33, u34, u35, u36, rfl, rfl, ⟨fun _ => rfl, HI.out.s1, HI.out.s2, HI.out.s3, (fun e => absurd (e.symm.trans E1.out) (by decide)), HI.out.q3, HI.out.q4, HI.out.q5, HI.out.ws⟩⟩
            · -- 1: open[:0]
              obtain rfl := hdep
              have e4' := nb (fun e => (hI9.q4 e).1) rfl
              obtain rfl := hI9.s0 rfl
              have HI := Lib.hid hI9
              have E4 := Lib.hid e4'
              clear hI9 e4'
              refine wpOpIn_step rfl (fun K' hK => ?_)
              go_simp
              refine hK _ _ ?_
              exact ⟨true, true, b2, b3, b4, b5, _, _, u34, u35, u36, rfl, rfl, ⟨fun _ => rfl, fun _ => rfl, HI.out.s2, HI.out.s3, fun _ => rfl, HI.out.q3, (fun e => by rw [E4.out] at e; cases e), HI.out.q5, HI.out.ws⟩⟩
            · -- 2: the rune
              have e3 := nb hI9.q3 rfl
              have HI := Lib.hid hI9
              have E3 := Lib.hid e3
              clear hI9 e3
              refine wpOpIn_step rfl (fun K' hK => ?_)
              go_simp
              refine hK _ _ ?_
              exact ⟨b0, b1, true, b3, b4, b5, u32, u33, _, u35, u36, rfl, rfl, ⟨HI.out.s0, HI.out.s1, fun _ => rfl, HI.out.s3, HI.out.q1, fun _ => rfl, HI.out.q4, HI.out.q5, HI.out.ws⟩⟩
            · -- 3: its bytes
              obtain rfl := hdep
              have e4' := nb (fun e => (hI9.q4 e).2) rfl
              obtain rfl := hI9.s2 rfl
              obtain ⟨A9, n9, c9, k9, v9, hC9, w4n, w4y, w5n, w5y⟩ := hI9.ws
              have HI := Lib.hid hI9
              have E4 := Lib.hid e4'
              have HCX := Lib.hid hC9
              have HW := Lib.hid (And.intro w4n (And.intro w4y (And.intro w5n w5y)))
              clear hI9 e4' hC9 w4n w4y w5n w5y
              refine wpOpIn_step rfl (fun K' hK => ?_)
              go_simp
              refine ⟨trivial, (CallsIn.inRound lo (callsIn_wide.2 (bytes_any _ _))).mono ?_⟩
              rintro e w4 ⟨rfl, rfl⟩
              refine hK _ _ ?_
              exact ⟨b0, b1, true, true, b4, b5, u32, u33, _, _, u36, rfl, rfl, ⟨HI.out.s0, HI.out.s1, fun _ => rfl, (fun _ _ => ⟨_, rfl, by have := Sl.new w2 (bv (e4 x.2)).toArray 5; rw [World.size_alloc]; exact this⟩), HI.out.q1, fun _ => rfl, (fun e => by rw [E4.out] at e; cases e), HI.out.q5, ⟨A9, n9, c9, k9, v9, HCX.out.alloc _, HW.out.1, HW.out.2.1, HW.out.2.2.1, HW.out.2.2.2⟩⟩⟩
            · -- 4: the append
              obtain ⟨rfl, rfl⟩ := hdep
              have e5 := nb hI9.q5 rfl
              obtain rfl := hI9.s1 rfl
              obtain ⟨g, rfl, hg⟩ := hI9.s3 rfl rfl
              obtain ⟨A9, n9, c9, k9, v9, hC9, w4n, w4y, w5n, w5y⟩ := hI9.ws
              obtain ⟨rfl, rfl, rfl, rfl⟩ := w4n rfl
              have hx4 := e4_le x.2
              obtain ⟨A5, c5, w5, hrun, hO5, hg5, hat5⟩ := run_app_u8 w2 66 (h + 5) A9 0 c9 [] hC9.row.cut0 (some ⟨g, 0, none⟩) (e4 x.2).length (e4 x.2).length (e4 x.2) _ hg rfl (fun e => by cases e) (e4 x.2).length (by omega) (by omega) hC9.sz
              have hC5 := hC9.app hg5 hO5 (fun j hj => by
                rcases hat5 with h1 | h1
                · exact .inl (by rw [← h1]; exact hj)
                · rw [h1] at hj; cases hj; exact .inr (Nat.le_refl _))
              have HI := Lib.hid hI9
              have E5 := Lib.hid e5
              have HCX := Lib.hid hC5
              have HV := Lib.hid (w5n e5)
              have HRN := Lib.hid hrun
              clear hI9 e5 hC9 w4n w4y w5n w5y hC5 hrun hO5 hg5 hat5 hg hx4
              refine wpOpIn_step rfl (fun K' hK => ?_)
              refine stepIn_app 66 rfl (.tmp 33) (.tmp 35) rfl _ _ _ _ rfl rfl HRN.out ?_
              refine hK _ _ ?_
              exact ⟨b0, true, b2, true, true, b5, u32, _, u34, _, _, rfl, rfl, ⟨HI.out.s0, fun _ => rfl, HI.out.s2, (fun _ e => by cases e), HI.out.q1, HI.out.q3, (fun _ => ⟨rfl, rfl⟩), fun _ => rfl, ⟨A5, _, c5, _, v9, HCX.out, (fun e => by cases e), (fun _ => ⟨rfl, by simp⟩), (fun _ => HV.out), (fun e => by rw [E5.out] at e; cases e)⟩⟩⟩
            · -- 5: the store
              have hb4' : b4 = true := by simp_all
              subst hb4'
              obtain ⟨A9, n9, c9, k9, v9, hC9, w4n, w4y, w5n, w5y⟩ := hI9.ws
              obtain ⟨rfl, rfl⟩ := w4y rfl
              have hcl := hC9.b1.cell
              have hfl := hC9.b1.frozen
              have HI := Lib.hid hI9
              have HCX := Lib.hid hC9
              clear hI9 hC9 w4n w4y w5n w5y hdep
              refine wpOpIn_step rfl (fun K' hK => ?_)
              go_simp
              refine hK _ _ ?_
              exact ⟨b0, b1, b2, b3, true, true, u32, u33, u34, u35, _, rfl, rfl, ⟨HI.out.s0, HI.out.s1, HI.out.s2, (fun _ e => by cases e), HI.out.q1, HI.out.q3, HI.out.q4, fun _ => rfl, ⟨A9, n9, c9, _, _, HCX.out.set1 _, (fun e => by cases e), (fun _ => ⟨rfl, rfl⟩), (fun e => by cases e), (fun _ => rfl)⟩⟩⟩
          · exact ⟨false, false, false, false, false, false, _, _, _, _, _, rfl, rfl, ⟨(fun e => by cases e), (fun e => by cases e), (fun e => by cases e), (fun e => by cases e), (fun e => by cases e), (fun e => by cases e), (fun e => by cases e), (fun e => by cases e), ⟨_, _, _, _, _, HCS.out.drew, (fun _ => ⟨rfl, rfl, rfl, rfl⟩), (fun e => by cases e), (fun _ => rfl), (fun e => by cases e)⟩⟩⟩
        · clear hR hy hcv hc0 hc1 hc2
          gi_wp2
          have hHH := HH.out
          have hkf : KeepsFrom W0.heap.size X W3 := (hC1.out.keeps.from _).trans ⟨hk3.size, fun k o hk ho hc => hk3.same k o (by omega) ho hc⟩
          refine ⟨hkf, rfl, (fun k => f k ∨ (X.heap.size ≤ k ∧ k < w1.heap.size)), ?_⟩
          rw [HR.out, st2_base HB.out]
          have e : fin q = q.1 ++ [q.2] := by unfold fin; rw [if_neg HO.out]
          show Jx (prs 0 (fin q)) _ W3
          rw [e, prs_snoc, Int.zero_add]
          exact hx3
  case done =>
    rintro D ys X hD rfl hI hK
    have hcount := run_count (rr (rnsOf s.data.toList))
    have hrl : (rr (rnsOf s.data.toList)).length ≤ s.size := by
      have h1 : (rr (rnsOf s.data.toList)).length = (rnsOf s.data.toList).length := by simp [rr]
      have h2 := rnsOf_le s.data.toList
      have h3 : s.data.toList.length = s.size := rfl
      omega
    have hcl : cls (rs s.data.toList) = fin (run (rr (rnsOf s.data.toList))) := rfl
    generalize HQE : run (rr (rnsOf s.data.toList)) = q at hI hcount hcl
    have HCL := Lib.hid hcl
    obtain ⟨f, A, m, c, hC, hj, h1, h2, h3⟩ := hI
    have h64 := run_len (rr (rnsOf s.data.toList))
    have hm64 : m ≤ 64 := by rw [hC.row.len, ← HQE]; exact h64
    clear HQE h64
    have hDl := (Array.getElem?_eq_some_iff.1 hK).1
    have hD5 : h ≤ D := by omega
    have hc1 := hC.b1.cell
    have HC := Lib.hid hC
    have HJ1 := Lib.hid hj
    have HQ := Lib.hid hcount
    have HRL := Lib.hid hrl
    clear hC hj hcl hcount hrl h1 h2 h3 hI0 hcs
    by_cases ho : q.2 = []
    · have hm0 : m = 0 := by rw [HC.out.row.len, ho]; rfl
      subst hm0
      have e : fin q = q.1 := by unfold fin; rw [if_pos ho]
      have E := Lib.hid e
      clear ho e
      gi_wp2
      refine (wpIn_wide (n := 8)).1 ?_
      gi_wp2
      refine ⟨by simp, .inl ⟨_, _, rfl, run_takeDeferred hK, ?_⟩⟩
      refine ⟨_, results_none rfl _ _ _, ⟨_, rfl⟩, .inl ⟨prs 0 (fin q), f, by rw [HCL.out], ?_⟩⟩
      rw [E.out]
      exact HJ.out.put _ HJ1.out hD5 hK rfl
    · have hm0 : 0 < (m : Int) := by rw [HC.out.row.len]; have := eb_pos ho; omega
      have hm1 : 0 < m := by omega
      have e : fin q = q.1 ++ [q.2] := by unfold fin; rw [if_neg ho]
      have hpl : (prs 0 q.1).length < s.size := by
        have h1 := HQ.out
        have h2 := HRL.out
        rw [e, List.length_append] at h1
        rw [prs_length]
        simp at h1
        omega
      have E := Lib.hid e
      have hc0 := HC.out.b0.cell
      have hc2 := HC.out.b2.cell
      have hcv := run_str_sl X X.heap.size A m c (eb q.2) HC.out.row.sl HC.out.row.len
      have hel : elC (sumC q.1, eb q.2) := ⟨by show (eb q.2).length ≤ 64; rw [← HC.out.row.len]; exact hm64, (sumC_bd q.1).1, by
        have h1 := HQ.out
        have h2 := HRL.out
        have h3 : (q.1).length ≤ (fin q).length := by unfold fin; split <;> simp
        have h4 := (sumC_bd q.1).2
        show sumC q.1 ≤ 3000000
        omega⟩
      obtain ⟨fn, tmps, assign, body, hy, hR⟩ := HY.out 7 (prs 0 q.1) (sumC q.1, eb q.2) f X HJ1.out hpl hel
      simp only [encC] at hy
      clear ho e hpl hel
      gi_wp2
      refine (wpIn_wide (n := 8)).1 ?_
      gi_wp2
      refine hR.mono ?_
      rintro e W3 (⟨rfl, hJ3, hk3⟩ | ⟨rfl, hx3, hk3⟩)
      · have hHH := HH.out
        have hK3 := hk3.keeps.same D _ (by omega) hK rfl
        clear hR hy hcv hc0 hc1 hc2 hHH
        gi_wp2
        refine ⟨by simp, .inl ⟨_, _, rfl, run_takeDeferred hK3, ?_⟩⟩
        refine ⟨_, results_none rfl _ _ _, ⟨_, rfl⟩, .inl ⟨prs 0 (fin q), f, by rw [HCL.out], ?_⟩⟩
        rw [E.out, prs_snoc, Int.zero_add]
        exact HJ.out.put _ hJ3 hD5 hK3 rfl
      · have hHH := HH.out
        have hK3 := hk3.same D _ (by omega) hK rfl
        clear hR hy hcv hc0 hc1 hc2 hHH
        gi_wp2
        refine ⟨by simp, .inl ⟨_, _, rfl, run_takeDeferred hK3, ?_⟩⟩
        refine ⟨_, results_none rfl _ _ _, ⟨_, rfl⟩, .inr ⟨prs 0 (fin q), f, by rw [HCL.out]; exact List.prefix_refl _, ?_⟩⟩
        rw [E.out, prs_snoc, Int.zero_add]
        exact HJx.out.put _ hx3 hD5 hK3 rfl
  case stop =>
    rintro D c pre X hD hpre ⟨rfl, f, hj⟩ hK
    have hpp : prs 0 (run (rr pre)).1 <+: prs 0 (cls (rs s.data.toList)) := by
      refine prs_prefix (told_pre ?_)
      obtain ⟨t, ht⟩ := hpre
      exact ⟨rr t, by unfold rs; rw [← ht]; simp [rr]⟩
    have HP := Lib.hid hpp
    have HJ1 := Lib.hid hj
    clear hpp hpre hj hI0 hcs
    gi_wp2
    refine ⟨by simp, .inl ⟨_, _, rfl, run_takeDeferred hK, ?_⟩⟩
    refine ⟨_, results_none rfl _ _ _, ⟨_, rfl⟩, .inr ⟨_, f, HP.out, ?_⟩⟩
    exact HJx.out.put _ HJ1.out (by omega) hK rfl
end Go.Proofs.YtmgakdbcgdhpaaaDoor
