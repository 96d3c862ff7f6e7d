/-
  Walks: a builder's Text.
-/
import Derived.Test.YtaijiapolippaaaDoorFrNew
import Derived.Test.YtaijiapolippaaaDoorGfF
import Derived.Test.YtaijiapolippaaaDoorRegT
import Derived.Test.YtaijiapolippaaaDoorGfG
import Derived.Test.YtaijiapolippaaaDoorGfI
import Derived.Outline
namespace Go.Proofs.YtaijiapolippaaaDoor
open Go.RowKit Go.Shelf
attribute [local go_sem] Oper.semAt_some
set_option linter.unusedVariables false
set_option linter.unusedSimpArgs false

/-- the same by what Put says -/
def tstP (W : Nat) (row : Int) (y : Sty) (q : (List (List Cl) × Int) × Bool) (c : List UInt8) : (List (List Cl) × Int) × Bool :=
  if q.2 = true then q else if (putM W q.1.1 row q.1.2 c (fw (rs c)) y).2 = 0 then (((putM W q.1.1 row q.1.2 c (fw (rs c)) y).1, q.1.2 + fw (rs c)), false) else (q.1, true)
theorem tstP_eq {W H : Nat} {row : Int} (y : Sty) {q : (List (List Cl) × Int) × Bool} (h : TxSt W H q) (hr : 0 ≤ row ∧ row < H) {c : List UInt8} (hc : isC c = true) : tstP W row y q c = tst W row y q c := by
  unfold tstP tst
  split
  · rfl
  · have := putM_code (W := W) (L := q.1.1) (row := row) (col := q.1.2) y hc (by rw [h.len]; exact hr) ⟨h.c0, h.c1⟩
    by_cases hf : (W : Int) - q.1.2 < fw (rs c)
    · rw [if_pos hf, if_neg (this.1 hf).1]
    · rw [if_neg hf, if_pos (this.2 hf)]
theorem tstP_fold {W H : Nat} {row : Int} (y : Sty) (hr : 0 ≤ row ∧ row < H) (cs : List (List UInt8)) : ∀ {q : (List (List Cl) × Int) × Bool}, TxSt W H q → (∀ c ∈ cs, isC c = true) → cs.foldl (tstP W row y) q = cs.foldl (tst W row y) q := by
  induction cs with
  | nil => intro q _ _; rfl
  | cons c cs ih =>
    intro q h hc
    rw [List.foldl_cons, List.foldl_cons, tstP_eq y h hr (hc c (by simp))]
    exact ih (h.step row y (hc c (by simp))) (fun d hd => hc d (by simp [hd]))
theorem tstP_stop {W : Nat} {row : Int} {y : Sty} (cs : List (List UInt8)) : ∀ {q : (List (List Cl) × Int) × Bool}, q.2 = true → cs.foldl (tstP W row y) q = q := by
  induction cs with
  | nil => intro q _; rfl
  | cons c cs ih => intro q h; rw [List.foldl_cons, show tstP W row y q c = q by unfold tstP; rw [if_pos h], ih h]
theorem putM_ok {W : Nat} {L : List (List Cl)} {row col : Int} {s : List UInt8} {m : Int} {y : Sty} (h : (putM W L row col s m y).2 = 0) : (m = 1 ∨ m = 2) ∧ 0 ≤ col ∧ col + m ≤ W := by
  unfold putM at h
  split at h
  · simp at h
  · next h1 =>
    split at h
    · simp at h
    · next h2 =>
      have a : inB row col W L.length = true := by simpa using fun e => h2 (.inl e)
      have b : inB row (col + m - 1) W L.length = true := by simpa using fun e => h2 (.inr e)
      have a' : 0 ≤ row ∧ row < L.length ∧ 0 ≤ col ∧ col < W := by simpa [inB] using a
      have b' : 0 ≤ row ∧ row < L.length ∧ 0 ≤ col + m - 1 ∧ col + m - 1 < W := by simpa [inB] using b
      refine ⟨?_, a'.2.2.1, by omega⟩
      by_cases k1 : m = 1
      · exact .inl k1
      · by_cases k2 : m = 2
        · exact .inr k2
        · exact absurd (.inr (.inr ⟨k1, k2⟩)) h1
theorem putM_bad {W : Nat} {L : List (List Cl)} {row col : Int} {s : List UInt8} {m : Int} {y : Sty} (h : (putM W L row col s m y).2 ≠ 0) : (putM W L row col s m y).1 = L := by
  unfold putM at h ⊢
  split
  · rfl
  · next h1 =>
    rw [if_neg h1] at h
    split
    · rfl
    · next h2 => rw [if_neg h2] at h; exact absurd rfl h

/-- a text's clusters -/
def fcs (s : List UInt8) : List (List UInt8) := (cls (rs (flatB s))).map eb
theorem fcs_is (s : List UInt8) : ∀ c ∈ fcs s, isC c = true := by
  intro c hc
  obtain ⟨d, hd, rfl⟩ := List.mem_map.1 hc
  exact fisC_wf (cls_wf (rs_isR _) d hd)
theorem eb_flat_le (cs : List (List Int)) (h : ∀ c ∈ cs, wf c) : (eb cs.flatten).length ≤ 64 * cs.length := by
  induction cs with
  | nil => simp [eb]
  | cons c cs ih =>
    have h1 := ih (fun d hd => h d (by simp [hd]))
    obtain ⟨b, ms, _, _, _, hl, _⟩ := h c (by simp)
    rw [List.flatten_cons, eb_append, List.length_append, List.length_cons]
    omega
theorem run_count_le (xs : List Int) : (cls xs).length ≤ xs.length := by
  have h := run_count xs
  exact h
theorem flatB_le (s : List UInt8) : (flatB s).length ≤ 64 * s.length := by
  unfold flatB cleanB
  have h1 := eb_flat_le (cls (rs (s.map fl1))) (cls_wf (rs_isR _))
  have h2 := run_count_le (rs (s.map fl1))
  have h3 : (rs (s.map fl1)).length ≤ s.length := by unfold rs; rw [List.length_map]; have := rnsOf_le (s.map fl1); simpa using this
  omega
/-- what Text comes to -/
def ftxt (W : Nat) (L : List (List Cl)) (row col : Int) (s : List UInt8) (y : Sty) : List (List Cl) × Int × Int :=
  if (fwithB row L.length && fwithB col (W + 1)) = false then (L, 0, 5) else if styB y = false then (L, 0, 1) else ((ftextM W L row col y (fcs s)).1, (ftextM W L row col y (fcs s)).2, 0)

theorem chg_low {B : Nat} {X Y : World} (h : Below B X Y) : Chg (fun j => B ≤ j) X Y := ⟨h.os, h.tape, h.output, h.size, fun k hk hn => h.block k (by omega)⟩
/-- Between two rounds over a text's clusters. -/
structure TxJ (lo b g rb : Nat) (bs : List Nat) (W : Nat) (row : Int) (y : Sty) (hh base : Nat) (r0 c0 : Int) (sn : Bool) (w : World) (q : (List (List Cl) × Int) × Bool) (X : World) : Prop where
  gr : GrAt X lo g rb bs W q.1.1
  hd : Blk X b 168 (bdC b g r0 c0 sn)
  x0 : Boxed X hh 127 (.pointer (some ⟨b, 0, none⟩))
  x1 : Boxed X (hh + 1) 3 (.int .i64 row)
  x2 : Boxed X (hh + 1 + 1) 3 (.int .i64 q.1.2)
  x3 : Blk X (hh + 1 + 1 + 1) 121 y.cells
  mt : Tab X 7 mkT
  wt : Tab X 8 wdT
  bt : BlankT X
  ch : Chg (GrOwn g rb bs) w X
  sz : base ≤ X.heap.size
/-- the blocks that a round over a text may turn -/
def TxS (g rb : Nat) (bs : List Nat) (hh k : Nat) : Prop := GrOwn g rb bs k ∨ k = hh + 1 + 1
structure TxB (lo b g rb : Nat) (bs : List Nat) (hh base : Nat) : Prop where
  klo : ∀ k, GrOwn g rb bs k → lo ≤ k ∧ k < hh
  kb : b < hh
  knb : ¬ GrOwn g rb bs b
  khb : hh + 1 + 1 + 1 < base
  kg0 : 6 < lo
  kg1 : 7 < lo
  kg2 : 8 < lo
  klh : lo ≤ hh
namespace TxJ
variable {lo b g rb hh base W : Nat} {bs : List Nat} {row r0 c0 : Int} {y : Sty} {sn : Bool} {w X Y : World} {q : (List (List Cl) × Int) × Bool}
theorem below (h : TxJ lo b g rb bs W row y hh base r0 c0 sn w q X) (k : TxB lo b g rb bs hh base) (hw : w.heap.size ≤ base) (hb : Below base X Y) : TxJ lo b g rb bs W row y hh base r0 c0 sn w q Y := by
  have k0 := k.klo
  have k1 := k.kb
  have k3 := k.khb
  have k4 := k.kg0
  have k5 := k.kg1
  have k6 := k.kg2
  have k7 := k.klh
  exact ⟨h.gr.same (fun j hj => hb.block j (by have := k0 j hj; omega)), h.hd.below hb (by omega), (hb.block hh (by omega)).trans h.x0, (hb.block (hh + 1) (by omega)).trans h.x1, (hb.block (hh + 1 + 1) (by omega)).trans h.x2,
    h.x3.below hb (by omega), h.mt.below hb (by omega), h.wt.below hb (by omega), h.bt.below hb (by omega), h.ch.trans (chg_low hb) (fun j hj => .inr (by omega)), Nat.le_trans h.sz hb.size⟩
theorem tabs (h : TxJ lo b g rb bs W row y hh base r0 c0 sn w q X) (k : TxB lo b g rb bs hh base) : Tabs X := by
  have k3 := k.khb
  have k5 := k.kg1
  have k6 := k.kg2
  have k7 := k.klh
  have := h.sz
  exact ⟨h.mt, h.wt, by omega, by omega⟩
/-- A cluster has been put. -/
theorem put (h : TxJ lo b g rb bs W row y hh base r0 c0 sn w q X) (k : TxB lo b g rb bs hh base) {L' : List (List Cl)} (hg : GrAt Y lo g rb bs W L') (hc : Chg (GrOwn g rb bs) X Y) : TxJ lo b g rb bs W row y hh base r0 c0 sn w ((L', q.1.2), q.2) Y := by
  have k0 := k.klo
  have k3 := k.khb
  have k4 := k.kg0
  have k5 := k.kg1
  have k6 := k.kg2
  have k7 := k.klh
  have hn : ∀ j, hh ≤ j ∨ j < lo → ¬ GrOwn g rb bs j := fun j hj hk => by have := k0 j hk; omega
  have hx : ∀ j, j < X.heap.size → ¬ GrOwn g rb bs j → Y.heap[j]? = X.heap[j]? := fun j hj hk => hc.block j hj hk
  have hs := h.sz
  have tab : ∀ {G : Nat} {T : List (Int × Int)}, Tab X G T → G < lo → Tab Y G T := fun {G T} ht hG i x hx' => by
    obtain ⟨a1, a2⟩ := ht i x hx'
    exact ⟨hc.cell a1 (hn _ (.inr hG)), hc.cell a2 (hn _ (.inr hG))⟩
  exact ⟨hg, h.hd.chg hc k.knb, (hx _ (by omega) (hn _ (by omega))).trans h.x0, (hx _ (by omega) (hn _ (by omega))).trans h.x1, (hx _ (by omega) (hn _ (by omega))).trans h.x2, h.x3.chg hc (hn _ (by omega)),
    tab h.mt k5, tab h.wt k6, h.bt.chg hc (hn _ (.inr k4)), h.ch.trans hc (fun j hj => .inl hj), Nat.le_trans h.sz hc.size⟩
/-- The column goes on. -/
theorem go (h : TxJ lo b g rb bs W row y hh base r0 c0 sn w q X) (k : TxB lo b g rb bs hh base) (hw : w.heap.size ≤ hh) (c : Int) : TxJ lo b g rb bs W row y hh base r0 c0 sn w ((q.1.1, c), q.2) (X.setCell ⟨hh + 1 + 1, 0, none⟩ (.int .i64 c)) := by
  have k0 := k.klo
  have k1 := k.kb
  have k3 := k.khb
  have k4 := k.kg0
  have k5 := k.kg1
  have k6 := k.kg2
  have k7 := k.klh
  have hc : Chg (one (hh + 1 + 1)) X (X.setCell ⟨hh + 1 + 1, 0, none⟩ (.int .i64 c)) := (Chg.refl (one (hh + 1 + 1)) X).setCell (p := ⟨hh + 1 + 1, 0, none⟩) (.inl rfl) _
  have hn : ∀ j, j ≠ hh + 1 + 1 → ¬ one (hh + 1 + 1) j := fun j hj e => hj e
  have hx : ∀ j, j < X.heap.size → j ≠ hh + 1 + 1 → (X.setCell ⟨hh + 1 + 1, 0, none⟩ (.int .i64 c)).heap[j]? = X.heap[j]? := fun j hj hk => hc.block j hj (hn j hk)
  have hs := h.sz
  have tab : ∀ {G : Nat} {T : List (Int × Int)}, Tab X G T → G < lo → Tab (X.setCell ⟨hh + 1 + 1, 0, none⟩ (.int .i64 c)) G T := fun {G T} ht hG i x hx' => by
    obtain ⟨a1, a2⟩ := ht i x hx'
    exact ⟨hc.cell a1 (hn _ (by show G ≠ _; omega)), hc.cell a2 (hn _ (by show G ≠ _; omega))⟩
  exact ⟨h.gr.keep hc (fun j hj => hn j (by have := k0 j hj; omega)), h.hd.chg hc (hn _ (by omega)), (hx _ (by omega) (by omega)).trans h.x0, (hx _ (by omega) (by omega)).trans h.x1, h.x2.set _, h.x3.chg hc (hn _ (by omega)),
    tab h.mt k5, tab h.wt k6, h.bt.chg hc (hn _ (by omega)), h.ch.setCell (p := ⟨hh + 1 + 1, 0, none⟩) (.inr (by show w.heap.size ≤ hh + 1 + 1; omega)) _, Nat.le_trans h.sz hc.size⟩
theorem flag (h : TxJ lo b g rb bs W row y hh base r0 c0 sn w q X) (v : Bool) : TxJ lo b g rb bs W row y hh base r0 c0 sn w (q.1, v) X := ⟨h.gr, h.hd, h.x0, h.x1, h.x2, h.x3, h.mt, h.wt, h.bt, h.ch, h.sz⟩
end TxJ
theorem below_turn {B : Nat} {f : Nat → Prop} {X Y : World} (h : Turn B f X Y) (hB : B ≤ X.heap.size) : Below B X Y :=
  ⟨h.os, h.tape, h.output, h.size, fun k hk => by
    have hx : X.heap[k]? = some X.heap[k] := Array.getElem?_eq_getElem (by omega)
    rw [hx]; exact h.block k _ hx (.inl hk)⟩
theorem rk_of_chg {S : Nat → Prop} {base : Nat} {f : Nat → Prop} {X Y : World} (hc : Chg S X Y) (hS : ∀ k, S k → k < base) (hf : ∀ k, f k → k < X.heap.size ∧ ¬ S k) : Rk base f X Y :=
  ⟨⟨hc.os, hc.tape, hc.output, hc.size, fun k hk => by omega⟩, ⟨hc.size, fun k o hk ho _ => (hc.block k (Array.getElem?_eq_some_iff.1 ho).1 (fun hs => by have := hS k hs; omega)).trans ho⟩, fun k hk => hc.block k (hf k hk).1 (hf k hk).2⟩

set_option maxRecDepth 100000 in
set_option maxHeartbeats 8000000 in
theorem ftext_any {w : World} {lo b g rb W : Nat} {bs : List Nat} {L : List (List Cl)} {r0 c0 : Int} {sn : Bool} (h : BdAt w lo b g rb bs W L r0 c0 sn) (hT : BlankT w) (hTab : Tabs w) (hlo : 6 < lo ∧ 7 < lo ∧ 8 < lo) (row col : Int) (s : List UInt8) (hs : s.length ≤ 10000) (y : Sty) :
    Calls Tryd.prog 73 #[.pointer (some ⟨b, 0, none⟩), .int .i64 row, .int .i64 col, .string ⟨s.toArray⟩, .agg y.cells.toArray] w fun e w' =>
      e = .returned (.tuple #[.int .i64 (ftxt W L row col s y).2.1, .int .i64 (ftxt W L row col s y).2.2]) ∧ BdAt w' lo b g rb bs W (ftxt W L row col s y).1 r0 c0 sn ∧ Chg (GrOwn g rb bs) w w' := by
  have hW5 := h.grid.w5
  obtain ⟨W0, hW0⟩ : ∃ W0, W0 = (((w.alloc (.cells #[.pointer (some ⟨b, 0, none⟩)] 127)).alloc (.cells #[.int .i64 row] 3)).alloc (.cells #[.int .i64 col] 3)).alloc (.cells y.cells.toArray 121) := ⟨_, rfl⟩
  have hB0 : Below w.heap.size w W0 := by
    rw [hW0]; exact ((((Below.refl _ w).alloc (Nat.le_refl _) _).alloc (by simp) _).alloc (by simp; omega) _).alloc (by simp; omega) _
  obtain ⟨hh, hhe⟩ : ∃ hh, hh = w.heap.size := ⟨_, rfl⟩
  have hsz0 : W0.heap.size = hh + 4 := by rw [hW0, hhe]; simp
  have x0 : Boxed W0 hh 127 (.pointer (some ⟨b, 0, none⟩)) := by rw [hW0, hhe]; exact (((Boxed.new w _ _).alloc _).alloc _).alloc _
  have x1 : Boxed W0 (hh + 1) 3 (.int .i64 row) := by
    have := ((Boxed.new (w.alloc (.cells #[.pointer (some ⟨b, 0, none⟩)] 127)) 3 (.int .i64 row)).alloc (.cells #[.int .i64 col] 3)).alloc (.cells y.cells.toArray 121)
    rw [hW0, hhe]; simpa using this
  have x2 : Boxed W0 (hh + 1 + 1) 3 (.int .i64 col) := by
    have := (Boxed.new ((w.alloc (.cells #[.pointer (some ⟨b, 0, none⟩)] 127)).alloc (.cells #[.int .i64 row] 3)) 3 (.int .i64 col)).alloc (.cells y.cells.toArray 121)
    rw [hW0, hhe]; simpa using this
  have x3 : Blk W0 (hh + 1 + 1 + 1) 121 y.cells := by
    have := Blk.new (((w.alloc (.cells #[.pointer (some ⟨b, 0, none⟩)] 127)).alloc (.cells #[.int .i64 row] 3)).alloc (.cells #[.int .i64 col] 3)) 121 y.cells
    rw [hW0, hhe]; simpa using this
  have h0 := h.below hB0
  obtain ⟨v1, h1⟩ : ∃ v, v = fwithB row L.length := ⟨_, rfl⟩
  obtain ⟨v2, h2⟩ : ∃ v, v = fwithB col (W + 1) := ⟨_, rfl⟩
  obtain ⟨v3, h3⟩ : ∃ v, v = styB y := ⟨_, rfl⟩
  have HQ1 := Lib.hid (fcheckrow_any h0 row)
  rw [← h1] at HQ1
  have HST := Lib.hid (fstyle_any y)
  rw [← h3] at HST
  have hx0 := x0.cell
  have hx1 := x1.cell
  have hx2 := x2.cell
  have H := Lib.hid h
  have H0 := Lib.hid h0
  have H1 := Lib.hid h1
  have H2 := Lib.hid h2
  have H3 := Lib.hid h3
  have HW0 := Lib.hid hW0
  have HB0 := Lib.hid hB0
  have HHE := Lib.hid hhe
  have HSZ := Lib.hid hsz0
  have HT := Lib.hid hT
  have HTB := Lib.hid hTab
  have X0 := Lib.hid x0
  have X1 := Lib.hid x1
  have X2 := Lib.hid x2
  have X3 := Lib.hid x3
  unfold ftxt
  rw [← h1, ← h2, ← h3]
  clear h h0 h1 h2 h3 hW0 hB0 hsz0 hhe hT hTab x0 x1 x2 x3
  refine (callsIn_wide (n := 9)).1 ?_
  refine callsIn_of_wp_marks Tryd.func73 rfl trivial ?_ rfl
  simp only [Tryd.ntmps73, List.size_toArray, List.length_cons, List.length_nil, Nat.reduceAdd, Nat.reduceSub, Array.replicate_succ, Array.replicate_zero, List.push_toArray, List.append_toArray, List.nil_append, List.cons_append]
  refine wpIn_wide.2 ?_
  go_wp2_with (fail)
  rw [← HW0.out, ← HHE.out]
  refine HQ1.out.mono ?_
  rintro e w1 ⟨rfl, n1, rfl⟩
  have hb1 : ∀ n, Below w.heap.size w (W0.drewN n) := fun n => below_dN HB0.out n
  have HB1 := Lib.hid hb1
  have hch1 : ∀ n, Chg (GrOwn g rb bs) w (W0.drewN n) := fun n => Chg.of_below (hb1 n)
  have HC1 := Lib.hid hch1
  clear hb1 hch1
  cases v1
  · go_wp2_with (fail)
    refine ⟨_, results_tmp2 rfl _ _ _, rfl, H0.out.drewN _, HC1.out _⟩
  cases v2
  · go_wp2_with (first
      | (go_at_call 107; refine (fbsize_any (H0.out.drewN _)).mono ?_; rintro e w' ⟨rfl, n2, rfl⟩)
      | (go_at_call 100; refine (fwith_any _ _ _).mono ?_; rintro e w' ⟨rfl, rfl⟩; rw [← H2.out]))
    refine ⟨_, results_tmp2 rfl _ _ _, rfl, H0.out.drewN _, HC1.out _⟩
  cases v3
  · go_wp2_with (first
      | (go_at_call 107; refine (fbsize_any (H0.out.drewN _)).mono ?_; rintro e w' ⟨rfl, n2, rfl⟩)
      | (go_at_call 100; refine (fwith_any _ _ _).mono ?_; rintro e w' ⟨rfl, rfl⟩; rw [← H2.out])
      | ((with_reducible refine at_dst 34 ?_); refine wpList_load_mid rfl _ _ rfl (hh + 1 + 1 + 1) 0 rfl y.cells _ ((X3.out.drewN _).range 0 _ (fun j v hv => by simpa using hv)) Tryd.underlying121 rfl sty_size ?_)
      | (go_at_call 108; refine (HST.out _).mono ?_; rintro e w2 ⟨rfl, hb2⟩))
    refine ⟨_, results_tmp2 rfl _ _ _, rfl, (H0.out.drewN _).below hb2, (HC1.out _).trans (Chg.of_below (S := noB) hb2) (fun _ h => h.elim)⟩
  · have hfl := Lib.hid (fun W' (hW' : Tabs W') => cflat_any ⟨s.toArray⟩ (by show s.toArray.size ≤ _; rw [List.size_toArray]; omega) W' hW')
    have hfe : (⟨s.toArray⟩ : ByteArray).data.toList = s := rfl
    rw [hfe] at hfl
    have HFL := hfl
    clear hfl hfe
    go_wp2_with (first
      | (go_at_call 107; refine (fbsize_any (H0.out.drewN _)).mono ?_; rintro e w' ⟨rfl, n2, rfl⟩)
      | (go_at_call 100; refine (fwith_any _ _ _).mono ?_; rintro e w' ⟨rfl, rfl⟩; rw [← H2.out])
      | ((with_reducible refine at_dst 34 ?_); refine wpList_load_mid rfl _ _ rfl (hh + 1 + 1 + 1) 0 rfl y.cells _ ((X3.out.drewN _).range 0 _ (fun j v hv => by simpa using hv)) Tryd.underlying121 rfl sty_size ?_)
      | (go_at_call 108; refine (HST.out _).mono ?_; rintro e w2 ⟨rfl, hb2⟩)
      | (go_at_call 110; refine (HFL.out _ ((HTB.out.below (HB1.out _)).below hb2)).mono ?_; rintro e w3 ⟨rfl, hb3⟩)
      | (go_at_call 109; refine (call_any _ _).mono ?_; rintro e w' ⟨rfl, rfl⟩))
    refine (wpIn_wide (n := 9)).1 ?_
    have hfs : (flatB s).length ≤ 1000000 := by have := flatB_le s; omega
    obtain ⟨z, hz⟩ : ∃ z, z = w3.heap.size := ⟨_, rfl⟩
    obtain ⟨W4, hW4⟩ : ∃ W4, W4 = w3.alloc (.cells #[.string ⟨(flatB s).toArray⟩] 9) := ⟨_, rfl⟩
    rw [← hW4, ← hz]
    have hbx : Boxed W4 z 9 (.string ⟨(flatB s).toArray⟩) := by rw [hW4, hz]; exact Boxed.new w3 _ _
    have hsz4 : W4.heap.size = z + 1 := by rw [hW4, hz]; simp
    have hb04 : Below W0.heap.size W0 W4 := by
      rw [hW4]
      exact ((below_drewN W0 _).trans ((hb2.mono (Nat.le_refl _)).trans (hb3.mono (by have := hb2.size; exact this)))).alloc (by have := hb2.size; have := hb3.size; have h' : (W0.drewN (n1 + n2)).heap.size = W0.heap.size := (by simp); omega) _
    have hz0 : W0.heap.size ≤ z := by have := hb2.size; have := hb3.size; have h' : (W0.drewN (n1 + n2)).heap.size = W0.heap.size := (by simp); omega
    have hhb : hh + 1 + 1 + 1 < z := by have := HSZ.out; omega
    have hwh : w.heap.size ≤ hh := by have := HHE.out; omega
    have K : TxB lo b g rb bs hh W4.heap.size := ⟨fun k hk => ⟨H.out.grid.lo k hk, by have := H.out.grid.own_lt k hk; have := HHE.out; omega⟩, by have := H.out.head.lt; have := HHE.out; omega, H.out.nb, by omega, hlo.1, hlo.2.1, hlo.2.2, by have := H.out.lob; have := H.out.head.lt; have := HHE.out; omega⟩
    have hT0 := HTB.out.below HB0.out
    have hx1' : z < W4.heap.size := by omega
    have hJ0 : TxJ lo b g rb bs W row y hh W4.heap.size r0 c0 sn w ((L, col), false) W4 := by
      have h4 := H0.out.below hb04
      have ht4 := hT0.below hb04
      refine ⟨h4.grid, h4.head, (hb04.block hh X0.out.lt).trans X0.out, (hb04.block (hh + 1) X1.out.lt).trans X1.out, (hb04.block (hh + 1 + 1) X2.out.lt).trans X2.out, X3.out.below hb04 X3.out.lt, ht4.mt, ht4.wt, (HT.out.bel HB0.out).bel hb04, Chg.of_below (HB0.out.trans (hb04.mono HB0.out.size)), Nat.le_refl _⟩
    have hwb : w.heap.size ≤ W4.heap.size := by omega
    have HJ0 := Lib.hid hJ0
    have HK := Lib.hid K
    have hR4 : Tabs W4 := hJ0.tabs K
    obtain ⟨T, hTe⟩ : ∃ T, T = prs 0 (cls (rs (flatB s))) := ⟨_, rfl⟩
    have HTE := Lib.hid hTe
    have hrb : 0 ≤ row ∧ row < L.length := by have e := H1.out; unfold fwithB at e; simpa using e.symm
    have hcb : 0 ≤ col ∧ col ≤ W := by
      have e := H2.out
      unfold fwithB at e
      have e' : 0 ≤ col ∧ col < (W : Int) + 1 := by simpa using e.symm
      omega
    have hfin : ∀ T', T' = T → (txs T').foldl (tstP W row y) ((L, col), false) = (txs T').foldl (tst W row y) ((L, col), false) ∧ ftextM W L row col y (fcs s) = ((txs T').foldl (tst W row y) ((L, col), false)).1 := fun T' e => by
      have e2 : txs T' = fcs s := by rw [e, hTe, txs_prs]; rfl
      rw [e2]
      exact ⟨tstP_fold y hrb (fcs s) (H := L.length) ⟨rfl, hcb.1, hcb.2⟩ (fcs_is s), rfl⟩
    have hen : ∀ q : List (List Cl) × Int, ftextM W L row col y (fcs s) = q → q.1.length = L.length ∧ OkL q.1 := fun q e => by
      subst e
      exact ⟨(ftextM_length hcb (fcs_is s)).1, ftextM_ok H.out.ok H3.out.symm (fcs_is s)⟩
    have FIN := Lib.hid hfin
    have HEN := Lib.hid hen
    clear hrb hcb hfin hen
    have hcs := call_stops z ⟨(flatB s).toArray⟩ (by show (flatB s).toArray.size ≤ _; rw [List.size_toArray]; omega) (fun k => k = z ∨ k = 7 ∨ k = 8) W4 hbx.cell hR4 (.inl rfl) (.inr (.inl rfl)) (.inr (.inr rfl)) (fun k hk => by
      rcases hk with rfl | rfl | rfl
      · exact hx1'
      · exact hR4.mg
      · exact hR4.wg)
    rw [show (⟨(flatB s).toArray⟩ : ByteArray).data.toList = flatB s from rfl, ← hTe] at hcs
    have hz5 : z < W4.heap.size := hx1'
    have hm4 := hR4.mg
    have hw4 := hR4.wg
    clear hb2 hb3 hW4 hz hTe hJ0 hT0 hx0 hx1 hx2 hb04 hsz4 hbx
    refine range_priv rfl (by omega) (gf := 141) (lb := #[.pointer (some ⟨z, 0, none⟩)]) rfl trivial (enters_of Tryd.func141 (by kernel_rfl) rfl) hcs (Nat.le_refl _)
      (fun k hk => ⟨by rcases hk with rfl | rfl | rfl <;> assumption, rfl⟩) (fun _ => rfl)
      (fun pre f X => TxJ lo b g rb bs W row y hh W4.heap.size r0 c0 sn w ((txs pre).foldl (tstP W row y) ((L, col), false)) X ∧ ((txs pre).foldl (tstP W row y) ((L, col), false)).2 = false)
      (fun c pre f X => c = .exit 0 ∧ TxJ lo b g rb bs W row y hh W4.heap.size r0 c0 sn w ((txs pre).foldl (tstP W row y) ((L, col), false)) X ∧ ((txs pre).foldl (tstP W row y) ((L, col), false)).2 = true)
      (fun (s : List (Int × List UInt8)) f f' A B hs ht _ => ⟨hs.1.below HK.out hwb (below_turn ht hs.1.sz), hs.2⟩)
      (fun c (s : List (Int × List UInt8)) f f' A B hs ht _ => ⟨hs.1, hs.2.1.below HK.out hwb (below_turn ht hs.2.1.sz), hs.2.2⟩)
      ⟨HJ0.out, rfl⟩
      (fun x => { tmps := #[.pointer (some ⟨b, 0, none⟩), .int .i64 row, .int .i64 col, .string ⟨s.toArray⟩, .agg y.cells.toArray, .pointer (some ⟨hh, 0, none⟩), .pointer (some ⟨hh + 1, 0, none⟩), .pointer (some ⟨hh + 1 + 1, 0, none⟩), undef, .pointer (some ⟨hh + 1 + 1 + 1, 0, none⟩), .int .i64 0, .int .i64 0, .int .i64 0, .int .i64 W, .int .i64 L.length,
      undef, .string ⟨x.2.toArray⟩, undef, .pointer (some ⟨b, 0, none⟩), .int .i64 row, .int .i64 0, .int .i64 0, .bool false, undef, .tuple #[.int .i64 W, .int .i64 L.length], .pointer (some ⟨b, 0, none⟩), .tuple #[.int .i64 W, .int .i64 L.length], .int .i64 W, .int .i64 L.length, .int .i64 col, .int .i64 W, .int .i64 ((W : Int) + 1), .bool true, .bool false,
      .agg y.cells.toArray, .bool true, .bool false, .string ⟨s.toArray⟩, .string ⟨(flatB s).toArray⟩, .func (.func 141) #[] #[.pointer (some ⟨z, 0, none⟩)], .int .i64 x.1, .string ⟨x.2.toArray⟩, undef, undef, undef, undef, undef, undef, undef, undef, undef, undef, undef, undef, undef, undef, undef, undef, undef, undef], defers := [] }) ?assign ?body ?done ?stop
    case assign =>
      intro l x X K hK
      simp only [encC]
      rw [put_two]
      gi_wp2
      exact hK
    case body =>
      rintro lo' pre x f X hf hz ⟨hJ, hfl⟩ hlen hel
      have hn64 := hel.1
      have hv12 : 0 ≤ fw (rs x.2) ∧ fw (rs x.2) ≤ 2 := by
        have e : fw (rs x.2) = wc ((cls (rs x.2)).headD []) := (fw_cls (rs_isR x.2)).symm
        rw [e]
        exact wc_01 _
      have hstep : (txs (pre ++ [x])).foldl (tstP W row y) ((L, col), false) = tstP W row y ((txs pre).foldl (tstP W row y) ((L, col), false)) x.2 := by rw [txs_snoc, List.foldl_append]; rfl
      generalize (txs pre).foldl (tstP W row y) ((L, col), false) = q at hJ hfl hstep
      obtain ⟨⟨L1, c1⟩, fl⟩ := q
      simp only at hfl
      subst hfl
      have hst2 : tstP W row y ((L1, c1), false) x.2 = if (putM W L1 row c1 x.2 (fw (rs x.2)) y).2 = 0 then (((putM W L1 row c1 x.2 (fw (rs x.2)) y).1, c1 + fw (rs x.2)), false) else ((L1, c1), true) := by
        unfold tstP; simp
      rw [hst2] at hstep
      have hpk : (putM W L1 row c1 x.2 (fw (rs x.2)) y).2 = 0 → (fw (rs x.2) = 1 ∨ fw (rs x.2) = 2) ∧ 0 ≤ c1 ∧ c1 + fw (rs x.2) ≤ W := putM_ok
      have hpb : (putM W L1 row c1 x.2 (fw (rs x.2)) y).2 ≠ 0 → (putM W L1 row c1 x.2 (fw (rs x.2)) y).1 = L1 := putM_bad
      have hJX : ∀ Y, Below X.heap.size X Y → TxJ lo b g rb bs W row y hh W4.heap.size r0 c0 sn w ((L1, c1), false) Y := fun Y hY => hJ.below K hwb (hY.mono hJ.sz)
      have hfX : ∀ k, f k → k < X.heap.size ∧ ¬ TxS g rb bs hh k := fun k hk => by
        rcases hf k hk with h | h
        · refine ⟨by omega, fun hs => ?_⟩
          rcases hs with hs | hs
          · have := K.klo k hs; have := K.kg1; have := K.kg2; rcases h with h | h | h <;> omega
          · have := K.kg1; have := K.kg2; have := K.klh; rcases h with h | h | h <;> omega
        · exact ⟨h.2, fun hs => by
            rcases hs with hs | hs
            · have := K.klo k hs; omega
            · omega⟩
      have hwd := fwidth_l x.2 (by omega) X (hJ.tabs K)
      obtain ⟨v, hv⟩ : ∃ v, v = fw (rs x.2) := ⟨_, rfl⟩
      rw [← hv] at hwd hstep hpk hpb hv12
      obtain ⟨hv1, hv2⟩ := hv12
      have HJX := Lib.hid hJX
      have HFX := Lib.hid hfX
      have HWD := Lib.hid hwd
      have HSTEP := Lib.hid hstep
      have HPK := Lib.hid hpk
      have HPB := Lib.hid hpb
      have HSZX := Lib.hid hJ.sz
      clear hJ hst2 hpk hpb hJX hfX hwd hstep hv hel
      gi_wp2_with (refine ⟨trivial, ?_⟩; gi_at_call 111; refine (CallsIn.inRound lo' (callsIn_wide.2 HWD.out)).mono ?_; rintro e X1 ⟨rfl, hb1⟩)
      have hJ1 := HJX.out X1 hb1
      have k0 := cell_regrown hJ1.x0.cell
      have k1 := cell_regrown hJ1.x1.cell
      have k2 := cell_regrown hJ1.x2.cell
      have k3 := cell_regrown (show X1.cell? ⟨b, 1, none⟩ = some (.pointer (some ⟨g, 0, none⟩)) from hJ1.hd.cell 1)
      have y0 := cell_regrown (show X1.cell? ⟨hh + 1 + 1 + 1, 0, none⟩ = some (.bool y.b) from hJ1.x3.cell 0)
      have y1 := cell_regrown (show X1.cell? ⟨hh + 1 + 1 + 1, 1, none⟩ = some (.bool y.u) from hJ1.x3.cell 1)
      have y2 := cell_regrown (show X1.cell? ⟨hh + 1 + 1 + 1, 2, none⟩ = some (.bool y.i) from hJ1.x3.cell 2)
      have y3 := cell_regrown (show X1.cell? ⟨hh + 1 + 1 + 1, 3, none⟩ = some (.int .i64 y.f) from hJ1.x3.cell 3)
      have y4 := cell_regrown (show X1.cell? ⟨hh + 1 + 1 + 1, 4, none⟩ = some (.int .i64 y.g) from hJ1.x3.cell 4)
      simp only at k2
      have HB1' := Lib.hid hb1
      clear hJ1 hb1
      refine wpIn_region_below_tail 10 (by kernel_rfl) (by kernel_rfl) (by kernel_rfl) ?_
      simp only [List.take_succ_cons, List.take_zero, List.drop_succ_cons, List.drop_zero]
      repeat (gi_big_quiet_step (fail))
      refine wpQuietIn_nil ?_
      intro _ hw'
      obtain ⟨⟨dq, osq⟩, hw''⟩ := hw'
      subst hw''
      have hb2 : Below X.heap.size X (Go.Sort.grow (redrawn X1 dq) osq) := HB1'.out.trans ((below_regrown X1 dq osq).mono HB1'.out.size)
      clear k0 k1 k2 k3 y0 y1 y2 y3 y4
      generalize Go.Sort.grow (redrawn X1 dq) osq = X2 at hb2 ⊢
      have hJ2 := HJX.out X2 hb2
      have hput := put_any hJ2.gr hJ2.bt K.kg0 row c1 x.2 v y (by omega)
      simp only [Sty.cells] at hput
      have HC0 : Hid (∀ X3, Chg (GrOwn g rb bs) X2 X3 → Chg (TxS g rb bs hh) X X3) := Lib.hid (fun X3 h3 => (Chg.of_below (S := TxS g rb bs hh) hb2).trans h3 (fun j hj => .inl (.inl hj)))
      have HJ2 := Lib.hid hJ2
      have hkS : ∀ k, TxS g rb bs hh k → k < W4.heap.size := fun k hk => by
        have := K.khb
        rcases hk with hk | hk
        · have := K.klo k hk; omega
        · omega
      have HKS := Lib.hid hkS
      clear hb2 hJ2 hkS
      obtain ⟨cd, hcd⟩ : ∃ cd, cd = (putM W L1 row c1 x.2 v y).2 := ⟨_, rfl⟩
      rw [← hcd] at hput
      have HPUT := Lib.hid hput
      clear hput
      by_cases hz0c : cd = 0
      · subst hz0c
        have hstep := HSTEP.out
        rw [if_pos hcd.symm] at hstep
        obtain ⟨hp1, hp2, hp3⟩ := HPK.out hcd.symm
        have HS2 := Lib.hid hstep
        clear hstep hcd hp1
        gi_wp2_with (refine ⟨trivial, ?_⟩; gi_at_call 112; refine (CallsIn.inRound lo' (callsIn_wide.2 HPUT.out)).mono ?_; rintro e X3 ⟨rfl, hg3, hc3⟩; have hJ3 := HJ2.out.put K hg3 hc3; have hcc := hJ3.x2.cell; have hcf := hJ3.x2.frozen; have HJ3 := Lib.hid hJ3; have HC3 := Lib.hid (HC0.out X3 hc3); clear hJ3 hg3 hc3)
        have hgo := HJ3.out.go K hwh (c1 + v)
        refine ⟨rk_of_chg (HC3.out.setCell (p := ⟨hh + 1 + 1, 0, none⟩) (.inl (.inr rfl)) _) HKS.out HFX.out, ?_, ?_⟩
        · rw [HS2.out]; exact hgo
        · rw [HS2.out]
      · have hstep := HSTEP.out
        rw [if_neg (by rw [← hcd]; exact hz0c)] at hstep
        have hsame := HPB.out (by rw [← hcd]; exact hz0c)
        have hni : (cd != 0) = true := by simpa using hz0c
        have HS2 := Lib.hid hstep
        have HSM := Lib.hid hsame
        clear hstep hcd hsame hz0c
        gi_wp2_with (refine ⟨trivial, ?_⟩; gi_at_call 112; refine (CallsIn.inRound lo' (callsIn_wide.2 HPUT.out)).mono ?_; rintro e X3 ⟨rfl, hg3, hc3⟩; rw [HSM.out] at hg3; have hJ3 := HJ2.out.put K hg3 hc3; have HJ3 := Lib.hid hJ3; have HC3 := Lib.hid (HC0.out X3 hc3); clear hJ3 hg3 hc3)
        refine ⟨(rk_of_chg HC3.out HKS.out HFX.out).keeps, rfl, ?_, ?_⟩
        · rw [HS2.out]; exact HJ3.out.flag true
        · rw [HS2.out]
    case done =>
      rintro D ys f X hD hys ⟨hJ, hfl⟩ hK
      rw [hys] at hJ hfl
      have hend : (txs T).foldl (tstP W row y) ((L, col), false) = (txs T).foldl (tst W row y) ((L, col), false) ∧ ftextM W L row col y (fcs s) = ((txs T).foldl (tst W row y) ((L, col), false)).1 := FIN.out T rfl
      rw [hend.1] at hJ
      obtain ⟨hE1, hE2⟩ := hend
      generalize (txs T).foldl (tst W row y) ((L, col), false) = q at hJ hE2
      have hJ2 := hJ.below K hwb ((Below.refl W4.heap.size X).grown (grownBy_putObj' X D (.deferred none)) hJ.sz (fun k hk => by injection hk with hk; omega))
      have hcc := hJ.x2.cell
      have HJ2 := Lib.hid hJ2
      have HE2 := Lib.hid hE2
      clear hJ hfl hE1 hE2 hJ2 hys
      go_wp2
      refine ⟨by simp, .inl ⟨_, _, rfl, run_takeDeferred hK, ?_⟩⟩
      refine ⟨_, results_tmp2 rfl _ _ _, ?_, ?_, HJ2.out.ch⟩
      · rw [HE2.out]; rfl
      · rw [HE2.out]
        exact H.out.turned HJ2.out.gr HJ2.out.ch (HEN.out q.1 HE2.out).1 (HEN.out q.1 HE2.out).2
    case stop =>
      rintro D c pre f X hD hpre ⟨rfl, hJ, hfl⟩ hK
      obtain ⟨t, ht⟩ := hpre
      have hend : (txs T).foldl (tstP W row y) ((L, col), false) = (txs T).foldl (tst W row y) ((L, col), false) ∧ ftextM W L row col y (fcs s) = ((txs T).foldl (tst W row y) ((L, col), false)).1 := FIN.out T rfl
      have hsame : (txs T).foldl (tstP W row y) ((L, col), false) = (txs pre).foldl (tstP W row y) ((L, col), false) := by
        rw [← ht, show txs (pre ++ t) = txs pre ++ txs t by simp [txs], List.foldl_append]
        exact tstP_stop _ hfl
      rw [← hsame, hend.1] at hJ
      obtain ⟨hE1, hE2⟩ := hend
      clear hsame hfl ht
      generalize (txs T).foldl (tst W row y) ((L, col), false) = q at hJ hE2
      have hJ2 := hJ.below K hwb ((Below.refl W4.heap.size X).grown (grownBy_putObj' X D (.deferred none)) hJ.sz (fun k hk => by injection hk with hk; omega))
      have hcc := hJ.x2.cell
      have HJ2 := Lib.hid hJ2
      have HE2 := Lib.hid hE2
      clear hJ hE1 hE2 hJ2
      gi_wp2
      go_wp2
      refine ⟨by simp, .inl ⟨_, _, rfl, run_takeDeferred hK, ?_⟩⟩
      refine ⟨_, results_tmp2 rfl _ _ _, ?_, ?_, HJ2.out.ch⟩
      · rw [HE2.out]; rfl
      · rw [HE2.out]
        exact H.out.turned HJ2.out.gr HJ2.out.ch (HEN.out q.1 HE2.out).1 (HEN.out q.1 HE2.out).2
end Go.Proofs.YtaijiapolippaaaDoor
