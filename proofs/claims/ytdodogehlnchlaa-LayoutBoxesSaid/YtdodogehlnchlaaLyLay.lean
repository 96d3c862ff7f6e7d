/-
  Walk: lay.
-/
import Derived.Test.YtdodogehlnchlaaLyGrow
namespace Go.Proofs.Ytdodogehlnchlaa
open Go.RowKit Go.Shelf Go.Sort
attribute [local go_sem] Oper.semAt_some
set_option linter.unusedVariables false
set_option linter.unusedSimpArgs false

/-! what lay comes to -/
def d1 (gap room : Int) (P : Nat → Pt) (n : Nat) : Sts := dropN gap room n n (beg P)
def g2 (gap room : Int) (P : Nat → Pt) (n : Nat) : Sts × Nat := growS n (room - nd gap (d1 gap room P n) n).toNat (d1 gap room P n)
def aheadV (ov : Int) (al : Int) : Int := if al = 1 then ov else if al = 2 then ov / 2 else 0
def l3 (gap room al : Int) (P : Nat → Pt) (n : Nat) : Sts := (plL gap (g2 gap room P n).1 (aheadV (g2 gap room P n).2 al) (ki (kpO (g2 gap room P n).1) n)).1

/-- how many slots are kept, as the memory tells -/
def isT : Value → Bool
  | .bool true => true
  | _ => false
def cntW (w : World) (B : Nat) : Nat := match w.heap[B]? with
  | some (.cells cs _ _) => cs.toList.countP isT
  | _ => 0
theorem count_slB (σ : Sts) : ∀ n, (slB σ n).countP isT = cnt σ n := by
  intro n
  induction n with
  | zero => rfl
  | succ n ih =>
    unfold slB at ih ⊢
    rw [flB_succ, List.countP_append, ih]
    unfold cnt
    rw [ki_succ]
    cases h : (σ n).kp with
    | true => simp [slC, isT, h, kpO]; rfl
    | false => simp [slC, isT, h, kpO]
theorem cntW_blk {w : World} {B n : Nat} {t : TypeId} {σ : Sts} (h : Blk w B t (slB σ n)) : cntW w B = cnt σ n := by
  unfold Blk at h
  unfold cntW
  rw [h]
  exact count_slB σ n
theorem cnt_le (σ : Sts) (n : Nat) : cnt σ n ≤ n := ki_len _ _

theorem growS_ge (n : Nat) : ∀ (r : Nat) (σ : Sts), sumL (szO (growS n r σ).1) (ki (kpO σ) n) ≥ sumL (szO σ) (ki (kpO σ) n) := by
  intro r
  induction r with
  | zero => intro σ; exact Int.le_refl _
  | succ r ih =>
    intro σ
    cases hq : nxt σ n with
    | none => rw [growS_none hq]; exact Int.le_refl _
    | some j =>
      obtain ⟨h1, h2, h3⟩ := nxt_mem hq
      rw [growS_some hq]
      have e := ih (inc σ j)
      rw [kpO_inc, sumL_inc (szO_inc σ j) h2, if_pos h1] at e
      omega
theorem plL_same (gap : Int) (σ : Sts) (x : Int) (l : List Nat) : ∀ i, ((plL gap σ x l).1 i).kp = (σ i).kp ∧ ((plL gap σ x l).1 i).sz = (σ i).sz ∧ ((plL gap σ x l).1 i).p = (σ i).p := by
  unfold plL
  refine foldl_inv (plF gap) (fun _ s => ∀ i, (s.1 i).kp = (σ i).kp ∧ (s.1 i).sz = (σ i).sz ∧ (s.1 i).p = (σ i).p) (fun i => ⟨rfl, rfl, rfl⟩) ?_ l
  intro p y s h i
  by_cases he : i = y
  · subst he
    simp only [plF, upd_same]
    exact h i
  · simp only [plF, upd_other _ _ he]
    exact h i
theorem plL_kp (gap : Int) (σ : Sts) (x : Int) (l : List Nat) : kpO (plL gap σ x l).1 = kpO σ := funext fun i => (plL_same gap σ x l i).1

theorem Rk.setO {base : Nat} {f : Nat → Prop} {A B : World} (h : Rk base f A B) {k : Nat} (hk : ¬ f k) (o : Nat) (v : Value) : Rk base f A (B.setCell ⟨k, o, none⟩ v) :=
  h.trans ⟨(Below.refl 0 B).setCell (p := ⟨k, o, none⟩) (Nat.zero_le _) v, (KeepsOthers.setCell _ _ _).from _, fun j hj => Below.heap_setCell _ _ _ _ (fun e => hk (by subst e; exact hj))⟩
theorem Boxed.setO {w : World} {B k : Nat} {t : TypeId} {v : Value} (h : Boxed w B t v) (hne : B ≠ k) (o : Nat) (u : Value) : Boxed (w.setCell ⟨k, o, none⟩ u) B t v :=
  (Below.heap_setCell _ _ _ _ hne).trans h
theorem Blk.setO {w : World} {g k : Nat} {t : TypeId} {cs : List Value} (h : Blk w g t cs) (hne : g ≠ k) (o : Nat) (u : Value) : Blk (w.setCell ⟨k, o, none⟩ u) g t cs :=
  (Below.heap_setCell _ _ _ _ hne).trans h

/-- within a round of lay -/
structure LyB (h B C n : Nat) (gap x : Int) (σ : Sts) (pre : List Nat) (W : World) : Prop where
  b0 : Boxed W h 3 (.int .i64 gap)
  b1 : Boxed W C 3 (.int .i64 (plL gap σ x pre).2)
  bl : Blk W B 62 (slB (plL gap σ x pre).1 n)
  lo : 0 ≤ (plL gap σ x pre).2
  hi : (plL gap σ x pre).2 ≤ 500 + 509 * pre.length
theorem LyB.ab {h b B C n : Nat} {gap x : Int} {σ : Sts} (hb : h < b) (hB : B < b) (hC : C < b) : AbP b (fun pre (_ : Nat → Prop) W => LyB h B C n gap x σ pre W) := fun pre _ _ X Y q ht _ =>
  ⟨ht.block _ _ q.b0 (.inl (by omega)), ht.block _ _ q.b1 (.inl (by omega)), ht.block _ _ q.bl (.inl hB), q.lo, q.hi⟩

set_option maxRecDepth 100000 in
set_option maxHeartbeats 8000000 in
theorem lay_any (room gap al : Int) (A : Option Addr) (n c : Nat) (P : Nat → Pt) (w : World) (h1 : 1 ≤ n) (hn : n ≤ 64) (hr0 : 0 ≤ room) (hr5 : room ≤ 500) (hg0 : 0 ≤ gap) (hg9 : gap ≤ 9) (hP : ∀ i, i < n → (P i).Ok) (hS : Sl w w.heap.size A (ptB P n)) :
    Calls Try.prog 30 #[.int .i64 room, .int .i64 gap, .int .i64 al, .slice A n c] w fun e w' => ∃ B, w.heap.size ≤ B ∧ e = .returned (.slice (some ⟨B, 0, none⟩) n n) ∧ Blk w' B 62 (slB (l3 gap room al P n) n) ∧ Below w.heap.size w w' := by
  have HP := Lib.hid hP
  have hbx := Boxed.new w 3 (.int .i64 gap)
  have hba : Below w.heap.size w (w.alloc (.cells #[.int .i64 gap] 3)) := (Below.refl _ w).alloc (Nat.le_refl _) _
  have hS1 := hS.below hba
  have HS1 : Hid (Sl (w.alloc (.cells #[.int .i64 gap] 3)) (w.alloc (.cells #[.int .i64 gap] 3)).heap.size A (ptB P n)) := hS1.more (by simp)
  have hsz1 : (w.alloc (.cells #[.int .i64 gap] 3)).heap.size = w.heap.size + 1 := by simp
  clear hP hS hS1
  obtain ⟨W1, hW1⟩ : ∃ W1, W1 = w.alloc (.cells #[.int .i64 gap] 3) := ⟨_, rfl⟩
  rw [← hW1] at hbx hba HS1 hsz1
  have HW1 := Lib.hid hW1
  have HBX := Lib.hid hbx
  have HBA := Lib.hid hba
  clear hW1 hbx hba
  refine (callsIn_wide (n := 9)).1 ?_
  refine callsIn_of_wp_marks Try.func30 rfl trivial ?_ rfl
  simp only [Try.ntmps30, List.size_toArray, List.length_cons, List.length_nil, Nat.reduceAdd, Nat.reduceSub, Array.replicate_succ, Array.replicate_zero, List.push_toArray, List.append_toArray, List.nil_append, List.cons_append]
  refine wpIn_wide.2 ?_
  go_upto_region 1 with (fail)
  rw [← HW1.out]
  go_upto_region 2 with (go_at_call 27; refine (begin_any A n c P W1 h1 hn HS1.out).mono ?_; rintro e w2 ⟨rfl, hbl2, hbel2⟩; have HBL2 := Lib.hid hbl2; have HBE2 := Lib.hid hbel2; clear hbl2 hbel2)
  have HX2 : Hid (Boxed w2 w.heap.size 3 (.int .i64 gap)) := (HBE2.out.block _ (by omega)).trans HBX.out
  have HB2 : Hid (Blk w2 (w.heap.size + 1) 62 (slB (beg P) n)) := by have := HBL2.out; rwa [hsz1] at this
  have HW2 : Hid (Below w.heap.size w w2) := HBA.out.trans (HBE2.out.mono (by omega))
  clear HBL2 HBE2 HBX HBA HS1 HW1 hsz1
  go_loopw [19] (fun v19 wr => ∃ (m : Nat) (τ : Sts), cnt τ n ≤ m ∧ Hid (dropN gap room n m τ = d1 gap room P n) ∧ Hid (Inv0 P n τ) ∧ Blk wr (w.heap.size + 1) 62 (slB τ n) ∧ Boxed wr w.heap.size 3 (.int .i64 gap) ∧ Below w.heap.size w wr) (fun _ wr => cntW wr (w.heap.size + 1))
  case atStart => exact ⟨n, beg P, cnt_le _ _, rfl, Inv0.beg P n, HB2.out, HX2.out, HW2.out⟩
  case round =>
    obtain ⟨m, τ, hm, HD, HI, hb, hx, hw⟩ := hrel
    have HM := Lib.hid hm
    have HB := Lib.hid hb
    have HX := Lib.hid hx
    have HW := Lib.hid hw
    have k0 := Boxed.cell hx
    have hI1 := Inv1.of0 HI.out HP.out
    have HNE := fun W hbW => needed_any gap (w.heap.size + 1) n τ W hn hg0 hg9 hbW (fun i hi hk => ⟨by have := (hI1.bd HP.out hi hk).a; have := (hI1.bd HP.out hi hk).c; unfold szO; omega, (hI1.bd HP.out hi hk).b⟩)
    have HNE1 := Lib.hid HNE
    obtain ⟨v, hv⟩ : ∃ v, nd gap τ n = v := ⟨_, rfl⟩
    rw [hv] at HNE1
    have HV := Lib.hid hv
    clear hb hx hw HNE hv hm HB2 HX2 HW2
    by_cases hle : v ≤ room
    · have HF : Hid (τ = d1 gap room P n) := by have := HD.out; rwa [dropN_le (by rw [HV.out]; exact hle)] at this
      have HI1 := Lib.hid hI1
      clear hI1
      have HNV : Hid (0 ≤ v ∧ room - v ≤ 500) := by
        have := (need_bd (gap := gap) (f := szO τ) (l := ki (kpO τ) n) hg0 hg9 (fun i hi => by
          have hi' := mem_ki.1 hi
          have b := HI1.out.bd HP.out hi'.1 hi'.2
          have b1 := b.a; have b2 := b.c; have b3 := b.b
          unfold szO
          omega)).1
        have e := HV.out
        unfold nd at e
        rw [e] at this
        exact ⟨this, by omega⟩
      obtain ⟨r, hr⟩ : ∃ r : Nat, room - v = r := ⟨(room - v).toNat, by omega⟩
      have hr500 : r ≤ 500 := by have := HNV.out; omega
      have HR := Lib.hid hr
      obtain ⟨σ2, ov, hg2⟩ : ∃ a b, growS n r τ = (a, b) := ⟨_, _, rfl⟩
      have HG2 : Hid (g2 gap room P n = (σ2, ov)) := by
        unfold g2
        rw [← HF.out, HV.out, HR.out, Int.toNat_natCast]
        exact hg2
      have hov : ov ≤ 500 := by
        have e := growS_sum n r τ
        have hsub : sumL (szO (growS n r τ).1) (ki (kpO τ) n) ≥ sumL (szO τ) (ki (kpO τ) n) := growS_ge n r τ
        rw [hg2] at e hsub
        simp only at e hsub
        omega
      have HGR := Lib.hid (fun W hbW => hg2 ▸ grow_any (w.heap.size + 1) n τ P r W hn hr500 HP.out HI1.out hbW)
      have HI2 : Hid (Inv1 P n σ2) := by have := Inv1.grow (n := n) r τ HI1.out; rwa [hg2] at this
      have HKP : Hid (kpO σ2 = kpO τ) := by have := growS_kp n r τ; rwa [hg2] at this
      clear hg2 HI HD HF HI1
      go_upto_region 4 with (go_at_call 26; refine (HNE1.out _ HB.out).mono ?_; rintro e w3 ⟨rfl, hb3⟩; have HBE3 := Lib.hid hb3; have HB3 := Lib.hid (HB.out.below hb3 HB.out.lt); clear hb3)
      have HX3 : Hid (Boxed w3 w.heap.size 3 (.int .i64 gap)) := (HBE3.out.block _ (Boxed.lt HX.out)).trans HX.out
      have HW3 : Hid (Below w.heap.size w w3) := HW.out.trans (HBE3.out.mono HW.out.size)
      have k1 := Boxed.cell HX3.out
      clear k0 HBE3 HX HW HB
      have hrv := HR.out
      go_upto_region 5 with (first
        | (go_at_call 26; refine (HNE1.out _ HB3.out).mono ?_; rintro e w4 ⟨rfl, hb4⟩; have HBE4 := Lib.hid hb4; have HB4 := Lib.hid (HB3.out.below hb4 HB3.out.lt); clear hb4)
        | (go_at_call 41; (try rw [hrv]); refine (HGR.out _ HB4.out).mono ?_; rintro e w5 ⟨rfl, hb5, hc5⟩; have HB5 := Lib.hid hb5; have HC5 := Lib.hid hc5; clear hb5 hc5))
      have hX5 : Boxed w5 w.heap.size 3 (.int .i64 gap) := (HC5.out.block _ (Nat.lt_of_lt_of_le (Boxed.lt HX3.out) HBE4.out.size) (fun e => by have e' : w.heap.size = w.heap.size + 1 := e; omega)).trans ((HBE4.out.block _ (Boxed.lt HX3.out)).trans HX3.out)
      have hW5 : Below w.heap.size w w5 := (HW3.out.trans (HBE4.out.mono HW3.out.size)).trans (HC5.out.below (Nat.le_trans HW3.out.size HBE4.out.size) (fun k hk => by rw [show k = w.heap.size + 1 from hk]; omega))
      have hB5l := HB5.out.lt
      obtain ⟨a0, ha0⟩ : ∃ a, aheadV ov al = a := ⟨_, rfl⟩
      have hab : 0 ≤ a0 ∧ a0 ≤ 500 := by
        rw [← ha0]
        unfold aheadV
        split
        · omega
        · split <;> omega
      obtain ⟨hab0, hab5⟩ := hab
      have HA0 := Lib.hid ha0
      have hah : Calls Try.prog 42 #[.int .i64 (ov : Int), .int .i64 al] w5 fun e w' => e = .returned (.int .i64 a0) ∧ w5 = w' := by
        rw [← ha0]
        exact (ahead_any ov al (by omega) (by omega) w5).mono fun e w' h => ⟨h.1, h.2.symm⟩
      have HAH := Lib.hid hah
      clear hah
      have z0 := (hX5.alloc (.cells #[.int .i64 a0] 3)).alloc (.cells #[.slice (some ⟨w.heap.size + 1, 0, none⟩) n n] 56)
      have z1 := (Boxed.new w5 3 (.int .i64 a0)).alloc (.cells #[.slice (some ⟨w.heap.size + 1, 0, none⟩) n n] 56)
      have z3 := Boxed.new (w5.alloc (.cells #[.int .i64 a0] 3)) 56 (.slice (some ⟨w.heap.size + 1, 0, none⟩) n n)
      have z4 := (HB5.out.alloc (.cells #[.int .i64 a0] 3)).alloc (.cells #[.slice (some ⟨w.heap.size + 1, 0, none⟩) n n] 56)
      simp only [World.size_alloc] at z3
      have hs4 : ((w5.alloc (.cells #[.int .i64 a0] 3)).alloc (.cells #[.slice (some ⟨w.heap.size + 1, 0, none⟩) n n] 56)).heap.size = w5.heap.size + 2 := by simp
      have hb : Below w.heap.size w ((w5.alloc (.cells #[.int .i64 a0] 3)).alloc (.cells #[.slice (some ⟨w.heap.size + 1, 0, none⟩) n n] 56)) := (hW5.alloc hW5.size _).alloc (by simp; have := hW5.size; omega) _
      have HB := Lib.hid hb
      have HZ0 := Lib.hid z0
      have HZ1 := Lib.hid z1
      have HZ3 := Lib.hid z3
      have HZ4 := Lib.hid z4
      have HW5L := Lib.hid hW5.size
      clear hb z0 z1 z3 z4 ha0 hX5 hW5 k1 HB3 HB4 HBE4 HC5 HX3 HW3 HNE1 HGR HR hr hrv
      go_wp2_with (first
        | (go_at_call 42; refine HAH.out.mono ?_; rintro e w' ⟨rfl, rfl⟩)
        | (go_at_call 39; refine (kept_any _ _ _ _).mono ?_; rintro e w' ⟨rfl, rfl⟩))
      generalize hX1 : ((w5.alloc (.cells #[.int .i64 a0] 3)).alloc (.cells #[.slice (some ⟨w.heap.size + 1, 0, none⟩) n n] 56)) = X1 at *
      clear hX1
      refine (wpIn_wide (n := 9)).1 ?_
      have hw5l := HW5L.out
      refine range_q rfl (by omega) (gf := 46) (lb := #[.pointer (some ⟨w5.heap.size + 1, 0, none⟩)]) rfl trivial (enters_of Try.func46 (by kernel_rfl) rfl)
        (kept_stops (w.heap.size + 1) n (kpO σ2) 6 (w5.heap.size + 1) X1 hn HZ3.out (fun k => k = w5.heap.size + 1) rfl)
        (Nat.le_refl _) (fun k hk => ⟨by omega, rfl⟩) (fun _ => rfl)
        (fun pre f W => LyB w.heap.size (w.heap.size + 1) w5.heap.size n gap a0 σ2 pre W ∧ Below w.heap.size w W)
        (fun _ _ _ _ => False)
        (fun pre f W h => by have := RdK.blk h.1.bl; rwa [plL_kp] at this)
        (AbP.and (LyB.ab (by omega) (by omega) (by omega)) (AbP.below (by omega) (Nat.le_refl _)))
        (fun _ => AbP.none _)
        ⟨⟨HZ0.out, HZ1.out, HZ4.out, hab0, by show a0 ≤ _; simp; omega⟩, HB.out⟩
        ?a1 ?assign ?body ?done ?stop
      case assign =>
        intro l x W K hK
        simp only [encK]
        rw [put_one1]
        gi_wp2
        exact hK
      case body =>
        rintro lo' pre x f W hff hz ⟨hB, hbW⟩ hlen hel
        have hx1 := hel.1
        have hcs : (((plL gap σ2 a0 pre).1 x).sz) = (σ2 x).sz := (plL_same gap σ2 a0 pre x).2.1
        have hbd := HI2.out.bd HP.out hel.1 hel.2
        have hbd1 : 0 ≤ (σ2 x).sz := by have := hbd.a; have := hbd.c; omega
        have hbd2 := hbd.b
        have hlo := hB.lo
        have hhi := hB.hi
        have HQ : Hid (plL gap σ2 a0 (pre ++ [x]) = plF gap (plL gap σ2 a0 pre) x) := plL_snoc gap σ2 a0 pre x
        have c0 := hB.b0.cell
        have c1 := hB.b1.cell
        have f1 := hB.b1.frozen
        have cA : W.cell? ⟨w.heap.size + 1, x * 7 + 5, none⟩ = some (.int .i64 ((plL gap σ2 a0 pre).1 x).a) := by rw [hB.bl.cell, slB_get hel.1 (by omega)]; rfl
        have fA := hB.bl.frozen (x * 7 + 5)
        have hpl : (pre.length : Int) ≤ 64 := by omega
        obtain ⟨s1, e1⟩ : ∃ s, (plL gap σ2 a0 pre).2 = s := ⟨_, rfl⟩
        obtain ⟨s3, e3⟩ : ∃ s, (σ2 x).sz = s := ⟨_, rfl⟩
        rw [e1] at hlo hhi c1
        rw [e3] at hbd1 hbd2 hcs
        have HE1 := Lib.hid e1
        have HCS := Lib.hid hcs
        have hnf : ∀ k, w.heap.size ≤ k → k < w5.heap.size + 1 → ¬ f k := fun k h1 h2 hk => by
          rcases hff _ hk with h' | h' <;> omega
        have HFB : Hid (∀ k, f k → k < W.heap.size) := fun k hk => by
          rcases hff _ hk with h' | h' <;> omega
        have HBB := Lib.hid hB
        have HBW := Lib.hid hbW
        have HNF := Lib.hid hnf
        clear hbW hnf hcs e1 e3 hbd hel hff
        have hzero : W.cell? ⟨w.heap.size + 1, x * 7 + 5, none⟩ = some (.int .i64 ((plL gap σ2 a0 pre).1 x).a) := cA
        gi_wp2_with (fail)
        have hb1 := hB.bl.set_ (x * 7 + 5) (.int .i64 s1)
        rw [slB_setA hx1] at hb1
        have hp0 := Boxed.setO hB.b0 (k := w.heap.size + 1) (by omega) (x * 7 + 5) (.int .i64 s1)
        have hp1 := Boxed.setO hB.b1 (k := w.heap.size + 1) (by omega) (x * 7 + 5) (.int .i64 s1)
        have hbw2 := HBW.out.setCell (p := ⟨w.heap.size + 1, x * 7 + 5, none⟩) (by simp) (.int .i64 s1)
        have hrk := (Rk.refl X1.heap.size f W).setO (HNF.out (w.heap.size + 1) (by omega) (by omega)) (x * 7 + 5) (.int .i64 s1)
        rw [HE1.out] at hp1
        have hcz : (W.setCell ⟨w.heap.size + 1, x * 7 + 5, none⟩ (.int .i64 s1)).cell? ⟨w.heap.size + 1, x * 7 + 6, none⟩ = some (.int .i64 s3) := by
          rw [hb1.cell, slB_get hx1 (by omega)]
          show some (Value.int .i64 ((upd (plL gap σ2 a0 pre).1 x (atS ((plL gap σ2 a0 pre).1 x) s1)) x).sz) = _
          rw [upd_same]
          show some (Value.int .i64 ((plL gap σ2 a0 pre).1 x).sz) = _
          rw [HCS.out]
        have hsW : W.heap.size = (W.setCell ⟨w.heap.size + 1, x * 7 + 5, none⟩ (.int .i64 s1)).heap.size := by simp [World.setCell]
        have hfb : ∀ k, f k → k < W.heap.size := fun k hk => by
          have := HFB.out k hk
          omega
        rw [hsW] at hfb
        have HFB2 := Lib.hid hfb
        clear cA fA c0 c1 f1 hzero hB hfb hsW HBB HBW
        obtain ⟨W3, hW3⟩ : ∃ W3, W3 = W.setCell ⟨w.heap.size + 1, x * 7 + 5, none⟩ (.int .i64 s1) := ⟨_, rfl⟩
        rw [← hW3] at hb1 hp0 hp1 hbw2 hrk hcz HFB2 ⊢
        clear hW3
        have k0 := cell_regrown hp0.cell
        have k1 := cell_regrown hp1.cell
        have k3 := cell_regrown hcz
        have HB1 := Lib.hid hb1
        have HP0 := Lib.hid hp0
        have HP1 := Lib.hid hp1
        have HBW2 := Lib.hid hbw2
        have HRK := Lib.hid hrk
        clear hb1 hp0 hp1 hbw2 hrk hcz
        gi_wp2_with (fail)
        refine wpIn_region_below_tail 8 (by kernel_rfl) (by kernel_rfl) (by kernel_rfl) ?_
        simp only [List.take_succ_cons, List.take_zero, List.drop_succ_cons, List.drop_zero]
        repeat (first
          | gi_big_quiet_step (fail)
          | quiet_step_in (fail))
        refine wpQuietIn_nil ?_
        intro _ hw'
        obtain ⟨⟨dq, osq⟩, hw''⟩ := hw'
        subst hw''
        have hbx := below_regrown W3 dq osq
        have y0 : Boxed (grow (redrawn W3 dq) osq) w.heap.size 3 (.int .i64 gap) := (hbx.block _ (Boxed.lt HP0.out)).trans HP0.out
        have y1 : Boxed (grow (redrawn W3 dq) osq) w5.heap.size 3 (.int .i64 s1) := (hbx.block _ (Boxed.lt HP1.out)).trans HP1.out
        have y4 := HB1.out.below hbx HB1.out.lt
        have yb : Below w.heap.size w (grow (redrawn W3 dq) osq) := HBW2.out.trans (hbx.mono HBW2.out.size)
        have yk : Rk X1.heap.size f W (grow (redrawn W3 dq) osq) := HRK.out.trans (Rk.of_below hbx HFB2.out)
        clear k0 k1 k3 hbx
        generalize grow (redrawn W3 dq) osq = W4 at *
        have r1 := Boxed.cell y1
        have fr1 := Boxed.frozen y1
        have Y0 := Lib.hid y0
        have Y1 := Lib.hid y1
        have Y4 := Lib.hid y4
        have YB := Lib.hid yb
        have YK := Lib.hid yk
        clear y0 y1 y4 yb yk
        gi_wp2
        have hqz : ((plL gap σ2 a0 pre).1 x).sz = s3 := HCS.out
        have hq1 : (plL gap σ2 a0 (pre ++ [x])).1 = upd (plL gap σ2 a0 pre).1 x (atS ((plL gap σ2 a0 pre).1 x) s1) := by rw [HQ.out]; simp only [plF, HE1.out]
        have hq2 : (plL gap σ2 a0 (pre ++ [x])).2 = s1 + (s3 + gap) := by rw [HQ.out]; simp only [plF, HE1.out, hqz]
        refine ⟨YK.out.setCell (HNF.out _ (by omega) (by omega)) _, ⟨Boxed.setO Y0.out (by omega) 0 _, ?_, ?_, ?_, ?_⟩, YB.out.setCell (p := ⟨w5.heap.size, 0, none⟩) (by simp; omega) _⟩
        · rw [hq2]; exact Boxed.set _ Y1.out
        · rw [hq1]; exact Blk.setO Y4.out (by omega) 0 _
        · rw [hq2]; omega
        · rw [hq2, List.length_append, List.length_singleton]; omega
      case done =>
        rintro D ys f W hD rfl ⟨hB, hbW⟩ hK
        have HE := Lib.hid (show Below w.heap.size w (W.putObj D (.deferred none)) from hbW.trans (belowK_b (w := w) (Nat.le_refl _) W D _ _ (by omega) hK rfl rfl))
        have hbl := hB.bl
        have e3 : (plL gap σ2 a0 (ki (kpO σ2) n)).1 = l3 gap room al P n := by unfold l3; rw [HG2.out]; dsimp only; rw [HA0.out]
        rw [e3] at hbl
        have HBL := Lib.hid hbl
        clear hB hbW e3 hbl
        go_wp2
        refine ⟨by simp, .inl ⟨_, _, rfl, run_takeDeferred hK, ?_⟩⟩
        exact ⟨_, results_tmp rfl _ _ _, w.heap.size + 1, by omega, rfl, (World.putObj_heap_other (by omega)).trans HBL.out, HE.out⟩
      case stop =>
        rintro D c pre f W _ _ h _
        exact h.elim
    · obtain ⟨j, hj, hjm⟩ := nd_pos hr0 (by rw [HV.out]; exact hle)
      have hmp : 0 < m := by have := cnt_drp hjm; have := HM.out; omega
      obtain ⟨m', rfl⟩ : ∃ m', m = m' + 1 := ⟨m - 1, by omega⟩
      have HF : Hid (dropN gap room n m' (drp τ j) = d1 gap room P n) := by have := HD.out; rwa [dropN_step (by rw [HV.out]; exact hle) hj] at this
      have HI' : Hid (Inv0 P n (drp τ j)) := HI.out.drp hjm
      have HCN : Hid (cnt (drp τ j) n ≤ m' ∧ cnt (drp τ j) n < cnt τ n) := by have := cnt_drp hjm; have := HM.out; exact ⟨by omega, by omega⟩
      have HJ := Lib.hid hj
      have HC0 : Hid (cntW wr (w.heap.size + 1) = cnt τ n) := cntW_blk HB.out
      clear hj hjm hmp hI1
      go_upto_region 3 with (go_at_call 26; refine (HNE1.out _ HB.out).mono ?_; rintro e w3 ⟨rfl, hb3⟩; have HBE3 := Lib.hid hb3; have HB3 := Lib.hid (HB.out.below hb3 HB.out.lt); clear hb3)
      go_wp2_with (go_at_call 40; refine (drop_any (w.heap.size + 1) n τ w3 hn HB3.out j HJ.out).mono ?_; rintro e w4 ⟨⟨ve, rfl⟩, hb4, hc4⟩; have HB4 := Lib.hid hb4; have HC4 := Lib.hid hc4; clear hb4 hc4)
      have HWS : Hid (w.heap.size ≤ w3.heap.size) := Nat.le_trans HW.out.size HBE3.out.size
      have hx4 : Boxed w4 w.heap.size 3 (.int .i64 gap) := (HC4.out.block _ (Nat.lt_of_lt_of_le (Boxed.lt HX.out) HBE3.out.size) (fun e => by have e' : w.heap.size = w.heap.size + 1 := e; omega)).trans ((HBE3.out.block _ (Boxed.lt HX.out)).trans HX.out)
      have hw4 : Below w.heap.size w w4 := (HW.out.trans (HBE3.out.mono HW.out.size)).trans (HC4.out.below HWS.out (fun k hk => by rw [show k = w.heap.size + 1 from hk]; omega))
      go_roundw
      case rel => exact ⟨m', drp τ j, HCN.out.1, HF, HI', HB4.out, hx4, hw4⟩
      case measure => rw [cntW_blk HB4.out, HC0.out]; exact HCN.out.2
end Go.Proofs.Ytdodogehlnchlaa
