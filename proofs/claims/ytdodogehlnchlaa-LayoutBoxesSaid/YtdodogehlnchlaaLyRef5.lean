/-
  Walks: the document's lay, Sizes.
-/
import Derived.Test.YtdodogehlnchlaaLyRef4
namespace Go.Proofs.Ytdodogehlnchlaa
open Go.RowKit Go.Shelf Go.Sort
attribute [local go_sem] Oper.semAt_some
set_option linter.unusedVariables false
set_option linter.unusedSimpArgs false

theorem lygetD {tmps : Array Value} {a : Nat} {v : Value} (h : tmps.getD a undef = v) : tmps[a]?.getD undef = v := by simpa using h
theorem lyres_c {fn : Func} {tmps : Array Value} {a t : Nat} {ad : Nat} {cs : List Value} {w : World} {d : TypeDesc} (hf : fn.results = #[.cell a t]) (ha : tmps.getD a undef = .pointer (some ⟨ad, 0, none⟩))
    (hc : w.rangeAt ad 0 cs) (hu : Try.prog.underlying t = some d) (hd : d.isRow = true) (hi : (Try.prog.info? t).map (·.size) = some cs.length) : (results fn tmps).run Try.prog w = .ok (.agg cs.toArray) w := by
  have hl := run_loadVar_mid (P := Try.prog) w ad 0 t cs d hc hu hd hi
  have ha' := lygetD ha
  unfold results
  simp [hf, ha', asAddr, hl]
theorem laid_size : (Try.prog.info? 65).map (·.size) = some 2 := by kernel_rfl
def ldC (A : Option Addr) (n c : Nat) (o : Int) : List Value := [.slice A n c, .int .i64 o]
theorem ldC_one (A : Option Addr) (n c : Nat) (o : Int) : ∀ v ∈ ldC A n c o, v.oneCell' = true := by
  intro v hv
  simp only [ldC, List.mem_cons, List.not_mem_nil, or_false] at hv
  rcases hv with rfl | rfl <;> rfl
theorem grown_setO (w : World) (k o : Nat) (v : Value) : w.grownBy (w.setCell ⟨k, o, none⟩ v) (some k) :=
  ⟨rfl, rfl, rfl, by simp [World.setCell], fun j hj hne => Below.heap_setCell _ _ _ _ (fun e => hne (by rw [show j = k from e]))⟩
/-- append of one cell to a row of the call's own, beside other blocks -/
theorem app_two {T e : TypeId} {z : Value} {bytes : Nat} (hT : Try.prog.underlying T = some (.slice e)) (hI : (Try.prog.info? e).map (fun i => (i.zero, i.size, i.bytes)) = some (some z, 1, bytes)) (hz : z.cells.size = 1) (hby : bytes ≤ 64)
    {wr : World} {B : Nat} {A : Option Addr} {k c : Nat} {xs : List Value} (hor : OR wr B e A k c xs) (hB : B ≤ wr.heap.size) (v : Value) (h1 : v.oneCell' = true) (hk : k ≤ 1000000) :
    ∃ A' c' w', (Builtin.append_ #[T, T] T #[.slice A k c, .slice (some ⟨wr.heap.size, 0, none⟩) 1 1]).run Try.prog (wr.alloc (.cells #[v] e)) = .ok (.slice A' (k + 1) c') w' ∧ OR w' B e A' (k + 1) c' (xs ++ [v]) ∧ Chg (fun g => B ≤ g) wr w' := by
  obtain ⟨A', c', w', hr, ho, hg, hat⟩ := run_app hT hI hz hby (wr.alloc (.cells #[v] e)) T B A k c _ (hor.alloc _) (some ⟨wr.heap.size, 0, none⟩) 1 1 [v] (wr.heap.size + 1) (Sl.new wr #[v] e) (by simp) (fun h => by cases h) (by intro u hu; simp at hu; subst hu; exact h1) (k + 1) rfl (by omega) (by simp; omega)
  refine ⟨A', c', w', hr, ho, ?_⟩
  exact ((Chg.refl (fun g => B ≤ g) wr).alloc _).grown hg (fun j hj => .inl ((hor.alloc (.cells #[v] e)).blk_lt j hj).1)

set_option maxRecDepth 100000 in
set_option maxHeartbeats 8000000 in
theorem rlay_any (room gap : Int) (ab off n c : Nat) (P : Nat → Pt) (B : Option Addr) (m d : Nat) (w : World) (h1 : 1 ≤ n) (hn : n ≤ 64) (hm : m = n) (hr0 : 0 ≤ room) (hr5 : room ≤ 500) (hg0 : 0 ≤ gap) (hg9 : gap ≤ 9) (hP : ∀ i, i < n → (P i).Ok) (hS : Sl w w.heap.size (some ⟨ab, off, none⟩) (ptB P n)) (hB : Sl w w.heap.size B (rw1 (fun i => .bool (kpR gap room P n i)) n)) :
    Calls Try.prog 32 #[.int .i64 room, .int .i64 gap, .slice (some ⟨ab, off, none⟩) n c, .slice B m d] w fun e w' => ∃ S q, e = .returned (.agg #[.slice S n q, .int .i64 (overR gap room P n)]) ∧ OR w' w.heap.size 3 S n q (rw1 (fun i => .int .i64 (szR gap room P n i)) n) ∧ Below w.heap.size w w' := by
  have hm' : n = m := hm.symm
  subst hm'
  clear hm
  obtain ⟨τ0, hτ0⟩ : ∃ τ, d1 gap room P n = τ := ⟨_, rfl⟩
  have HI0 : Hid (Inv0 P n τ0) := by rw [← hτ0]; exact d1_inv gap P n hr0
  have HK0 : Hid (∀ i, kpR gap room P n i = kpO τ0 i) := fun i => by unfold kpR; rw [g2_kp, hτ0]
  have hnd : nd gap τ0 n ≤ room := by rw [← hτ0]; exact d1_need gap P n hr0
  have hB' : Sl w w.heap.size B (rw1 (fun i => .bool (kpO τ0 i)) n) := by
    have e : (fun i => Value.bool (kpR gap room P n i)) = fun i => Value.bool (kpO τ0 i) := by funext i; rw [HK0.out i]
    rwa [e] at hB
  have HNDV := Lib.hid (inv0_nd gap HI0.out)
  have hnd0 : 0 ≤ nd gap τ0 n := by
    unfold nd
    refine (need_bd hg0 hg9 (fun i hi => ?_)).1
    have hb := (Inv1.of0 HI0.out hP).bd hP (mem_ki.1 hi).1 (mem_ki.1 hi).2
    have b1 := hb.a; have b2 := hb.c; have b3 := hb.b
    unfold szO
    omega
  obtain ⟨v, hv⟩ : ∃ v, nd gap τ0 n = v := ⟨_, rfl⟩
  rw [hv] at hnd hnd0 HNDV
  obtain ⟨r, hr⟩ : ∃ r : Nat, room - v = r := ⟨(room - v).toNat, by omega⟩
  have hr500 : r ≤ 500 := by omega
  obtain ⟨σF, oF, hG⟩ : ∃ a b, growS n r τ0 = (a, b) := ⟨_, _, rfl⟩
  have HG2 : Hid (g2 gap room P n = (σF, oF)) := by
    show g2 gap room P n = _
    unfold g2
    rw [hτ0, hv, hr, Int.toNat_natCast]
    exact hG
  have HG := Lib.hid hG
  have HR := Lib.hid hr
  have HP := Lib.hid hP
  have HS := Lib.hid hS
  have HB := Lib.hid hB'
  have HI1 := Lib.hid (Inv1.of0 HI0.out hP)
  have hKM : ∀ i, i < n → kpO τ0 i = true → szO τ0 i = (P i).mn := fun i hi hk => by unfold szO; rw [inv0_kept HI0.out hk]; rfl
  have HKM := Lib.hid hKM
  have HKZ : Hid (∀ i, i < n → kpO τ0 i = false → szO τ0 i = 0) := fun i hi hk => by unfold szO; rw [HI1.out.z i hi hk]; rfl
  clear hτ0 HK0 hB hB' hG hS hP hv hKM HI0
  obtain ⟨W1, hW1⟩ : ∃ W1, W1 = (w.alloc (.cells #[.slice none 0 0, .int .i64 0] 65)).alloc (.cells #[.slice none 0 0, .int .i64 0] 65) := ⟨_, rfl⟩
  have hx0 : Blk W1 w.heap.size 65 (ldC none 0 0 0) := by rw [hW1]; exact (Blk.new w 65 (ldC none 0 0 0)).alloc _
  have hx1 : Blk W1 (w.heap.size + 1) 65 (ldC none 0 0 0) := by
    rw [hW1]
    have := Blk.new (w.alloc (.cells #[.slice none 0 0, .int .i64 0] 65)) 65 (ldC none 0 0 0)
    rwa [World.size_alloc] at this
  have hbw : Below w.heap.size w W1 := by rw [hW1]; exact ((Below.refl _ w).alloc (Nat.le_refl _) _).alloc (by simp) _
  have hs2 : W1.heap.size = w.heap.size + 2 := by rw [hW1]; simp
  have HX0 := Lib.hid hx0
  have HX1 := Lib.hid hx1
  have HBW := Lib.hid hbw
  have HS2 := Lib.hid hs2
  have HW1 := Lib.hid hW1
  clear hx0 hx1 hbw hs2 hW1
  go_enter Try.func32, Try.ntmps32
  go_upto_region 2 with (fail)
  rw [← HW1.out]
  clear HW1
  go_wp2_with (fail)
  go_loopw [10] (fun v10 wr => ∃ (k : Nat) (A : Option Addr) (q : Nat), v10 = .int .i64 k ∧ k ≤ n ∧ Blk wr (w.heap.size + 1) 65 (ldC A k q 0) ∧ Blk wr w.heap.size 65 (ldC none 0 0 0) ∧ OR wr (w.heap.size + 2) 3 A k q (rw1 (fun i => .int .i64 (szO τ0 i)) k) ∧ Below w.heap.size w wr ∧ w.heap.size + 2 ≤ wr.heap.size) (fun v _ => n - (intOf v).toNat)
  case atStart => exact ⟨0, none, 0, rfl, by omega, HX1.out, HX0.out, OR.none_ _ _ _, HBW.out, by rw [HS2.out]; omega⟩
  case round =>
    obtain ⟨k, A, q, rfl, hk, hl1, hl0, hor, hw, hz⟩ := hrel
    have L1 := Lib.hid hl1
    have L0 := Lib.hid hl0
    have HOR := Lib.hid hor
    have HW := Lib.hid hw
    have HZ := Lib.hid hz
    clear hl0 hor hz HX0 HX1 HBW HS2
    by_cases hlt : k < n
    · have hki : (k : Int) < n := by omega
      obtain ⟨b1, o1, rfl, hb1, hc1⟩ := rw1_at HB.out hlt
      have c1 := (hw.cell (p := ⟨b1, o1 + k, none⟩) hb1).trans hc1
      have c2 := (pt_cellR (j := 0) HS.out hlt rfl).2
      have c3 := (hw.cell (p := ⟨ab, off + k * 4 + 0, none⟩) (pt_cellR HS.out hlt (j := 0) rfl).1).trans c2
      simp only [Nat.add_zero] at c3
      have c4 : wr.cell? ⟨w.heap.size + 1, 0, none⟩ = some (.slice A k q) := hl1.cell 0
      obtain ⟨A', c', w5, hap, ho, hch⟩ := app_two Try.underlying32 sizes_info rfl (by omega) HOR.out HZ.out (.int .i64 (szO τ0 k)) rfl (by omega)
      rw [← rw1_succ (fun i => Value.int .i64 (szO τ0 i))] at ho
      have L5 := hch.block (w.heap.size + 1) (by have := HZ.out; omega) (by omega)
      have hL5 : Blk w5 (w.heap.size + 1) 65 (ldC A k q 0) := L5.trans hl1
      have hL50 : Blk w5 w.heap.size 65 (ldC none 0 0 0) := (hch.block w.heap.size (by have := HZ.out; omega) (by omega)).trans L0.out
      have hw5 : Below w.heap.size w w5 := HW.out.trans (hch.below (B := w.heap.size) (by have := HZ.out; omega) (fun j hj => by omega))
      have hz5 : w.heap.size + 2 ≤ w5.heap.size := Nat.le_trans HZ.out hch.size
      have AP := Lib.hid hap
      have HO := Lib.hid ho
      have H5 := Lib.hid hL5
      have H50 := Lib.hid hL50
      have HW5 := Lib.hid hw5
      have HZ5 := Lib.hid hz5
      have e4 : w5.cell? ⟨w.heap.size + 1, 0, none⟩ = some (.slice A k q) := hL5.cell 0
      have ef := hL5.frozen 0
      have hfin : ∀ W', W' = w5.setCell ⟨w.heap.size + 1, 0, none⟩ (.slice A' (k + 1) c') → Blk W' (w.heap.size + 1) 65 (ldC A' (k + 1) c' 0) ∧ Blk W' w.heap.size 65 (ldC none 0 0 0) ∧ OR W' (w.heap.size + 2) 3 A' (k + 1) c' (rw1 (fun i => .int .i64 (szO τ0 i)) (k + 1)) ∧ Below w.heap.size w W' ∧ w.heap.size + 2 ≤ W'.heap.size := fun W' hW' => by
        subst hW'
        refine ⟨H5.out.set_ 0 _, H50.out.setO (by omega) 0 _, HO.out.kept (row := some (w.heap.size + 1)) (grown_setO _ _ _ _) ?_, HW5.out.setCell (p := ⟨w.heap.size + 1, 0, none⟩) (by simp) _, by simp [World.setCell]; exact HZ5.out⟩
        cases hA' : blk A' with
        | none => exact .inl rfl
        | some x => exact .inr (fun e => by have := (HO.out.blk_lt x hA').1; injection e with e; omega)
      have HFIN := Lib.hid hfin
      clear hl1 hc1 c2 hap ho hch L5 hL5 hL50 hw5 hz5 hfin hw
      cases hbk : kpO τ0 k with
      | true =>
        rw [hbk] at c1
        rw [HKM.out k hlt hbk] at AP
        obtain ⟨mn, hmn⟩ : ∃ x, (P k).mn = x := ⟨_, rfl⟩
        rw [hmn] at AP c3
        clear hbk hmn
        go_wp2_with ((with_reducible refine at_dst 32 ?_); refine lyList_run 32 32 rfl (.tmp 29) (.tmp 31) rfl _ _ _ _ rfl rfl AP.out ?_)
        obtain ⟨q1, q2, q3, q4, q5⟩ := HFIN.out _ rfl
        go_roundw
        case rel => exact ⟨k + 1, A', c', by go_num, by omega, q1, q2, q3, q4, q5⟩
        case measure => simp [intOf]; omega
      | false =>
        rw [hbk] at c1
        rw [HKZ.out k hlt hbk] at AP
        clear hbk c3
        go_wp2_with ((with_reducible refine at_dst 32 ?_); refine lyList_run 32 32 rfl (.tmp 29) (.tmp 31) rfl _ _ _ _ rfl rfl AP.out ?_)
        obtain ⟨q1, q2, q3, q4, q5⟩ := HFIN.out _ rfl
        go_roundw
        case rel => exact ⟨k + 1, A', c', by go_num, by omega, q1, q2, q3, q4, q5⟩
        case measure => simp [intOf]; omega
    · have hki : ¬ (k : Int) < n := by omega
      obtain rfl : k = n := by omega
      have HNE := Lib.hid (rneed_any gap ab off k c P B k d (kpO τ0) wr hn rfl hg0 hg9 HP.out ((HS.out.below hw).more hw.size) ((HB.out.below hw).more hw.size))
      rw [← HNDV.out] at HNE
      have hrv := HR.out
      clear hl1 hw
      go_upto_region 10 with (go_at_call 28; refine HNE.out.mono ?_; rintro e w3 ⟨rfl, hb3⟩; have HB3 := Lib.hid hb3; clear hb3; have M1 := Lib.hid (L1.out.below HB3.out L1.out.lt); have mc : w3.cell? ⟨w.heap.size + 1, 1, none⟩ = some (.int .i64 0) := M1.out.cell 1; have mf := M1.out.frozen 1)
      have w3b := HW.out.trans (HB3.out.mono HW.out.size)
      have hz3 := Nat.le_trans HZ.out HB3.out.size
      have n1 := M1.out.set_ 1 (.int .i64 r)
      have n0 := (L0.out.below HB3.out L0.out.lt).setO (k := w.heap.size + 1) (by omega) 1 (.int .i64 r)
      have nor : OR (w3.setCell ⟨w.heap.size + 1, 1, none⟩ (.int .i64 r)) (w.heap.size + 2) 3 A k q (rw1 (fun i => .int .i64 (szO τ0 i)) k) := (HOR.out.on HB3.out).kept (row := some (w.heap.size + 1)) (grown_setO _ _ _ _) (by
        cases hA' : blk A with
        | none => exact .inl rfl
        | some x => exact .inr (fun e => by have := (HOR.out.blk_lt x hA').1; injection e with e; omega))
      have nb := w3b.setCell (p := ⟨w.heap.size + 1, 1, none⟩) (by simp) (.int .i64 r)
      have hzs : w.heap.size + 2 ≤ (w3.setCell ⟨w.heap.size + 1, 1, none⟩ (.int .i64 r)).heap.size := by simp [World.setCell]; exact hz3
      have N1 : Hid (Blk (w3.setCell ⟨w.heap.size + 1, 1, none⟩ (.int .i64 r)) (w.heap.size + 1) 65 (ldC A k q r)) := n1
      have N0 := Lib.hid n0
      have NOR := Lib.hid nor
      have NB := Lib.hid nb
      have NZ := Lib.hid hzs
      clear n1 n0 nor nb w3b hz3 mc mf M1 L1 L0 HOR HW HZ HB3 hrv hr hki hzs
      generalize w3.setCell ⟨w.heap.size + 1, 1, none⟩ (.int .i64 r) = w4 at *
      go_loopw [12] (fun v12 wr => ∃ (j : Nat) (τ : Sts) (A : Option Addr) (q : Nat), j ≤ r ∧ Hid (growS k j τ = (σF, oF)) ∧ Hid (Inv1 P k τ) ∧ Hid (kpO τ = kpO τ0) ∧ Blk wr (w.heap.size + 1) 65 (ldC A k q j) ∧ Blk wr w.heap.size 65 (ldC none 0 0 0) ∧ OR wr (w.heap.size + 2) 3 A k q (rw1 (fun i => .int .i64 (szO τ i)) k) ∧ Below w.heap.size w wr ∧ w.heap.size + 2 ≤ wr.heap.size) (fun _ wr => (intOf ((wr.cell? ⟨w.heap.size + 1, 1, none⟩).getD undef)).toNat)
      case atStart => exact ⟨r, τ0, A, q, Nat.le_refl _, HG, HI1, rfl, N1.out, N0.out, NOR.out, NB.out, NZ.out⟩
      case round =>
        obtain ⟨j, τ, A, q, hjr, HGJ, HIJ, HKJ, hl1, hl0, hor, hw, hz⟩ := hrel
        have L1 := Lib.hid hl1
        have L0 := Lib.hid hl0
        have HOR := Lib.hid hor
        have HW := Lib.hid hw
        have HZ := Lib.hid hz
        have HNX := Lib.hid (rnext_any ab off k c P B k d A k q τ wr hn rfl rfl HP.out HIJ.out ((HS.out.below hw).more hw.size) (by rw [HKJ.out]; exact (HB.out.below hw).more hw.size) hor.sl)
        have c0 : wr.cell? ⟨w.heap.size + 1, 0, none⟩ = some (.slice A k q) := hl1.cell 0
        have c1 : wr.cell? ⟨w.heap.size + 1, 1, none⟩ = some (.int .i64 j) := hl1.cell 1
        have hme : (intOf ((wr.cell? ⟨w.heap.size + 1, 1, none⟩).getD undef)).toNat = j := by rw [c1]; rfl
        have HME := Lib.hid hme
        clear hl1 hl0 hor hw hz hme N1 N0 NOR NB NZ
        by_cases hlt : 0 < j
        · obtain ⟨i, rfl⟩ : ∃ i, j = i + 1 := ⟨j - 1, by omega⟩
          have hki : ((i + 1 : Nat) : Int) > 0 := by omega
          have hsub : ((i + 1 : Nat) : Int) - 1 = (i : Int) := by omega
          cases hnx : nxt τ k with
          | none =>
            rw [hnx] at HNX
            simp only [oI] at HNX
            have HE : Hid (σF = τ ∧ (oF : Int) = ((i + 1 : Nat) : Int)) := by
              have e := HGJ.out
              rw [growS_none hnx] at e
              injection e with e1 e2
              exact ⟨e1.symm, by rw [← e2]⟩
            clear hnx
            go_upto_region 15 with (go_at_call 43; refine HNX.out.mono ?_; rintro e w5 ⟨rfl, hb5⟩; have HB5 := Lib.hid hb5; clear hb5)
            have K1 := Lib.hid (L1.out.below HB5.out L1.out.lt)
            have K0 := Lib.hid (L0.out.below HB5.out L0.out.lt)
            have KO := Lib.hid (HOR.out.on HB5.out)
            have KB := Lib.hid (HW.out.trans (HB5.out.mono HW.out.size))
            clear c0 c1
            go_wp2_with (first
              | ((with_reducible refine at_dst 62 ?_); refine wpList_load_mid rfl _ _ rfl (w.heap.size + 1) 0 rfl [.slice A k q, .int .i64 (((i + 1 : Nat) : Int))] _ (K1.out.range 0 _ (fun j v hv => by rw [Nat.zero_add]; exact hv)) Try.underlying65 rfl laid_size ?_)
              | ((with_reducible refine at_store 8 ?_); refine wpList_store_blk rfl _ _ _ rfl rfl w.heap.size 0 65 (ldC none 0 0 0) (ldC A k q (((i + 1 : Nat) : Int))) rfl rfl K0.out (by show 0 + 2 ≤ 2; omega) laid_size (ldC_one _ _ _ _) ?_; intro wz hnz hgz))
            have hzz : Blk wz w.heap.size 65 (ldC A k q (((i + 1 : Nat) : Int))) := hnz
            refine bodyPost_ret (v := .agg #[.slice A k q, .int .i64 (((i + 1 : Nat) : Int))]) (lyres_c (cs := ldC A k q (((i + 1 : Nat) : Int))) rfl rfl (hzz.range 0 _ (fun j v hv => by rw [Nat.zero_add]; exact hv)) Try.underlying65 rfl laid_size) rfl ?_
            refine ⟨A, q, ?_, ?_, ?_⟩
            · unfold overR; rw [HG2.out]; rw [HE.out.2]
            · have e2 : (fun i => Value.int .i64 (szR gap room P k i)) = fun i => Value.int .i64 (szO τ i) := by funext i; unfold szR; rw [HG2.out]; dsimp only; rw [HE.out.1]
              rw [e2]
              exact (KO.out.kept hgz (by
                cases hA' : blk A with
                | none => exact .inl rfl
                | some x => exact .inr (fun e => by have := (KO.out.blk_lt x hA').1; injection e with e; omega))).weaken (by omega)
            · exact KB.out.grown hgz KB.out.size (fun j hj => by injection hj with hj; omega)

          | some x =>
            rw [hnx] at HNX
            simp only [oI] at HNX
            obtain ⟨hx1, hx2, hx3⟩ := nxt_mem hnx
            have HE : Hid (growS k i (inc τ x) = (σF, oF)) := by
              have e := HGJ.out
              rw [growS_some hnx] at e
              exact e
            have HI2 : Hid (Inv1 P k (inc τ x)) := HIJ.out.inc hnx
            have HK2 : Hid (kpO (inc τ x) = kpO τ0) := by show _ = _; rw [kpO_inc, HKJ.out]
            have hbd := HIJ.out.bd HP.out hx1 hx2
            have hsz := hbd.b
            have hsz0 := hbd.a
            have hsz1 := hbd.c
            have hx0 : ¬ (x : Int) < 0 := by omega
            have hxk : (x : Int) < k := by omega
            have hINC : ∀ i, szO (inc τ x) i = if i = x then szO τ x + 1 else szO τ i := fun i => by
              rw [szO_inc]
              by_cases h : i = x
              · subst h; simp
              · rw [if_neg h, if_neg h]
            have hset : (rw1 (fun i => Value.int .i64 (szO τ i)) k).set x (.int .i64 (szO τ x + 1)) = rw1 (fun i => .int .i64 (szO (inc τ x) i)) k := by
              rw [rw1_set]
              exact rw1_congr fun i _ => by
                rw [hINC i]
                split <;> rfl
            have HSET := Lib.hid hset
            have hszE : szO τ x = (τ x).sz := rfl
            obtain ⟨g, hAg, hgb, hgl, hgf⟩ := or_head HOR.out h1
            subst hAg
            have HCE : Hid (∀ W, Below wr.heap.size wr W → W.cell? ⟨g, x, none⟩ = some (.int .i64 (szO τ x)) ∧ W.frozen? ⟨g, x, none⟩ = false) := fun W hW => by
              obtain ⟨q', e, _, h2, h3⟩ := (HOR.out.on hW).cell (rw1_get hx1)
              injection e with e
              injection e with e1
              subst e1
              exact ⟨h2, h3⟩
            rw [← hszE] at hsz hsz0
            have hp0 : 0 ≤ szO τ x := by omega
            obtain ⟨sx, hsx⟩ : ∃ s, szO τ x = s := ⟨_, rfl⟩
            rw [hsx] at hsz hsz0 hp0 HSET HCE
            clear hnx hx2 hx3 hset hINC hszE hsx hbd hsz0 hsz1
            go_upto_region 13 with (go_at_call 43; refine HNX.out.mono ?_; rintro e w5 ⟨rfl, hb5⟩; have HB5 := Lib.hid hb5; clear hb5)
            have hcx := HCE.out _ HB5.out
            obtain ⟨cx, fx⟩ := hcx
            have k0 := (L1.out.below HB5.out L1.out.lt).cell 0
            have k1 := L1.out.below HB5.out L1.out.lt
            have HK1 := Lib.hid k1
            have k0' : w5.cell? ⟨w.heap.size + 1, 0, none⟩ = some (.slice (some ⟨g, 0, none⟩) k q) := k1.cell 0
            have HN5 := Lib.hid ((HOR.out.on HB5.out).setAt hx1 (.int .i64 (sx + 1)))
            rw [HSET.out] at HN5
            have m1 := k1.setO (k := g) (by omega) x (.int .i64 (sx + 1))
            have m0 := (L0.out.below HB5.out L0.out.lt).setO (k := g) (by omega) x (.int .i64 (sx + 1))
            have mb := (HW.out.trans (HB5.out.mono HW.out.size)).setCell (p := ⟨g, x, none⟩) (by simp; omega) (.int .i64 (sx + 1))
            have mz : w.heap.size + 2 ≤ (w5.setCell ⟨g, x, none⟩ (.int .i64 (sx + 1))).heap.size := by simp [World.setCell]; exact Nat.le_trans HZ.out HB5.out.size
            have MM1 := Lib.hid m1
            have MM0 := Lib.hid m0
            have MMB := Lib.hid mb
            have MMZ := Lib.hid mz
            clear c0 c1 k0 k1 m1 m0 mb mz HNX HCE
            go_upto_region 14 with (fail)
            clear cx fx k0'
            obtain ⟨W6, hW6⟩ : ∃ W6, W6 = w5.setCell ⟨g, x, none⟩ (.int .i64 (sx + 1)) := ⟨_, rfl⟩
            rw [← hW6] at HN5 MM1 MM0 MMB MMZ ⊢
            clear hW6
            have d1' : W6.cell? ⟨w.heap.size + 1, 1, none⟩ = some (.int .i64 ((i + 1 : Nat) : Int)) := MM1.out.cell 1
            have df := MM1.out.frozen 1
            have hfin : Blk (W6.setCell ⟨w.heap.size + 1, 1, none⟩ (.int .i64 (i : Int))) (w.heap.size + 1) 65 (ldC (some ⟨g, 0, none⟩) k q i) ∧ Blk (W6.setCell ⟨w.heap.size + 1, 1, none⟩ (.int .i64 (i : Int))) w.heap.size 65 (ldC none 0 0 0) ∧ OR (W6.setCell ⟨w.heap.size + 1, 1, none⟩ (.int .i64 (i : Int))) (w.heap.size + 2) 3 (some ⟨g, 0, none⟩) k q (rw1 (fun i => .int .i64 (szO (inc τ x) i)) k) ∧ Below w.heap.size w (W6.setCell ⟨w.heap.size + 1, 1, none⟩ (.int .i64 (i : Int))) ∧ w.heap.size + 2 ≤ (W6.setCell ⟨w.heap.size + 1, 1, none⟩ (.int .i64 (i : Int))).heap.size := by
              refine ⟨MM1.out.set_ 1 _, MM0.out.setO (by omega) 1 _, HN5.out.kept (row := some (w.heap.size + 1)) (grown_setO _ _ _ _) (.inr (fun e => by have e' : some g = some (w.heap.size + 1) := e; injection e' with e'; omega)), MMB.out.setCell (p := ⟨w.heap.size + 1, 1, none⟩) (by simp) _, by simp [World.setCell]; exact MMZ.out⟩
            have HFIN := Lib.hid hfin
            clear hfin
            go_wp2_with (fail)
            obtain ⟨q1, q2, q3, q4, q5⟩ := HFIN.out
            go_roundw
            case rel => exact ⟨i, inc τ x, some ⟨g, 0, none⟩, q, by omega, HE, HI2, HK2, q1, q2, q3, q4, q5⟩
            case measure =>
              have e9 : (W6.setCell ⟨w.heap.size + 1, 1, none⟩ (.int .i64 (i : Int))).cell? ⟨w.heap.size + 1, 1, none⟩ = some (.int .i64 (i : Int)) := q1.cell 1
              rw [e9, HME.out]
              simp [intOf]
        · obtain rfl : j = 0 := by omega
          have hki : ¬ ((0 : Nat) : Int) > 0 := by omega
          have HE : Hid (σF = τ ∧ (oF : Int) = ((0 : Nat) : Int)) := by
            have e := HGJ.out
            simp only [growS] at e
            injection e with e1 e2
            exact ⟨e1.symm, by rw [← e2]⟩
          go_upto_region 15 with (fail)
          clear c0 c1
          go_wp2_with (first
            | ((with_reducible refine at_dst 62 ?_); refine wpList_load_mid rfl _ _ rfl (w.heap.size + 1) 0 rfl [.slice A k q, .int .i64 (((0 : Nat) : Int))] _ (L1.out.range 0 _ (fun j v hv => by rw [Nat.zero_add]; exact hv)) Try.underlying65 rfl laid_size ?_)
            | ((with_reducible refine at_store 8 ?_); refine wpList_store_blk rfl _ _ _ rfl rfl w.heap.size 0 65 (ldC none 0 0 0) (ldC A k q (((0 : Nat) : Int))) rfl rfl L0.out (by show 0 + 2 ≤ 2; omega) laid_size (ldC_one _ _ _ _) ?_; intro wz hnz hgz))
          have hzz : Blk wz w.heap.size 65 (ldC A k q (((0 : Nat) : Int))) := hnz
          refine bodyPost_ret (v := .agg #[.slice A k q, .int .i64 (((0 : Nat) : Int))]) (lyres_c (cs := ldC A k q (((0 : Nat) : Int))) rfl rfl (hzz.range 0 _ (fun j v hv => by rw [Nat.zero_add]; exact hv)) Try.underlying65 rfl laid_size) rfl ?_
          refine ⟨A, q, ?_, ?_, ?_⟩
          · unfold overR; rw [HG2.out]; rw [HE.out.2]
          · have e2 : (fun i => Value.int .i64 (szR gap room P k i)) = fun i => Value.int .i64 (szO τ i) := by funext i; unfold szR; rw [HG2.out]; dsimp only; rw [HE.out.1]
            rw [e2]
            exact (HOR.out.kept hgz (by
              cases hA' : blk A with
              | none => exact .inl rfl
              | some x => exact .inr (fun e => by have := (HOR.out.blk_lt x hA').1; injection e with e; omega))).weaken (by omega)
          · exact HW.out.grown hgz HW.out.size (fun j hj => by injection hj with hj; omega)
end Go.Proofs.Ytdodogehlnchlaa
