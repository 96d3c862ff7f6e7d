/-
  Walks: Older of the document's history.
-/
import Derived.Test.YtfjiogockpmogaaDoorHsRAdd
import Derived.Test.YtfjiogockpmogaaDoorHsFil
import Derived.Test.YtfjiogockpmogaaDoorRegT
import Derived.RegionTactic
import Derived.BigRegion
namespace Go.Proofs.YtfjiogockpmogaaDoor
open Go.RowKit Go.Sort
set_option linter.unusedVariables false
set_option linter.unusedSimpArgs false

theorem mem_drop_take {L : List (List UInt8)} {a j : Nat} {y : Nat × List UInt8} (h : y ∈ ((hats L).drop a).take (j - a)) : a ≤ y.1 ∧ y.1 < j ∧ L[y.1]? = some y.2 := by
  obtain ⟨t, ht⟩ := List.mem_iff_getElem?.1 h
  have h1 := (List.getElem?_eq_some_iff.1 ht).1
  rw [List.length_take] at h1
  rw [List.getElem?_take, if_pos (by omega), List.getElem?_drop] at ht
  obtain ⟨i, l⟩ := y
  obtain ⟨rfl, hl⟩ := hats_at ht
  exact ⟨by simp, by simp only; omega, hl⟩
theorem next_is {d b : List UInt8} {L : List (List UInt8)} {a j : Nat} {x : List UInt8} (ha : a ≤ j) (hno : ∀ m, a ≤ m → m < j → ∀ y, L[m]? = some y → hasW d b y = false) (hx : L[j]? = some x) (hp : hasW d b x = true) : nextW d b L a = some (j, x) := by
  have hj : j < L.length := (List.getElem?_eq_some_iff.1 hx).1
  have hjx : L[j] = x := (List.getElem?_eq_some_iff.1 hx).2
  refine find_here (pre := ((hats L).drop a).take (j - a)) (x := (j, x)) (fun y hy => ?_) hp ?_
  · have := mem_drop_take hy
    exact hno y.1 this.1 this.2.1 y.2 this.2.2
  · have h1 : ((hats L).drop a)[j - a]? = some (j, x) := by rw [List.getElem?_drop, show a + (j - a) = j by omega, hats_get hj, hjx]
    have h2 : ((hats L).drop a).take (j - a + 1) = ((hats L).drop a).take (j - a) ++ [(j, x)] := by rw [List.take_add_one, h1]; rfl
    rw [← h2]
    exact List.take_prefix _ _
theorem next_no {d b : List UInt8} {L : List (List UInt8)} {a : Nat} (hno : ∀ m, a ≤ m → ∀ y, L[m]? = some y → hasW d b y = false) : nextW d b L a = none := by
  refine find_nowhere (fun y hy => ?_)
  have h2 : y ∈ ((hats L).drop a).take (L.length - a) := by rw [List.take_of_length_le (by rw [List.length_drop, hats_length]; omega)]; exact hy
  have := mem_drop_take h2
  exact hno y.1 this.1 y.2 this.2.2

theorem rof14_below (l d b : List UInt8) (hl : l.length ≤ 2000000) (hb : b.length ≤ 2000000) (w : World) :
    Calls Tryd.prog 52 #[.string ⟨l.toArray⟩, .string ⟨d.toArray⟩, .string ⟨b.toArray⟩] w fun e w' => e = .returned (.bool (hasW d b l)) ∧ Below w.heap.size w w' :=
  (rof14_any l d b hl hb w).mono (by rintro e w' ⟨rfl, rfl⟩; exact ⟨rfl, Below.refl _ _⟩)
/-- what the document's Older hands back -/
def ROldP (w : World) (most : Nat) (L : List (List UInt8)) (A : Option Addr) (n c : Nat) (K : Option HW) (d b : List UInt8) (a : Nat) (e : Ending) (w' : World) : Prop :=
  (nextW d b L a = none ∧ e = .returned (.tuple #[.agg (rvC most A n c K).toArray, .string ⟨#[]⟩, .bool false]) ∧ Below w.heap.size w w') ∨
  (∃ i l, nextW d b L a = some (i, l) ∧ e = .returned (.tuple #[.agg (rvC most A n c (some ⟨d, b, i, 0, 0⟩)).toArray, .string ⟨l.toArray⟩, .bool true]) ∧ Below w.heap.size w w')

set_option maxRecDepth 100000 in
set_option maxHeartbeats 8000000 in
theorem rolder_any (most : Nat) (L : List (List UInt8)) (hok : ∀ l ∈ L, l.length ≤ 3000) (A : Option Addr) (n c : Nat) (K : Option HW) (d b : List UInt8) (hd : d.length ≤ 1000000) (hb : b.length ≤ 1000000) (w : World) (hn : n = L.length) (hl4 : n ≤ 256) (hS : Sl w w.heap.size A (sv L)) (hK : ∀ k, K = some k → k.i < L.length ∧ k.d.length ≤ 1000000 ∧ k.b.length ≤ 1000000) :
    Calls Tryd.prog 27 #[.agg (rvC most A n c K).toArray, .string ⟨d.toArray⟩, .string ⟨b.toArray⟩] w (ROldP w most L A n c K (walkOf K d b).1 (walkOf K d b).2.1 (walkOf K d b).2.2) := by
  have HS := Lib.hid hS
  have HN := Lib.hid hn
  have HOK := Lib.hid hok
  have HSLT : Hid (∀ bb off, A = some ⟨bb, off, none⟩ → L ≠ [] → bb < w.heap.size) := Lib.hid (fun bb off e hne => by
    obtain ⟨b2, o2, h1, h2, _⟩ := hS.open_ (by rw [sv_length]; exact List.length_pos_iff.2 hne)
    rw [e] at h1; injection h1 with h1; injection h1 with h1 _ _; omega)
  rcases K with _ | ⟨kd, kb, ki, kx, ky⟩
  · simp only [walkOf, rvC, rwC]
    have x0 := ((Blk.new w 29 [.int .i64 most, .slice A n c, .bool false, .string ⟨#[]⟩, .string ⟨#[]⟩, .int .i64 0]).alloc (.cells #[.int .i64 0, .slice none 0 0, .bool false, .string ⟨#[]⟩, .string ⟨#[]⟩, .int .i64 0] 29)).alloc (.cells #[.int .i64 most, .slice A n c, .bool true, .string ⟨d.toArray⟩, .string ⟨b.toArray⟩, .int .i64 (-1)] 29)
    have x1 := (Blk.new (w.alloc (.cells #[.int .i64 most, .slice A n c, .bool false, .string ⟨#[]⟩, .string ⟨#[]⟩, .int .i64 0] 29)) 29 [.int .i64 0, .slice none 0 0, .bool false, .string ⟨#[]⟩, .string ⟨#[]⟩, .int .i64 0]).alloc (.cells #[.int .i64 most, .slice A n c, .bool true, .string ⟨d.toArray⟩, .string ⟨b.toArray⟩, .int .i64 (-1)] 29)
    have x2 := Blk.new ((w.alloc (.cells #[.int .i64 most, .slice A n c, .bool false, .string ⟨#[]⟩, .string ⟨#[]⟩, .int .i64 0] 29)).alloc (.cells #[.int .i64 0, .slice none 0 0, .bool false, .string ⟨#[]⟩, .string ⟨#[]⟩, .int .i64 0] 29)) 29 [.int .i64 most, .slice A n c, .bool true, .string ⟨d.toArray⟩, .string ⟨b.toArray⟩, .int .i64 (-1)]
    simp only [World.size_alloc] at x1 x2
    have hb0 : Below w.heap.size w (((w.alloc (.cells #[.int .i64 most, .slice A n c, .bool false, .string ⟨#[]⟩, .string ⟨#[]⟩, .int .i64 0] 29)).alloc (.cells #[.int .i64 0, .slice none 0 0, .bool false, .string ⟨#[]⟩, .string ⟨#[]⟩, .int .i64 0] 29)).alloc (.cells #[.int .i64 most, .slice A n c, .bool true, .string ⟨d.toArray⟩, .string ⟨b.toArray⟩, .int .i64 (-1)] 29)) := (((Below.refl _ w).alloc (Nat.le_refl _) _).alloc (by simp) _).alloc (by simp; omega) _
    have hsz : (((w.alloc (.cells #[.int .i64 most, .slice A n c, .bool false, .string ⟨#[]⟩, .string ⟨#[]⟩, .int .i64 0] 29)).alloc (.cells #[.int .i64 0, .slice none 0 0, .bool false, .string ⟨#[]⟩, .string ⟨#[]⟩, .int .i64 0] 29)).alloc (.cells #[.int .i64 most, .slice A n c, .bool true, .string ⟨d.toArray⟩, .string ⟨b.toArray⟩, .int .i64 (-1)] 29)).heap.size = w.heap.size + 3 := by simp
    have hD : d.length ≤ 1000000 := hd
    have hB : b.length ≤ 1000000 := hb
    have HX0 := Lib.hid x0
    have HX1 := Lib.hid x1
    have HX2 := Lib.hid x2
    have HB0 := Lib.hid hb0
    have HSZ := Lib.hid hsz
    clear x0 x1 x2 hb0 hsz hn hS hok
    go_enter Tryd.func27, Tryd.ntmps27
    go_wp2_with (fail)
    generalize ((w.alloc (.cells #[.int .i64 most, .slice A n c, .bool false, .string ⟨#[]⟩, .string ⟨#[]⟩, .int .i64 0] 29)).alloc (.cells #[.int .i64 0, .slice none 0 0, .bool false, .string ⟨#[]⟩, .string ⟨#[]⟩, .int .i64 0] 29)).alloc (.cells #[.int .i64 most, .slice A n c, .bool true, .string ⟨d.toArray⟩, .string ⟨b.toArray⟩, .int .i64 (-1)] 29) = w1 at *
    go_loopw [10] (fun u wr => ∃ j : Nat, u = .int .i64 (j : Nat) ∧ 0 ≤ j ∧ j ≤ n ∧ (∀ m, 0 ≤ m → m < j → ∀ y, L[m]? = some y → hasW d b y = false) ∧ Below w1.heap.size w1 wr) (fun u _ => n - (intOf u).toNat)
    case atStart => exact ⟨0, rfl, Nat.le_refl _, by omega, fun m h1 h2 => by omega, Below.refl _ _⟩
    case round =>
      obtain ⟨j, rfl, haj, hjn, hno, hbr⟩ := hrel
      have HNO := Lib.hid hno
      have HBr := Lib.hid hbr
      have y2 := Blk.below HX2.out hbr (Blk.lt HX2.out)
      have d1 : wr.cell? ⟨w.heap.size + 1 + 1, 1, none⟩ = some (.slice A n c) := y2.cell 1
      have d3 : wr.cell? ⟨w.heap.size + 1 + 1, 3, none⟩ = some (.string ⟨d.toArray⟩) := y2.cell 3
      have d4 : wr.cell? ⟨w.heap.size + 1 + 1, 4, none⟩ = some (.string ⟨b.toArray⟩) := y2.cell 4
      clear hno hbr
      by_cases hlt : j < n
      · have hji : (j : Int) < n := by omega
        have hjl : j < L.length := by have := HN.out; omega
        obtain ⟨bb, off, hA, hbb, hcell0⟩ := hs_at ((HS.out.below HB0.out).more HB0.out.size) (List.getElem?_eq_getElem hjl)
        subst hA
        have hcell : wr.cell? ⟨bb, off + j, none⟩ = some (.string ⟨(L[j]).toArray⟩) := (HBr.out.cell (p := ⟨bb, off + j, none⟩) hbb).trans hcell0
        have hget := List.getElem?_eq_getElem hjl
        have hx3 : (L[j]).length ≤ 3000 := HOK.out _ (List.getElem_mem hjl)
        generalize L[j] = x at hcell hget hx3
        have HG := Lib.hid hget
        clear hcell0 hget
        have Q1 := Lib.hid (fun dd os => Calls.regrown_of (rof14_below x d b (by omega) (by omega) (grow (redrawn wr dd) os)))
        have r1 := cell_regrown d1
        have r3 := cell_regrown d3
        have r4 := cell_regrown d4
        have rc := cell_regrown hcell
        cases hv : hasW d b x with
        | true =>
          rw [hv] at Q1
          have HV := Lib.hid hv
          clear hv y2
          go_wp2_with (fail)
          clear d1 d3 d4 hcell
          refine region_below0 (by kernel_rfl) (by kernel_rfl) ?_
          repeat (first
            | go_big_quiet_step (exact Q1.out _ _)
            | quiet_step (exact Q1.out _ _))
          refine wpQuiet_nil ?_
          intro _ hw'
          obtain ⟨⟨dq, osq⟩, hw''⟩ := hw'
          subst hw''
          have HBQ := Lib.hid (HBr.out.trans ((below_regrown wr dq osq).mono HBr.out.size))
          have e4 : (grow (redrawn wr dq) osq).cell? ⟨bb, off + j, none⟩ = _ := rc _ _
          clear Q1 r1 r3 r4 rc
          generalize grow (redrawn wr dq) osq = w2 at *
          have y2 := Blk.below HX2.out HBQ.out (Blk.lt HX2.out)
          have y1 := Blk.below HX1.out HBQ.out (Blk.lt HX1.out)
          have f5 := y2.frozen 5
          have e5 := y2.cell 5
          have y25 := y2.set_ 5 (.int .i64 j)
          have y15 := y1.chg (chg_of_grown (grown_setO w2 (w.heap.size + 1 + 1) 5 (.int .i64 j))) (by unfold one; omega)
          have hbb2 : bb < w.heap.size + 1 + 1 := by have := HSLT.out bb off rfl (by intro e; rw [e] at hjl; simp at hjl); omega
          have hbb3 : bb < w.heap.size + 1 := by have := HSLT.out bb off rfl (by intro e; rw [e] at hjl; simp at hjl); omega
          have HY25 := Lib.hid y25
          have HY15 := Lib.hid y15
          have HB2 : Hid (Below w.heap.size w w2) := Lib.hid (HB0.out.trans (HBQ.out.mono HB0.out.size))
          clear y2 y1 y25 y15
          have hcb : (w2.setCell ⟨w.heap.size + 1 + 1, 5, none⟩ (.int .i64 j)).cell? ⟨bb, off + j, none⟩ = some (.string ⟨x.toArray⟩) := by
            rw [World.cell?_setCell_other _ _ _ _ (by first | (simp; omega) | simp | omega)]; exact e4
          have hsz3 : (w2.setCell ⟨w.heap.size + 1 + 1, 5, none⟩ (.int .i64 j)).heap.size = w2.heap.size := by simp
          have hb3 : Below w.heap.size w (w2.setCell ⟨w.heap.size + 1 + 1, 5, none⟩ (.int .i64 j)) := HB2.out.setCell (p := ⟨w.heap.size + 1 + 1, 5, none⟩) (by simp; omega) _
          clear e4
          go_wp2_with (fail)
          generalize w2.setCell ⟨w.heap.size + 1 + 1, 5, none⟩ (.int .i64 j) = w3 at *
          have HB3 := Lib.hid hb3
          have q0 : w3.cell? ⟨w.heap.size + 1 + 1, 0, none⟩ = some (.int .i64 most) := Blk.cell HY25.out 0
          have q1 : w3.cell? ⟨w.heap.size + 1 + 1, 1, none⟩ = some (.slice (some ⟨bb, off, none⟩) n c) := Blk.cell HY25.out 1
          have q2 : w3.cell? ⟨w.heap.size + 1 + 1, 2, none⟩ = some (.bool true) := Blk.cell HY25.out 2
          have q3 : w3.cell? ⟨w.heap.size + 1 + 1, 3, none⟩ = some (.string ⟨d.toArray⟩) := Blk.cell HY25.out 3
          have q4 : w3.cell? ⟨w.heap.size + 1 + 1, 4, none⟩ = some (.string ⟨b.toArray⟩) := Blk.cell HY25.out 4
          have q5 : w3.cell? ⟨w.heap.size + 1 + 1, 5, none⟩ = some (.int .i64 j) := Blk.cell HY25.out 5
          have p0 : w3.cell? ⟨w.heap.size + 1, 0, none⟩ = some (.int .i64 0) := Blk.cell HY15.out 0
          have p1 : w3.cell? ⟨w.heap.size + 1, 1, none⟩ = some (.slice none 0 0) := Blk.cell HY15.out 1
          have p2 : w3.cell? ⟨w.heap.size + 1, 2, none⟩ = some (.bool false) := Blk.cell HY15.out 2
          have p3 : w3.cell? ⟨w.heap.size + 1, 3, none⟩ = some (.string ⟨#[]⟩) := Blk.cell HY15.out 3
          have p4 : w3.cell? ⟨w.heap.size + 1, 4, none⟩ = some (.string ⟨#[]⟩) := Blk.cell HY15.out 4
          have p5 : w3.cell? ⟨w.heap.size + 1, 5, none⟩ = some (.int .i64 0) := Blk.cell HY15.out 5
          have t0 : w3.frozen? ⟨w.heap.size + 1, 0, none⟩ = false := Blk.frozen HY15.out 0
          have t1 : w3.frozen? ⟨w.heap.size + 1, 1, none⟩ = false := Blk.frozen HY15.out 1
          have t2 : w3.frozen? ⟨w.heap.size + 1, 2, none⟩ = false := Blk.frozen HY15.out 2
          have t3 : w3.frozen? ⟨w.heap.size + 1, 3, none⟩ = false := Blk.frozen HY15.out 3
          have t4 : w3.frozen? ⟨w.heap.size + 1, 4, none⟩ = false := Blk.frozen HY15.out 4
          have t5 : w3.frozen? ⟨w.heap.size + 1, 5, none⟩ = false := Blk.frozen HY15.out 5
          clear e5 f5 hsz3 hb3
          go_region
          have hz9 := (((((HY15.out.set_ 0 (.int .i64 most)).set_ 1 (.slice (some ⟨bb, off, none⟩) n c)).set_ 2 (.bool true)).set_ 3 (.string ⟨d.toArray⟩)).set_ 4 (.string ⟨b.toArray⟩)).set_ 5 (.int .i64 j)
          have hc9 : Chg (one (w.heap.size + 1)) w3 ((((((w3.setCell ⟨w.heap.size + 1, 0, none⟩ (.int .i64 most)).setCell ⟨w.heap.size + 1, 1, none⟩ (.slice (some ⟨bb, off, none⟩) n c)).setCell ⟨w.heap.size + 1, 2, none⟩ (.bool true)).setCell ⟨w.heap.size + 1, 3, none⟩ (.string ⟨d.toArray⟩)).setCell ⟨w.heap.size + 1, 4, none⟩ (.string ⟨b.toArray⟩)).setCell ⟨w.heap.size + 1, 5, none⟩ (.int .i64 j)) :=
            ((((((Chg.refl (one (w.heap.size + 1)) w3).setCell (p := ⟨w.heap.size + 1, 0, none⟩) (.inl rfl) _).setCell (p := ⟨w.heap.size + 1, 1, none⟩) (.inl rfl) _).setCell (p := ⟨w.heap.size + 1, 2, none⟩) (.inl rfl) _).setCell (p := ⟨w.heap.size + 1, 3, none⟩) (.inl rfl) _).setCell (p := ⟨w.heap.size + 1, 4, none⟩) (.inl rfl) _).setCell (p := ⟨w.heap.size + 1, 5, none⟩) (.inl rfl) _
          generalize (((((w3.setCell ⟨w.heap.size + 1, 0, none⟩ (.int .i64 most)).setCell ⟨w.heap.size + 1, 1, none⟩ (.slice (some ⟨bb, off, none⟩) n c)).setCell ⟨w.heap.size + 1, 2, none⟩ (.bool true)).setCell ⟨w.heap.size + 1, 3, none⟩ (.string ⟨d.toArray⟩)).setCell ⟨w.heap.size + 1, 4, none⟩ (.string ⟨b.toArray⟩)).setCell ⟨w.heap.size + 1, 5, none⟩ (.int .i64 j) = w9 at *
          have hn7 : Blk w9.drew (w.heap.size + 1) 29 (rvC most (some ⟨bb, off, none⟩) n c (some ⟨d, b, j, 0, 0⟩)) := hz9
          have HN7 := Lib.hid hn7
          have HC9 := Lib.hid hc9
          clear hz9 hc9 hn7 q0 q1 q2 q3 q4 q5 p0 p1 p2 p3 p4 p5 t0 t1 t2 t3 t4 t5 hcb
          go_wp2_with (fail)
          refine bodyPost_ret (v := .tuple #[.agg (rvC most (some ⟨bb, off, none⟩) n c (some ⟨d, b, j, 0, 0⟩)).toArray, .string ⟨x.toArray⟩, .bool true]) (hsres_ctt rfl rfl rfl rfl (HN7.out.range 0 _ (fun j v hv => by simpa using hv)) Tryd.underlying29 rfl rh_size) rfl ?_
          exact .inr ⟨j, x, next_is haj HNO.out HG.out HV.out, rfl, HB3.out.trans ((HC9.out.drew).below HB3.out.size (fun j hj => by unfold one at hj; omega))⟩
        | false =>
          rw [hv] at Q1
          have HV := Lib.hid hv
          clear hv y2
          go_wp2_with (fail)
          clear d1 d3 d4 hcell
          refine region_below0 (by kernel_rfl) (by kernel_rfl) ?_
          repeat (first
            | go_big_quiet_step (exact Q1.out _ _)
            | quiet_step (exact Q1.out _ _))
          refine wpQuiet_nil ?_
          intro _ hw'
          obtain ⟨⟨dq, osq⟩, hw''⟩ := hw'
          subst hw''
          have HBQ := Lib.hid (HBr.out.trans ((below_regrown wr dq osq).mono HBr.out.size))
          clear Q1 r1 r3 r4 rc
          generalize grow (redrawn wr dq) osq = w2 at *
          go_wp2_with (fail)
          go_roundw
          case rel => exact ⟨j + 1, by go_num, by omega, by omega, fun m h1 h2 y hy => by
            rcases Nat.lt_succ_iff_lt_or_eq.1 h2 with h | h
            · exact HNO.out m h1 h y hy
            · subst h; rw [HG.out] at hy; injection hy with hy; rw [← hy]; exact HV.out, HBQ.out⟩
          case measure => simp [intOf]; omega
      · have hji : ¬ (j : Int) < n := by omega
        obtain rfl : j = n := by omega
        have y0 := Blk.below HX0.out HBr.out (Blk.lt HX0.out)
        have HZ1 := Lib.hid (Blk.below HX1.out HBr.out (Blk.lt HX1.out))
        have g0 : wr.cell? ⟨w.heap.size, 0, none⟩ = some (.int .i64 most) := y0.cell 0
        have g1 : wr.cell? ⟨w.heap.size, 1, none⟩ = some (.slice A j c) := y0.cell 1
        have g2 := y0.cell 2
        have g3 := y0.cell 3
        have g4 := y0.cell 4
        have g5 := y0.cell 5
        simp only [List.getElem?_cons_succ, List.getElem?_cons_zero] at g2 g3 g4 g5
        have HB9 : Hid (Below w.heap.size w wr) := Lib.hid (HB0.out.trans (HBr.out.mono HB0.out.size))
        clear y0 y2 d3 d4
        go_wp2_with ((with_reducible refine at_store 6 ?_); refine wpList_store_blk rfl _ _ _ rfl rfl (w.heap.size + 1) 0 _ [.int .i64 0, .slice none 0 0, .bool false, .string ⟨#[]⟩, .string ⟨#[]⟩, .int .i64 0] (rvC most A j c none) rfl rfl HZ1.out (by simp [rvC, rwC]) rh_size (rvC_one _ _ _ _ _) ?_; intro w6 hn6 hg6)
        have hc6 := chg_of_grown hg6
        have hn7 : Blk w6 (w.heap.size + 1) 29 (rvC most A j c none) := hn6
        refine bodyPost_ret (v := .tuple #[.agg (rvC most A j c none).toArray, .string ⟨#[]⟩, .bool false]) (hsres_ctt rfl rfl rfl rfl (hn7.range 0 _ (fun j v hv => by simpa using hv)) Tryd.underlying29 rfl rh_size) rfl ?_
        exact .inl ⟨next_no (fun m h1 y hy => HNO.out m h1 (by have := (List.getElem?_eq_some_iff.1 hy).1; have := HN.out; omega) y hy), rfl, HB9.out.trans (hc6.below HB9.out.size (fun j hj => by unfold one at hj; omega))⟩
  · simp only [walkOf, rvC, rwC]
    have x0 := ((Blk.new w 29 [.int .i64 most, .slice A n c, .bool true, .string ⟨kd.toArray⟩, .string ⟨kb.toArray⟩, .int .i64 ki]).alloc (.cells #[.int .i64 0, .slice none 0 0, .bool false, .string ⟨#[]⟩, .string ⟨#[]⟩, .int .i64 0] 29)).alloc (.cells #[.int .i64 most, .slice A n c, .bool true, .string ⟨kd.toArray⟩, .string ⟨kb.toArray⟩, .int .i64 ki] 29)
    have x1 := (Blk.new (w.alloc (.cells #[.int .i64 most, .slice A n c, .bool true, .string ⟨kd.toArray⟩, .string ⟨kb.toArray⟩, .int .i64 ki] 29)) 29 [.int .i64 0, .slice none 0 0, .bool false, .string ⟨#[]⟩, .string ⟨#[]⟩, .int .i64 0]).alloc (.cells #[.int .i64 most, .slice A n c, .bool true, .string ⟨kd.toArray⟩, .string ⟨kb.toArray⟩, .int .i64 ki] 29)
    have x2 := Blk.new ((w.alloc (.cells #[.int .i64 most, .slice A n c, .bool true, .string ⟨kd.toArray⟩, .string ⟨kb.toArray⟩, .int .i64 ki] 29)).alloc (.cells #[.int .i64 0, .slice none 0 0, .bool false, .string ⟨#[]⟩, .string ⟨#[]⟩, .int .i64 0] 29)) 29 [.int .i64 most, .slice A n c, .bool true, .string ⟨kd.toArray⟩, .string ⟨kb.toArray⟩, .int .i64 ki]
    simp only [World.size_alloc] at x1 x2
    have hb0 : Below w.heap.size w (((w.alloc (.cells #[.int .i64 most, .slice A n c, .bool true, .string ⟨kd.toArray⟩, .string ⟨kb.toArray⟩, .int .i64 ki] 29)).alloc (.cells #[.int .i64 0, .slice none 0 0, .bool false, .string ⟨#[]⟩, .string ⟨#[]⟩, .int .i64 0] 29)).alloc (.cells #[.int .i64 most, .slice A n c, .bool true, .string ⟨kd.toArray⟩, .string ⟨kb.toArray⟩, .int .i64 ki] 29)) := (((Below.refl _ w).alloc (Nat.le_refl _) _).alloc (by simp) _).alloc (by simp; omega) _
    have hsz : (((w.alloc (.cells #[.int .i64 most, .slice A n c, .bool true, .string ⟨kd.toArray⟩, .string ⟨kb.toArray⟩, .int .i64 ki] 29)).alloc (.cells #[.int .i64 0, .slice none 0 0, .bool false, .string ⟨#[]⟩, .string ⟨#[]⟩, .int .i64 0] 29)).alloc (.cells #[.int .i64 most, .slice A n c, .bool true, .string ⟨kd.toArray⟩, .string ⟨kb.toArray⟩, .int .i64 ki] 29)).heap.size = w.heap.size + 3 := by simp
    have hD : kd.length ≤ 1000000 := (hK _ rfl).2.1
    have hB : kb.length ≤ 1000000 := (hK _ rfl).2.2
    have hkiL : ki < n := by rw [hn]; exact (hK _ rfl).1
    have hki4 : (ki : Int) < 256 := by omega
    have HX0 := Lib.hid x0
    have HX1 := Lib.hid x1
    have HX2 := Lib.hid x2
    have HB0 := Lib.hid hb0
    have HSZ := Lib.hid hsz
    clear x0 x1 x2 hb0 hsz hn hS hok
    go_enter Tryd.func27, Tryd.ntmps27
    go_wp2_with (fail)
    generalize ((w.alloc (.cells #[.int .i64 most, .slice A n c, .bool true, .string ⟨kd.toArray⟩, .string ⟨kb.toArray⟩, .int .i64 ki] 29)).alloc (.cells #[.int .i64 0, .slice none 0 0, .bool false, .string ⟨#[]⟩, .string ⟨#[]⟩, .int .i64 0] 29)).alloc (.cells #[.int .i64 most, .slice A n c, .bool true, .string ⟨kd.toArray⟩, .string ⟨kb.toArray⟩, .int .i64 ki] 29) = w1 at *
    go_loopw [10] (fun u wr => ∃ j : Nat, u = .int .i64 (j : Nat) ∧ (ki + 1) ≤ j ∧ j ≤ n ∧ (∀ m, (ki + 1) ≤ m → m < j → ∀ y, L[m]? = some y → hasW kd kb y = false) ∧ Below w1.heap.size w1 wr) (fun u _ => n - (intOf u).toNat)
    case atStart => exact ⟨(ki + 1), by go_num, Nat.le_refl _, by omega, fun m h1 h2 => by omega, Below.refl _ _⟩
    case round =>
      obtain ⟨j, rfl, haj, hjn, hno, hbr⟩ := hrel
      have HNO := Lib.hid hno
      have HBr := Lib.hid hbr
      have y2 := Blk.below HX2.out hbr (Blk.lt HX2.out)
      have d1 : wr.cell? ⟨w.heap.size + 1 + 1, 1, none⟩ = some (.slice A n c) := y2.cell 1
      have d3 : wr.cell? ⟨w.heap.size + 1 + 1, 3, none⟩ = some (.string ⟨kd.toArray⟩) := y2.cell 3
      have d4 : wr.cell? ⟨w.heap.size + 1 + 1, 4, none⟩ = some (.string ⟨kb.toArray⟩) := y2.cell 4
      clear hno hbr
      by_cases hlt : j < n
      · have hji : (j : Int) < n := by omega
        have hjl : j < L.length := by have := HN.out; omega
        obtain ⟨bb, off, hA, hbb, hcell0⟩ := hs_at ((HS.out.below HB0.out).more HB0.out.size) (List.getElem?_eq_getElem hjl)
        subst hA
        have hcell : wr.cell? ⟨bb, off + j, none⟩ = some (.string ⟨(L[j]).toArray⟩) := (HBr.out.cell (p := ⟨bb, off + j, none⟩) hbb).trans hcell0
        have hget := List.getElem?_eq_getElem hjl
        have hx3 : (L[j]).length ≤ 3000 := HOK.out _ (List.getElem_mem hjl)
        generalize L[j] = x at hcell hget hx3
        have HG := Lib.hid hget
        clear hcell0 hget
        have Q1 := Lib.hid (fun dd os => Calls.regrown_of (rof14_below x kd kb (by omega) (by omega) (grow (redrawn wr dd) os)))
        have r1 := cell_regrown d1
        have r3 := cell_regrown d3
        have r4 := cell_regrown d4
        have rc := cell_regrown hcell
        cases hv : hasW kd kb x with
        | true =>
          rw [hv] at Q1
          have HV := Lib.hid hv
          clear hv y2
          go_wp2_with (fail)
          clear d1 d3 d4 hcell
          refine region_below0 (by kernel_rfl) (by kernel_rfl) ?_
          repeat (first
            | go_big_quiet_step (exact Q1.out _ _)
            | quiet_step (exact Q1.out _ _))
          refine wpQuiet_nil ?_
          intro _ hw'
          obtain ⟨⟨dq, osq⟩, hw''⟩ := hw'
          subst hw''
          have HBQ := Lib.hid (HBr.out.trans ((below_regrown wr dq osq).mono HBr.out.size))
          have e4 : (grow (redrawn wr dq) osq).cell? ⟨bb, off + j, none⟩ = _ := rc _ _
          clear Q1 r1 r3 r4 rc
          generalize grow (redrawn wr dq) osq = w2 at *
          have y2 := Blk.below HX2.out HBQ.out (Blk.lt HX2.out)
          have y1 := Blk.below HX1.out HBQ.out (Blk.lt HX1.out)
          have f5 := y2.frozen 5
          have e5 := y2.cell 5
          have y25 := y2.set_ 5 (.int .i64 j)
          have y15 := y1.chg (chg_of_grown (grown_setO w2 (w.heap.size + 1 + 1) 5 (.int .i64 j))) (by unfold one; omega)
          have hbb2 : bb < w.heap.size + 1 + 1 := by have := HSLT.out bb off rfl (by intro e; rw [e] at hjl; simp at hjl); omega
          have hbb3 : bb < w.heap.size + 1 := by have := HSLT.out bb off rfl (by intro e; rw [e] at hjl; simp at hjl); omega
          have HY25 := Lib.hid y25
          have HY15 := Lib.hid y15
          have HB2 : Hid (Below w.heap.size w w2) := Lib.hid (HB0.out.trans (HBQ.out.mono HB0.out.size))
          clear y2 y1 y25 y15
          have hcb : (w2.setCell ⟨w.heap.size + 1 + 1, 5, none⟩ (.int .i64 j)).cell? ⟨bb, off + j, none⟩ = some (.string ⟨x.toArray⟩) := by
            rw [World.cell?_setCell_other _ _ _ _ (by first | (simp; omega) | simp | omega)]; exact e4
          have hsz3 : (w2.setCell ⟨w.heap.size + 1 + 1, 5, none⟩ (.int .i64 j)).heap.size = w2.heap.size := by simp
          have hb3 : Below w.heap.size w (w2.setCell ⟨w.heap.size + 1 + 1, 5, none⟩ (.int .i64 j)) := HB2.out.setCell (p := ⟨w.heap.size + 1 + 1, 5, none⟩) (by simp; omega) _
          clear e4
          go_wp2_with (fail)
          generalize w2.setCell ⟨w.heap.size + 1 + 1, 5, none⟩ (.int .i64 j) = w3 at *
          have HB3 := Lib.hid hb3
          have q0 : w3.cell? ⟨w.heap.size + 1 + 1, 0, none⟩ = some (.int .i64 most) := Blk.cell HY25.out 0
          have q1 : w3.cell? ⟨w.heap.size + 1 + 1, 1, none⟩ = some (.slice (some ⟨bb, off, none⟩) n c) := Blk.cell HY25.out 1
          have q2 : w3.cell? ⟨w.heap.size + 1 + 1, 2, none⟩ = some (.bool true) := Blk.cell HY25.out 2
          have q3 : w3.cell? ⟨w.heap.size + 1 + 1, 3, none⟩ = some (.string ⟨kd.toArray⟩) := Blk.cell HY25.out 3
          have q4 : w3.cell? ⟨w.heap.size + 1 + 1, 4, none⟩ = some (.string ⟨kb.toArray⟩) := Blk.cell HY25.out 4
          have q5 : w3.cell? ⟨w.heap.size + 1 + 1, 5, none⟩ = some (.int .i64 j) := Blk.cell HY25.out 5
          have p0 : w3.cell? ⟨w.heap.size + 1, 0, none⟩ = some (.int .i64 0) := Blk.cell HY15.out 0
          have p1 : w3.cell? ⟨w.heap.size + 1, 1, none⟩ = some (.slice none 0 0) := Blk.cell HY15.out 1
          have p2 : w3.cell? ⟨w.heap.size + 1, 2, none⟩ = some (.bool false) := Blk.cell HY15.out 2
          have p3 : w3.cell? ⟨w.heap.size + 1, 3, none⟩ = some (.string ⟨#[]⟩) := Blk.cell HY15.out 3
          have p4 : w3.cell? ⟨w.heap.size + 1, 4, none⟩ = some (.string ⟨#[]⟩) := Blk.cell HY15.out 4
          have p5 : w3.cell? ⟨w.heap.size + 1, 5, none⟩ = some (.int .i64 0) := Blk.cell HY15.out 5
          have t0 : w3.frozen? ⟨w.heap.size + 1, 0, none⟩ = false := Blk.frozen HY15.out 0
          have t1 : w3.frozen? ⟨w.heap.size + 1, 1, none⟩ = false := Blk.frozen HY15.out 1
          have t2 : w3.frozen? ⟨w.heap.size + 1, 2, none⟩ = false := Blk.frozen HY15.out 2
          have t3 : w3.frozen? ⟨w.heap.size + 1, 3, none⟩ = false := Blk.frozen HY15.out 3
          have t4 : w3.frozen? ⟨w.heap.size + 1, 4, none⟩ = false := Blk.frozen HY15.out 4
          have t5 : w3.frozen? ⟨w.heap.size + 1, 5, none⟩ = false := Blk.frozen HY15.out 5
          clear e5 f5 hsz3 hb3
          go_region
          have hz9 := (((((HY15.out.set_ 0 (.int .i64 most)).set_ 1 (.slice (some ⟨bb, off, none⟩) n c)).set_ 2 (.bool true)).set_ 3 (.string ⟨kd.toArray⟩)).set_ 4 (.string ⟨kb.toArray⟩)).set_ 5 (.int .i64 j)
          have hc9 : Chg (one (w.heap.size + 1)) w3 ((((((w3.setCell ⟨w.heap.size + 1, 0, none⟩ (.int .i64 most)).setCell ⟨w.heap.size + 1, 1, none⟩ (.slice (some ⟨bb, off, none⟩) n c)).setCell ⟨w.heap.size + 1, 2, none⟩ (.bool true)).setCell ⟨w.heap.size + 1, 3, none⟩ (.string ⟨kd.toArray⟩)).setCell ⟨w.heap.size + 1, 4, none⟩ (.string ⟨kb.toArray⟩)).setCell ⟨w.heap.size + 1, 5, none⟩ (.int .i64 j)) :=
            ((((((Chg.refl (one (w.heap.size + 1)) w3).setCell (p := ⟨w.heap.size + 1, 0, none⟩) (.inl rfl) _).setCell (p := ⟨w.heap.size + 1, 1, none⟩) (.inl rfl) _).setCell (p := ⟨w.heap.size + 1, 2, none⟩) (.inl rfl) _).setCell (p := ⟨w.heap.size + 1, 3, none⟩) (.inl rfl) _).setCell (p := ⟨w.heap.size + 1, 4, none⟩) (.inl rfl) _).setCell (p := ⟨w.heap.size + 1, 5, none⟩) (.inl rfl) _
          generalize (((((w3.setCell ⟨w.heap.size + 1, 0, none⟩ (.int .i64 most)).setCell ⟨w.heap.size + 1, 1, none⟩ (.slice (some ⟨bb, off, none⟩) n c)).setCell ⟨w.heap.size + 1, 2, none⟩ (.bool true)).setCell ⟨w.heap.size + 1, 3, none⟩ (.string ⟨kd.toArray⟩)).setCell ⟨w.heap.size + 1, 4, none⟩ (.string ⟨kb.toArray⟩)).setCell ⟨w.heap.size + 1, 5, none⟩ (.int .i64 j) = w9 at *
          have hn7 : Blk w9.drew (w.heap.size + 1) 29 (rvC most (some ⟨bb, off, none⟩) n c (some ⟨kd, kb, j, 0, 0⟩)) := hz9
          have HN7 := Lib.hid hn7
          have HC9 := Lib.hid hc9
          clear hz9 hc9 hn7 q0 q1 q2 q3 q4 q5 p0 p1 p2 p3 p4 p5 t0 t1 t2 t3 t4 t5 hcb
          go_wp2_with (fail)
          refine bodyPost_ret (v := .tuple #[.agg (rvC most (some ⟨bb, off, none⟩) n c (some ⟨kd, kb, j, 0, 0⟩)).toArray, .string ⟨x.toArray⟩, .bool true]) (hsres_ctt rfl rfl rfl rfl (HN7.out.range 0 _ (fun j v hv => by simpa using hv)) Tryd.underlying29 rfl rh_size) rfl ?_
          exact .inr ⟨j, x, next_is haj HNO.out HG.out HV.out, rfl, HB3.out.trans ((HC9.out.drew).below HB3.out.size (fun j hj => by unfold one at hj; omega))⟩
        | false =>
          rw [hv] at Q1
          have HV := Lib.hid hv
          clear hv y2
          go_wp2_with (fail)
          clear d1 d3 d4 hcell
          refine region_below0 (by kernel_rfl) (by kernel_rfl) ?_
          repeat (first
            | go_big_quiet_step (exact Q1.out _ _)
            | quiet_step (exact Q1.out _ _))
          refine wpQuiet_nil ?_
          intro _ hw'
          obtain ⟨⟨dq, osq⟩, hw''⟩ := hw'
          subst hw''
          have HBQ := Lib.hid (HBr.out.trans ((below_regrown wr dq osq).mono HBr.out.size))
          clear Q1 r1 r3 r4 rc
          generalize grow (redrawn wr dq) osq = w2 at *
          go_wp2_with (fail)
          go_roundw
          case rel => exact ⟨j + 1, by go_num, by omega, by omega, fun m h1 h2 y hy => by
            rcases Nat.lt_succ_iff_lt_or_eq.1 h2 with h | h
            · exact HNO.out m h1 h y hy
            · subst h; rw [HG.out] at hy; injection hy with hy; rw [← hy]; exact HV.out, HBQ.out⟩
          case measure => simp [intOf]; omega
      · have hji : ¬ (j : Int) < n := by omega
        obtain rfl : j = n := by omega
        have y0 := Blk.below HX0.out HBr.out (Blk.lt HX0.out)
        have HZ1 := Lib.hid (Blk.below HX1.out HBr.out (Blk.lt HX1.out))
        have g0 : wr.cell? ⟨w.heap.size, 0, none⟩ = some (.int .i64 most) := y0.cell 0
        have g1 : wr.cell? ⟨w.heap.size, 1, none⟩ = some (.slice A j c) := y0.cell 1
        have g2 := y0.cell 2
        have g3 := y0.cell 3
        have g4 := y0.cell 4
        have g5 := y0.cell 5
        simp only [List.getElem?_cons_succ, List.getElem?_cons_zero] at g2 g3 g4 g5
        have HB9 : Hid (Below w.heap.size w wr) := Lib.hid (HB0.out.trans (HBr.out.mono HB0.out.size))
        clear y0 y2 d3 d4
        go_wp2_with ((with_reducible refine at_store 6 ?_); refine wpList_store_blk rfl _ _ _ rfl rfl (w.heap.size + 1) 0 _ [.int .i64 0, .slice none 0 0, .bool false, .string ⟨#[]⟩, .string ⟨#[]⟩, .int .i64 0] (rvC most A j c (some ⟨kd, kb, ki, kx, ky⟩)) rfl rfl HZ1.out (by simp [rvC, rwC]) rh_size (rvC_one _ _ _ _ _) ?_; intro w6 hn6 hg6)
        have hc6 := chg_of_grown hg6
        have hn7 : Blk w6 (w.heap.size + 1) 29 (rvC most A j c (some ⟨kd, kb, ki, kx, ky⟩)) := hn6
        refine bodyPost_ret (v := .tuple #[.agg (rvC most A j c (some ⟨kd, kb, ki, kx, ky⟩)).toArray, .string ⟨#[]⟩, .bool false]) (hsres_ctt rfl rfl rfl rfl (hn7.range 0 _ (fun j v hv => by simpa using hv)) Tryd.underlying29 rfl rh_size) rfl ?_
        exact .inl ⟨next_no (fun m h1 y hy => HNO.out m h1 (by have := (List.getElem?_eq_some_iff.1 hy).1; have := HN.out; omega) y hy), rfl, HB9.out.trans (hc6.below HB9.out.size (fun j hj => by unfold one at hj; omega))⟩
end Go.Proofs.YtfjiogockpmogaaDoor
