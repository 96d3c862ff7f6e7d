/-
  Walks: Newer of the document's history.
-/
import Derived.Test.YtfjiogockpmogaaDoorHsROld
namespace Go.Proofs.YtfjiogockpmogaaDoor
open Go.RowKit Go.Sort
set_option linter.unusedVariables false
set_option linter.unusedSimpArgs false

theorem prev_is {d b : List UInt8} {L : List (List UInt8)} {i j : Nat} {x : List UInt8} (hj : j < i) (hno : ∀ m, j < m → m < i → ∀ y, L[m]? = some y → hasW d b y = false) (hx : L[j]? = some x) (hp : hasW d b x = true) : prevW d b L i = some (j, x) := by
  unfold prevW
  rw [hats_take]
  have hjl : j < L.length := (List.getElem?_eq_some_iff.1 hx).1
  have hjx : L[j] = x := (List.getElem?_eq_some_iff.1 hx).2
  have hat : ((hats L).take i)[j]? = some (j, x) := by rw [List.getElem?_take, if_pos hj, hats_get hjl, hjx]
  have hsp : (hats L).take i = (((hats L).take i).take j ++ [(j, x)]) ++ ((hats L).take i).drop (j + 1) := by
    have h1 : ((hats L).take i).take (j + 1) = ((hats L).take i).take j ++ [(j, x)] := by rw [List.take_add_one, hat]; rfl
    rw [← h1, List.take_append_drop]
  rw [hsp, List.reverse_append, List.reverse_append]
  refine find_here (pre := (((hats L).take i).drop (j + 1)).reverse) (x := (j, x)) (fun y hy => ?_) hp ⟨(((hats L).take i).take j).reverse, by simp⟩
  have hy2 := List.mem_reverse.1 hy
  obtain ⟨t, ht⟩ := List.mem_iff_getElem?.1 hy2
  have hlt := (List.getElem?_eq_some_iff.1 ht).1
  rw [List.length_drop, List.length_take] at hlt
  rw [List.getElem?_drop, List.getElem?_take, if_pos (by omega)] at ht
  obtain ⟨a, l⟩ := y
  obtain ⟨rfl, hl⟩ := hats_at ht
  exact hno _ (by omega) (by omega) l hl
theorem prev_no {d b : List UInt8} {L : List (List UInt8)} {i : Nat} (hno : ∀ m, m < i → ∀ y, L[m]? = some y → hasW d b y = false) : prevW d b L i = none := by
  unfold prevW
  rw [hats_take]
  refine find_nowhere (fun y hy => ?_)
  have hy2 := List.mem_reverse.1 hy
  obtain ⟨t, ht⟩ := List.mem_iff_getElem?.1 hy2
  have hlt := (List.getElem?_eq_some_iff.1 ht).1
  rw [List.length_take] at hlt
  rw [List.getElem?_take, if_pos (by omega)] at ht
  obtain ⟨a, l⟩ := y
  obtain ⟨rfl, hl⟩ := hats_at ht
  exact hno _ (by omega) l hl

set_option maxRecDepth 100000 in
set_option maxHeartbeats 4000000 in
theorem rnewer_none (most : Nat) (A : Option Addr) (n c : Nat) (w : World) :
    Calls Tryd.prog 28 #[.agg (rvC most A n c none).toArray] w fun e w' => e = .returned (.tuple #[.agg (rvC most A n c none).toArray, .string ⟨#[]⟩, .bool false]) ∧ Below w.heap.size w w' := by
  have x1 := Blk.new (w.alloc (.cells (rvC most A n c none).toArray 29)) 29 (rvC most A n c none)
  rw [World.size_alloc] at x1
  simp only [rvC, rwC] at x1 ⊢
  go_enter Tryd.func28, Tryd.ntmps28
  go_wp2
  refine bodyPost_ret (v := .tuple #[.agg (rvC most A n c none).toArray, .string ⟨#[]⟩, .bool false]) (hsres_ctt rfl rfl rfl rfl (x1.range 0 _ (fun j v hv => by simpa [rvC, rwC] using hv)) Tryd.underlying29 rfl rh_size) rfl ⟨rfl, ?_⟩
  exact ((Below.refl _ w).alloc (Nat.le_refl _) _).alloc (by simp) _

/-- what the document's Newer hands back, in a walk -/
def RNewP (w : World) (most : Nat) (L : List (List UInt8)) (A : Option Addr) (n c : Nat) (d b : List UInt8) (i : Nat) (e : Ending) (w' : World) : Prop :=
  (prevW d b L i = none ∧ e = .returned (.tuple #[.agg (rvC most A n c none).toArray, .string ⟨d.toArray⟩, .bool true]) ∧ Below w.heap.size w w') ∨
  (∃ j l, prevW d b L i = some (j, l) ∧ e = .returned (.tuple #[.agg (rvC most A n c (some ⟨d, b, j, 0, 0⟩)).toArray, .string ⟨l.toArray⟩, .bool true]) ∧ Below w.heap.size w w')
set_option maxRecDepth 100000 in
set_option maxHeartbeats 8000000 in
theorem rnewer_some (most : Nat) (L : List (List UInt8)) (hok : ∀ l ∈ L, l.length ≤ 3000) (A : Option Addr) (n c : Nat) (kd kb : List UInt8) (ki kx ky : Nat) (hd : kd.length ≤ 1000000) (hb : kb.length ≤ 1000000) (w : World) (hn : n = L.length) (hl4 : n ≤ 256) (hS : Sl w w.heap.size A (sv L)) (hki : ki < L.length) :
    Calls Tryd.prog 28 #[.agg (rvC most A n c (some ⟨kd, kb, ki, kx, ky⟩)).toArray] w (RNewP w most L A n c kd kb ki) := by
  have HS := Lib.hid hS
  have HN := Lib.hid hn
  have HOK := Lib.hid hok
  have HLV := Lib.hid (rhleave_any most A n c (some ⟨kd, kb, ki, kx, ky⟩))
  simp only [rvC, rwC] at HLV ⊢
  have HSLT : Hid (∀ bb off, A = some ⟨bb, off, none⟩ → bb < w.heap.size) := Lib.hid (fun bb off e => by
    obtain ⟨b2, o2, h1, h2, _⟩ := hS.open_ (by rw [sv_length]; omega)
    rw [e] at h1; injection h1 with h1; injection h1 with h1 _ _; omega)
  have x0 := (Blk.new w 29 [.int .i64 most, .slice A n c, .bool true, .string ⟨kd.toArray⟩, .string ⟨kb.toArray⟩, .int .i64 ki]).alloc (.cells #[.int .i64 0, .slice none 0 0, .bool false, .string ⟨#[]⟩, .string ⟨#[]⟩, .int .i64 0] 29)
  have x1 := Blk.new (w.alloc (.cells #[.int .i64 most, .slice A n c, .bool true, .string ⟨kd.toArray⟩, .string ⟨kb.toArray⟩, .int .i64 ki] 29)) 29 [.int .i64 0, .slice none 0 0, .bool false, .string ⟨#[]⟩, .string ⟨#[]⟩, .int .i64 0]
  rw [World.size_alloc] at x1
  have hb0 : Below w.heap.size w ((w.alloc (.cells #[.int .i64 most, .slice A n c, .bool true, .string ⟨kd.toArray⟩, .string ⟨kb.toArray⟩, .int .i64 ki] 29)).alloc (.cells #[.int .i64 0, .slice none 0 0, .bool false, .string ⟨#[]⟩, .string ⟨#[]⟩, .int .i64 0] 29)) := ((Below.refl _ w).alloc (Nat.le_refl _) _).alloc (by simp) _
  have hsz : ((w.alloc (.cells #[.int .i64 most, .slice A n c, .bool true, .string ⟨kd.toArray⟩, .string ⟨kb.toArray⟩, .int .i64 ki] 29)).alloc (.cells #[.int .i64 0, .slice none 0 0, .bool false, .string ⟨#[]⟩, .string ⟨#[]⟩, .int .i64 0] 29)).heap.size = w.heap.size + 2 := by simp
  have hkin : ki < n := by omega
  have hki4 : (ki : Int) < 256 := by omega
  have HX0 := Lib.hid x0
  have HX1 := Lib.hid x1
  have HB0 := Lib.hid hb0
  have HSZ := Lib.hid hsz
  clear x0 x1 hb0 hsz hn hS hok hki
  go_enter Tryd.func28, Tryd.ntmps28
  go_wp2_with (fail)
  generalize (w.alloc (.cells #[.int .i64 most, .slice A n c, .bool true, .string ⟨kd.toArray⟩, .string ⟨kb.toArray⟩, .int .i64 ki] 29)).alloc (.cells #[.int .i64 0, .slice none 0 0, .bool false, .string ⟨#[]⟩, .string ⟨#[]⟩, .int .i64 0] 29) = w1 at *
  go_loopw [5] (fun u wr => ∃ j : Nat, u = .int .i64 (((j : Nat) : Int) - 1) ∧ j ≤ ki ∧ (∀ m, j ≤ m → m < ki → ∀ y, L[m]? = some y → hasW kd kb y = false) ∧ Below w1.heap.size w1 wr) (fun u _ => (intOf u + 1).toNat)
  case atStart => exact ⟨ki, rfl, Nat.le_refl _, fun m h1 h2 => by omega, Below.refl _ _⟩
  case round =>
    obtain ⟨j0, rfl, hjk, hno, hbr⟩ := hrel
    have HNO := Lib.hid hno
    have HBr := Lib.hid hbr
    have y2 := Blk.below HX0.out hbr (Blk.lt HX0.out)
    have d1 : wr.cell? ⟨w.heap.size, 1, none⟩ = some (.slice A n c) := y2.cell 1
    have d3 : wr.cell? ⟨w.heap.size, 3, none⟩ = some (.string ⟨kd.toArray⟩) := y2.cell 3
    have d4 : wr.cell? ⟨w.heap.size, 4, none⟩ = some (.string ⟨kb.toArray⟩) := y2.cell 4
    clear hno hbr
    by_cases hj0 : 0 < j0
    · obtain ⟨j, rfl⟩ : ∃ j, j0 = j + 1 := ⟨j0 - 1, by omega⟩
      rw [show ((j + 1 : Nat) : Int) - 1 = (j : Int) by omega]
      have hji : (j : Int) ≥ 0 := by omega
      have hjn : (j : Int) < n := by omega
      have hjl : j < L.length := by have := HN.out; omega
      obtain ⟨bb, off, hA, hbb, hcell0⟩ := hs_at ((HS.out.below HB0.out).more HB0.out.size) (List.getElem?_eq_getElem hjl)
      subst hA
      have hcell : wr.cell? ⟨bb, off + j, none⟩ = some (.string ⟨(L[j]).toArray⟩) := (HBr.out.cell (p := ⟨bb, off + j, none⟩) hbb).trans hcell0
      have hget := List.getElem?_eq_getElem hjl
      have hx3 : (L[j]).length ≤ 3000 := HOK.out _ (List.getElem_mem hjl)
      generalize L[j] = x at hcell hget hx3
      have HG := Lib.hid hget
      clear hcell0 hget
      have Q1 := Lib.hid (fun dd os => Calls.regrown_of (rof14_below x kd kb (by omega) (by omega) (grow (redrawn wr dd) os)))
      have r1 := cell_regrown d1
      have r3 := cell_regrown d3
      have r4 := cell_regrown d4
      have rc := cell_regrown hcell
      cases hv : hasW kd kb x with
      | true =>
        rw [hv] at Q1
        have HV := Lib.hid hv
        clear hv y2
        go_wp2_with (fail)
        clear d1 d3 d4 hcell
        refine region_below0 (by kernel_rfl) (by kernel_rfl) ?_
        repeat (first
          | go_big_quiet_step (exact Q1.out _ _)
          | quiet_step (exact Q1.out _ _))
        refine wpQuiet_nil ?_
        intro _ hw'
        obtain ⟨⟨dq, osq⟩, hw''⟩ := hw'
        subst hw''
        have HBQ := Lib.hid (HBr.out.trans ((below_regrown wr dq osq).mono HBr.out.size))
        have e4 : (grow (redrawn wr dq) osq).cell? ⟨bb, off + j, none⟩ = _ := rc _ _
        clear Q1 r1 r3 r4 rc
        generalize grow (redrawn wr dq) osq = w2 at *
        have y2 := Blk.below HX0.out HBQ.out (Blk.lt HX0.out)
        have y1 := Blk.below HX1.out HBQ.out (Blk.lt HX1.out)
        have f5 := y2.frozen 5
        have e5 := y2.cell 5
        have y25 := y2.set_ 5 (.int .i64 j)
        have y15 := y1.chg (chg_of_grown (grown_setO w2 w.heap.size 5 (.int .i64 j))) (by unfold one; omega)
        have hbb2 : bb < w.heap.size := HSLT.out bb off rfl
        have hbb3 : bb < w.heap.size + 1 := by omega
        have HY25 := Lib.hid y25
        have HY15 := Lib.hid y15
        have HB2 : Hid (Below w.heap.size w w2) := Lib.hid (HB0.out.trans (HBQ.out.mono HB0.out.size))
        clear y2 y1 y25 y15
        have hcb : (w2.setCell ⟨w.heap.size, 5, none⟩ (.int .i64 j)).cell? ⟨bb, off + j, none⟩ = some (.string ⟨x.toArray⟩) := by
          rw [World.cell?_setCell_other _ _ _ _ (by first | (simp; omega) | simp | omega)]; exact e4
        have hb3 : Below w.heap.size w (w2.setCell ⟨w.heap.size, 5, none⟩ (.int .i64 j)) := HB2.out.setCell (p := ⟨w.heap.size, 5, none⟩) (by simp) _
        clear e4
        go_wp2_with (fail)
        generalize w2.setCell ⟨w.heap.size, 5, none⟩ (.int .i64 j) = w3 at *
        have HB3 := Lib.hid hb3
        have q0 : w3.cell? ⟨w.heap.size, 0, none⟩ = some (.int .i64 most) := Blk.cell HY25.out 0
        have q1 : w3.cell? ⟨w.heap.size, 1, none⟩ = some (.slice (some ⟨bb, off, none⟩) n c) := Blk.cell HY25.out 1
        have q2 : w3.cell? ⟨w.heap.size, 2, none⟩ = some (.bool true) := Blk.cell HY25.out 2
        have q3 : w3.cell? ⟨w.heap.size, 3, none⟩ = some (.string ⟨kd.toArray⟩) := Blk.cell HY25.out 3
        have q4 : w3.cell? ⟨w.heap.size, 4, none⟩ = some (.string ⟨kb.toArray⟩) := Blk.cell HY25.out 4
        have q5 : w3.cell? ⟨w.heap.size, 5, none⟩ = some (.int .i64 j) := Blk.cell HY25.out 5
        have p0 : w3.cell? ⟨w.heap.size + 1, 0, none⟩ = some (.int .i64 0) := Blk.cell HY15.out 0
        have p1 : w3.cell? ⟨w.heap.size + 1, 1, none⟩ = some (.slice none 0 0) := Blk.cell HY15.out 1
        have p2 : w3.cell? ⟨w.heap.size + 1, 2, none⟩ = some (.bool false) := Blk.cell HY15.out 2
        have p3 : w3.cell? ⟨w.heap.size + 1, 3, none⟩ = some (.string ⟨#[]⟩) := Blk.cell HY15.out 3
        have p4 : w3.cell? ⟨w.heap.size + 1, 4, none⟩ = some (.string ⟨#[]⟩) := Blk.cell HY15.out 4
        have p5 : w3.cell? ⟨w.heap.size + 1, 5, none⟩ = some (.int .i64 0) := Blk.cell HY15.out 5
        have t0 : w3.frozen? ⟨w.heap.size + 1, 0, none⟩ = false := Blk.frozen HY15.out 0
        have t1 : w3.frozen? ⟨w.heap.size + 1, 1, none⟩ = false := Blk.frozen HY15.out 1
        have t2 : w3.frozen? ⟨w.heap.size + 1, 2, none⟩ = false := Blk.frozen HY15.out 2
        have t3 : w3.frozen? ⟨w.heap.size + 1, 3, none⟩ = false := Blk.frozen HY15.out 3
        have t4 : w3.frozen? ⟨w.heap.size + 1, 4, none⟩ = false := Blk.frozen HY15.out 4
        have t5 : w3.frozen? ⟨w.heap.size + 1, 5, none⟩ = false := Blk.frozen HY15.out 5
        clear e5 f5 hb3
        go_region
        have hz9 := (((((HY15.out.set_ 0 (.int .i64 most)).set_ 1 (.slice (some ⟨bb, off, none⟩) n c)).set_ 2 (.bool true)).set_ 3 (.string ⟨kd.toArray⟩)).set_ 4 (.string ⟨kb.toArray⟩)).set_ 5 (.int .i64 j)
        have hc9 : Chg (one (w.heap.size + 1)) w3 ((((((w3.setCell ⟨w.heap.size + 1, 0, none⟩ (.int .i64 most)).setCell ⟨w.heap.size + 1, 1, none⟩ (.slice (some ⟨bb, off, none⟩) n c)).setCell ⟨w.heap.size + 1, 2, none⟩ (.bool true)).setCell ⟨w.heap.size + 1, 3, none⟩ (.string ⟨kd.toArray⟩)).setCell ⟨w.heap.size + 1, 4, none⟩ (.string ⟨kb.toArray⟩)).setCell ⟨w.heap.size + 1, 5, none⟩ (.int .i64 j)) :=
          ((((((Chg.refl (one (w.heap.size + 1)) w3).setCell (p := ⟨w.heap.size + 1, 0, none⟩) (.inl rfl) _).setCell (p := ⟨w.heap.size + 1, 1, none⟩) (.inl rfl) _).setCell (p := ⟨w.heap.size + 1, 2, none⟩) (.inl rfl) _).setCell (p := ⟨w.heap.size + 1, 3, none⟩) (.inl rfl) _).setCell (p := ⟨w.heap.size + 1, 4, none⟩) (.inl rfl) _).setCell (p := ⟨w.heap.size + 1, 5, none⟩) (.inl rfl) _
        generalize (((((w3.setCell ⟨w.heap.size + 1, 0, none⟩ (.int .i64 most)).setCell ⟨w.heap.size + 1, 1, none⟩ (.slice (some ⟨bb, off, none⟩) n c)).setCell ⟨w.heap.size + 1, 2, none⟩ (.bool true)).setCell ⟨w.heap.size + 1, 3, none⟩ (.string ⟨kd.toArray⟩)).setCell ⟨w.heap.size + 1, 4, none⟩ (.string ⟨kb.toArray⟩)).setCell ⟨w.heap.size + 1, 5, none⟩ (.int .i64 j) = w9 at *
        have hn7 : Blk w9.drew (w.heap.size + 1) 29 (rvC most (some ⟨bb, off, none⟩) n c (some ⟨kd, kb, j, 0, 0⟩)) := hz9
        have HN7 := Lib.hid hn7
        have HC9 := Lib.hid hc9
        clear hz9 hc9 hn7 q0 q1 q2 q3 q4 q5 p0 p1 p2 p3 p4 p5 t0 t1 t2 t3 t4 t5 hcb
        go_wp2_with (fail)
        refine bodyPost_ret (v := .tuple #[.agg (rvC most (some ⟨bb, off, none⟩) n c (some ⟨kd, kb, j, 0, 0⟩)).toArray, .string ⟨x.toArray⟩, .bool true]) (hsres_ctt rfl rfl rfl rfl (HN7.out.range 0 _ (fun j v hv => by simpa using hv)) Tryd.underlying29 rfl rh_size) rfl ?_
        exact .inr ⟨j, x, prev_is (by omega) (fun m h1 h2 y hy => HNO.out m (by omega) h2 y hy) HG.out HV.out, rfl, HB3.out.trans ((HC9.out.drew).below HB3.out.size (fun j hj => by unfold one at hj; omega))⟩
      | false =>
        rw [hv] at Q1
        have HV := Lib.hid hv
        clear hv y2
        go_wp2_with (fail)
        clear d1 d3 d4 hcell
        refine region_below0 (by kernel_rfl) (by kernel_rfl) ?_
        repeat (first
          | go_big_quiet_step (exact Q1.out _ _)
          | quiet_step (exact Q1.out _ _))
        refine wpQuiet_nil ?_
        intro _ hw'
        obtain ⟨⟨dq, osq⟩, hw''⟩ := hw'
        subst hw''
        have HBQ := Lib.hid (HBr.out.trans ((below_regrown wr dq osq).mono HBr.out.size))
        clear Q1 r1 r3 r4 rc
        generalize grow (redrawn wr dq) osq = w2 at *
        go_wp2_with (fail)
        go_roundw
        case rel => exact ⟨j, by congr 1, by omega, fun m h1 h2 y hy => by
          rcases Nat.eq_or_lt_of_le h1 with h | h
          · subst h; rw [HG.out] at hy; injection hy with hy; rw [← hy]; exact HV.out
          · exact HNO.out m h h2 y hy, HBQ.out⟩
        case measure => simp [intOf]
    · obtain rfl : j0 = 0 := by omega
      have hji : ¬ ((0 : Nat) : Int) - 1 ≥ 0 := by omega
      have HZ1 := Lib.hid (Blk.below HX1.out HBr.out (Blk.lt HX1.out))
      have HZ0 := Lib.hid y2
      have g0 : wr.cell? ⟨w.heap.size, 0, none⟩ = some (.int .i64 most) := y2.cell 0
      have g2 : wr.cell? ⟨w.heap.size, 2, none⟩ = some (.bool true) := y2.cell 2
      have g5 : wr.cell? ⟨w.heap.size, 5, none⟩ = some (.int .i64 ki) := y2.cell 5
      have HB9 : Hid (Below w.heap.size w wr) := Lib.hid (HB0.out.trans (HBr.out.mono HB0.out.size))
      clear y2
      rw [show ((0 : Nat) : Int) - 1 = -1 from rfl]
      go_wp2_with (fail)
      refine (HLV.out wr).mono ?_
      rintro e w5 ⟨rfl, hb5⟩
      have HZ02 := Lib.hid (Blk.below HZ0.out hb5 (Blk.lt HZ0.out))
      have HZ12 := Lib.hid (Blk.below HZ1.out hb5 (Blk.lt HZ1.out))
      have HB5 := Lib.hid (HB9.out.trans (hb5.mono HB9.out.size))
      clear hb5 g0 g2 g5 d1 d3 d4
      go_wp2_with (first
        | ((with_reducible refine at_store 1 ?_); refine wpList_store_blk rfl _ _ _ rfl rfl w.heap.size 0 _ [.int .i64 most, .slice A n c, .bool true, .string ⟨kd.toArray⟩, .string ⟨kb.toArray⟩, .int .i64 ki] (rvC most A n c none) rfl rfl HZ02.out (by simp [rvC, rwC]) rh_size (rvC_one _ _ _ _ none) ?_; intro w6 hn6 hg6; have hn60 : Blk w6 w.heap.size 29 (rvC most A n c none) := hn6; have k0 := hn60.cell 0; have k1 := hn60.cell 1; have k2 := hn60.cell 2; have k3 := hn60.cell 3; have k4 := hn60.cell 4; have k5 := hn60.cell 5; simp only [rvC, rwC, List.getElem?_cons_succ, List.getElem?_cons_zero] at k0 k1 k2 k3 k4 k5; have HC6 := Lib.hid (chg_of_grown hg6); have hne1 : ¬ one w.heap.size (w.heap.size + 1) := (by unfold one; omega); have HZ13 := Lib.hid (Blk.chg HZ12.out HC6.out hne1); clear hn6 hg6 hn60 hne1)
        | ((with_reducible refine at_store 2 ?_); refine wpList_store_blk rfl _ _ _ rfl rfl (w.heap.size + 1) 0 _ [.int .i64 0, .slice none 0 0, .bool false, .string ⟨#[]⟩, .string ⟨#[]⟩, .int .i64 0] (rvC most A n c none) rfl rfl HZ13.out (by simp [rvC, rwC]) rh_size (rvC_one _ _ _ _ none) ?_; intro w7 hn7 hg7; have HN7 := Lib.hid hn7; have HC7 := Lib.hid (chg_of_grown hg7); clear hn7 hg7))
      have hn8 : Blk w7 (w.heap.size + 1) 29 (rvC most A n c none) := HN7.out
      have hcc : Chg (fun j => j = w.heap.size ∨ j = w.heap.size + 1) w5 w7 := (HC6.out.mono (S' := fun j => j = w.heap.size ∨ j = w.heap.size + 1) (fun j hj => .inl (.inl hj))).trans HC7.out (fun j hj => .inl (.inr hj))
      refine bodyPost_ret (v := .tuple #[.agg (rvC most A n c none).toArray, .string ⟨kd.toArray⟩, .bool true]) (hsres_ctt rfl rfl rfl rfl (hn8.range 0 _ (fun j v hv => by simpa using hv)) Tryd.underlying29 rfl rh_size) rfl ?_
      exact .inl ⟨prev_no (fun m h1 y hy => HNO.out m (by omega) h1 y hy), rfl, HB5.out.trans (hcc.below HB5.out.size (fun j hj => by omega))⟩
end Go.Proofs.YtfjiogockpmogaaDoor
