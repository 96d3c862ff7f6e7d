/-
  Walk: filled.
-/
import Derived.Test.YtijbimofigkdkaaDoorGrFew
import Derived.Test.YtijbimofigkdkaaDoorGrRow
import Derived.Test.YtijbimofigkdkaaDoorGrScroll
namespace Go.Proofs.YtijbimofigkdkaaDoor
open Go.RowKit
set_option linter.unusedVariables false
set_option linter.unusedSimpArgs false

/-- what an argument of that type bears -/
structure OpV.ok (o : OpV) : Prop where
  d0 : 0 ≤ o.d
  d1 : o.d ≤ 255
  s : o.s.length ≤ 9223372036854775807
  r0 : -9223372036854775808 ≤ o.row
  r1 : o.row ≤ 9223372036854775807
  c0 : -9223372036854775808 ≤ o.col
  c1 : o.col ≤ 9223372036854775807
  m0 : -9223372036854775808 ≤ o.cols
  m1 : o.cols ≤ 9223372036854775807
  z0 : -9223372036854775808 ≤ o.z
  z1 : o.z ≤ 9223372036854775807
  n0 : -9223372036854775808 ≤ o.n
  n1 : o.n ≤ 9223372036854775807
theorem OpV.ok.few {o : OpV} (h : o.ok) : (fewM o).ok := by
  obtain ⟨a1, a2, a3, a4, a5, a6, a7, a8, a9, b1, b2, b3, b4⟩ := h
  refine ⟨a1, a2, by simp [fewM]; omega, a4, a5, a6, a7, a8, a9, ?_, ?_, ?_, ?_⟩ <;> simp only [fewM] <;> split <;> omega
theorem few_s (o : OpV) : (fewM o).s.length ≤ 70 := by simp [fewM]; omega

theorem few_any (o : OpV) (h : o.ok) (w : World) : Calls Tryd.prog 10 #[.agg o.cells.toArray] w fun e w' => e = .returned (.agg (fewM o).cells.toArray) ∧ Below w.heap.size w w' := by
  have key := few_core o h.d0 h.d1 h.s h.n0 h.z0 (fewM o).s (fewM o).n (fewM o).z ?_ ?_ w
  · exact key
  · by_cases h1 : 70 < o.s.length
    · exact .inl ⟨h1, rfl⟩
    · exact .inr ⟨by omega, List.take_of_length_le (by omega)⟩
  · by_cases hd : o.d % 10 = 8
    · refine .inr ⟨hd, ?_, ?_⟩
      · by_cases h1 : 40 < o.n
        · by_cases h2 : o.n ≤ 500
          · exact .inl ⟨h1, h2, by simp [fewM, hd, h1, h2]⟩
          · exact .inr (.inr ⟨h1, by omega, by simp [fewM, h2]⟩)
        · exact .inr (.inl ⟨by omega, by simp [fewM, h1]⟩)
      · by_cases h1 : 20 < o.z
        · by_cases h2 : o.z ≤ 500
          · exact .inl ⟨h1, h2, by simp [fewM, hd, h1, h2]⟩
          · exact .inr (.inr ⟨h1, by omega, by simp [fewM, h2]⟩)
        · exact .inr (.inl ⟨by omega, by simp [fewM, h1]⟩)
    · exact .inl ⟨hd, by simp [fewM, hd], by simp [fewM, hd]⟩

/-- calls in memory -/
def oc (l : List OpV) : List Value := l.flatMap OpV.cells
theorem oc_length (l : List OpV) : (oc l).length = l.length * 12 := by
  induction l with
  | nil => rfl
  | cons o l ih => simp only [oc, List.flatMap_cons, List.length_append, List.length_cons] at *; rw [OpV.len]; omega
theorem oc_get {l : List OpV} {k : Nat} {o : OpV} (h : l[k]? = some o) {j : Nat} {v : Value} (hv : o.cells[j]? = some v) : (oc l)[k * 12 + j]? = some v := by
  have hj : j < 12 := by have := (List.getElem?_eq_some_iff.1 hv).1; rw [OpV.len] at this; exact this
  induction l generalizing k with
  | nil => simp at h
  | cons x l ih =>
    cases k with
    | zero =>
      simp at h
      subst h
      rw [oc, List.flatMap_cons, List.getElem?_append_left (by rw [OpV.len]; omega), Nat.zero_mul, Nat.zero_add]
      exact hv
    | succ k =>
      rw [oc, List.flatMap_cons, List.getElem?_append_right (by rw [OpV.len]; omega), OpV.len, show (k + 1) * 12 + j - 12 = k * 12 + j by omega]
      exact ih (by simpa using h)

/-- what such a call makes of a grid of twelve columns -/
def fillO (L : List (List Cl)) (o : OpV) : List (List Cl) :=
  if o.d % 10 = 5 then (joinM 12 L o.row o.col o.s).1
  else if o.d % 10 = 6 then (eraseG 12 L o.row o.col o.z).1
  else if o.d % 10 = 7 then scrollM 12 L o.n
  else (putM 12 L o.row o.col o.s o.cols o.y).1
def fillS (l : List OpV) : List (List Cl) := (l.take 30).foldl (fun L o => fillO L (fewM o)) (blankG 12 4)

theorem ptr_ne (g : Nat) (w : World) : Sem.run Tryd.prog (binOp .neq 23 (.pointer (some ⟨g, 0, none⟩)) (.pointer none)) w = .ok (.bool true) w := by
  have h : ∀ d : Nat, (Op.equalIn (d + 1) 23 (.pointer (some ⟨g, 0, none⟩)) (.pointer none)).run Tryd.prog w = .ok false w := fun d => by
    simp [Op.equalIn, run_underlying Tryd.underlying23]
  simp only [binOp]
  simp [Op.equal, Op.maxDepth, h 9999]

/-- what filled leaves -/
def FilledP (w : World) (l : List OpV) (e : Ending) (w' : World) : Prop := ∃ g rb bs, e = .returned (.pointer (some ⟨g, 0, none⟩)) ∧ GrAt w' w.heap.size g rb bs 12 (fillS l) ∧ Below w.heap.size w w'

set_option maxRecDepth 100000 in
set_option maxHeartbeats 8000000 in
theorem filled_any (l : List OpV) (hok : ∀ o ∈ l, o.ok) (n c : Nat) (A : Option Addr) (hn : n = l.length) (hm : n ≤ maxLen) (w : World) (hS : Sl w w.heap.size A (oc l)) (hT : BlankT w) :
    Calls Tryd.prog 19 #[.slice A n c] w (FilledP w l) := by
  have HN := Lib.hid hn
  have HS := Lib.hid hS
  have HT := Lib.hid hT
  have HOK := Lib.hid hok
  have hmi : (n : Int) ≤ 9223372036854775807 := by unfold maxLen at hm; omega
  clear hn hS hT hok hm
  go_enter Tryd.func19, Tryd.ntmps19
  go_wp2_with (go_at_call 7; refine (new_ok 12 4 (by omega) (by omega) (by omega) (by omega) w HT.out).mono ?_; rintro e w1 ⟨g, rb, bs, rfl, hg1, hb1⟩; have HG1 := Lib.hid hg1; have HB1 := Lib.hid hb1; clear hg1 hb1)
  go_loopw [5] (fun v5 wr => ∃ (k : Nat) (rb : Nat) (bs : List Nat), v5 = .int .i64 k ∧ k ≤ n ∧ k ≤ 30 ∧ GrAt wr w.heap.size g rb bs 12 ((l.take k).foldl (fun L o => fillO L (fewM o)) (blankG 12 4)) ∧ Below w.heap.size w wr) (fun v5 _ => 30 - (intOf v5).toNat)
  case atStart => exact ⟨0, rb, bs, rfl, by omega, by omega, HG1.out, HB1.out⟩
  case round =>
    clear HG1 HB1
    obtain ⟨k, rb', bs', rfl, hk, hk3, hg, hb⟩ := hrel
    have HG := Lib.hid hg
    have HB := Lib.hid hb
    clear hg hb
    have hpn := ptr_ne g
    by_cases hlt : k < n ∧ k < 30
    · obtain ⟨hkn, hk30⟩ := hlt
      have hki : (k : Int) < n := by omega
      have hki3 : (k : Int) < 30 := by omega
      have hx : l[k]? = some (l[k]'(by have := HN.out; omega)) := List.getElem?_eq_getElem _
      have hfold : (l.take (k + 1)).foldl (fun L o => fillO L (fewM o)) (blankG 12 4) = fillO ((l.take k).foldl (fun L o => fillO L (fewM o)) (blankG 12 4)) (fewM (l[k]'(by have := HN.out; omega))) := by
        rw [List.take_succ_eq_append_getElem (by have := HN.out; omega), List.foldl_append]
        rfl
      generalize l[k]'(by have := HN.out; omega) = o at hx hfold
      generalize (l.take k).foldl (fun L o => fillO L (fewM o)) (blankG 12 4) = L at HG hfold
      have hook := HOK.out o (List.mem_of_getElem? hx)
      have HFO := Lib.hid hfold
      obtain ⟨ab, off, rfl, hab, hcell⟩ := HS.out.open_ (by rw [oc_length]; have := HN.out; omega)
      have hrg : wr.rangeAt ab (off + k * 12) o.cells := fun j v hv => by
        rw [Nat.add_assoc]
        exact (HB.out.cell (p := ⟨ab, off + (k * 12 + j), none⟩) hab).trans (hcell _ v (oc_get hx hv))
      have HRG := Lib.hid hrg
      have HFW := Lib.hid (few_any o hook)
      have hok2 := hook.few
      have hs70 := few_s o
      generalize fewM o = p at HFO HFW hok2 hs70
      have d0 := hok2.d0
      have d1 := hok2.d1
      have HOK2 := Lib.hid hok2
      clear hx hfold hook hcell hrg hok2
      by_cases m5 : p.d % 10 = 5
      · have e5 : (p.d % 10 == 5) = true := by simp [m5]
        have hfin : Hid (fillO L p = (joinM 12 L p.row p.col p.s).1) := by show _ = _; unfold fillO; rw [if_pos m5]
        clear m5
        go_wp2_with (first
          | ((with_reducible refine at_dst 32 ?_); refine wpList_load_mid rfl _ _ rfl ab (off + k * 12) rfl o.cells _ HRG.out Tryd.underlying36 rfl op_size ?_)
          | (go_at_call 10; refine (HFW.out wr).mono ?_; rintro e w2 ⟨rfl, hb2⟩; have HB2 := Lib.hid hb2; have hN : Blk (w2.alloc (.cells ozero.cells.toArray 36)) w2.heap.size 36 ozero.cells := Blk.new _ _ _; have HN2 := Lib.hid hN; clear hb2 hN)
          | ((with_reducible refine at_store 6 ?_); refine wpList_store_blk rfl _ _ _ rfl rfl w2.heap.size 0 _ ozero.cells p.cells rfl rfl HN2.out (by simp [OpV.len]) op_size p.one ?_; intro w3 hn3 hg3; have hn3' : Blk w3 w2.heap.size 36 p.cells := hn3; have hb3 : Below w2.heap.size w2 w3 := ((Below.refl _ _).alloc (Nat.le_refl _) _).grown hg3 (by simp) (fun j hj => by injection hj with hj; omega); have HG3 := Lib.hid ((HG.out.below HB2.out).below hb3); have HB3 := Lib.hid (HB.out.trans ((HB2.out.trans (hb3.mono HB2.out.size)).mono HB.out.size)); have HN3 := Lib.hid hn3'; have q0 : w3.cell? ⟨w2.heap.size, 0, none⟩ = some (.int .u8 p.d) := hn3'.cell 0; have q1 : w3.cell? ⟨w2.heap.size, 1, none⟩ = some (.int .i64 p.row) := hn3'.cell 1; have q2 : w3.cell? ⟨w2.heap.size, 2, none⟩ = some (.int .i64 p.col) := hn3'.cell 2; have q3 : w3.cell? ⟨w2.heap.size, 3, none⟩ = some (.string ⟨p.s.toArray⟩) := hn3'.cell 3; have q4 : w3.cell? ⟨w2.heap.size, 4, none⟩ = some (.int .i64 p.cols) := hn3'.cell 4; have q10 : w3.cell? ⟨w2.heap.size, 10, none⟩ = some (.int .i64 p.z) := hn3'.cell 10; have q11 : w3.cell? ⟨w2.heap.size, 11, none⟩ = some (.int .i64 p.n) := hn3'.cell 11; clear hn3 hn3' hg3 hb3)
          | (go_at_call 24; refine (join_any HG3.out p.row p.col p.s (by omega)).mono ?_; rintro e w4 ⟨rfl, hg4, hc4⟩; have HG4 := Lib.hid hg4; have HC4 := Lib.hid hc4; clear hg4 hc4))
        exact ⟨⟨k + 1, rb', bs', by go_num, by omega, by omega, by rw [HFO.out, hfin.out]; exact HG4.out, HB3.out.trans (HC4.out.below HB3.out.size (fun j hj => HG3.out.lo j hj))⟩, by simp only [intOf]; omega⟩
      · have e5 : (p.d % 10 == 5) = false := by simp [m5]
        by_cases m6 : p.d % 10 = 6
        · have e6 : (p.d % 10 == 6) = true := by simp [m6]
          have hfin : Hid (fillO L p = (eraseG 12 L p.row p.col p.z).1) := by show _ = _; unfold fillO; rw [if_neg m5, if_pos m6]
          clear m5 m6
          go_wp2_with (first
            | ((with_reducible refine at_dst 32 ?_); refine wpList_load_mid rfl _ _ rfl ab (off + k * 12) rfl o.cells _ HRG.out Tryd.underlying36 rfl op_size ?_)
            | (go_at_call 10; refine (HFW.out wr).mono ?_; rintro e w2 ⟨rfl, hb2⟩; have HB2 := Lib.hid hb2; have hN : Blk (w2.alloc (.cells ozero.cells.toArray 36)) w2.heap.size 36 ozero.cells := Blk.new _ _ _; have HN2 := Lib.hid hN; clear hb2 hN)
            | ((with_reducible refine at_store 6 ?_); refine wpList_store_blk rfl _ _ _ rfl rfl w2.heap.size 0 _ ozero.cells p.cells rfl rfl HN2.out (by simp [OpV.len]) op_size p.one ?_; intro w3 hn3 hg3; have hn3' : Blk w3 w2.heap.size 36 p.cells := hn3; have hb3 : Below w2.heap.size w2 w3 := ((Below.refl _ _).alloc (Nat.le_refl _) _).grown hg3 (by simp) (fun j hj => by injection hj with hj; omega); have HG3 := Lib.hid ((HG.out.below HB2.out).below hb3); have HB3 := Lib.hid (HB.out.trans ((HB2.out.trans (hb3.mono HB2.out.size)).mono HB.out.size)); have HN3 := Lib.hid hn3'; have q0 : w3.cell? ⟨w2.heap.size, 0, none⟩ = some (.int .u8 p.d) := hn3'.cell 0; have q1 : w3.cell? ⟨w2.heap.size, 1, none⟩ = some (.int .i64 p.row) := hn3'.cell 1; have q2 : w3.cell? ⟨w2.heap.size, 2, none⟩ = some (.int .i64 p.col) := hn3'.cell 2; have q3 : w3.cell? ⟨w2.heap.size, 3, none⟩ = some (.string ⟨p.s.toArray⟩) := hn3'.cell 3; have q4 : w3.cell? ⟨w2.heap.size, 4, none⟩ = some (.int .i64 p.cols) := hn3'.cell 4; have q10 : w3.cell? ⟨w2.heap.size, 10, none⟩ = some (.int .i64 p.z) := hn3'.cell 10; have q11 : w3.cell? ⟨w2.heap.size, 11, none⟩ = some (.int .i64 p.n) := hn3'.cell 11; clear hn3 hn3' hg3 hb3)
            | (go_at_call 27; refine (erase_any HG3.out (HT.out.below HB3.out HT.out.2) HT.out.2 p.row p.col p.z HOK2.out.c0 HOK2.out.c1).mono ?_; rintro e w4 ⟨rfl, hg4, hc4⟩; have HG4 := Lib.hid hg4; have HC4 := Lib.hid hc4; clear hg4 hc4))
          exact ⟨⟨k + 1, rb', bs', by go_num, by omega, by omega, by rw [HFO.out, hfin.out]; exact HG4.out, HB3.out.trans (HC4.out.below HB3.out.size (fun j hj => HG3.out.lo j hj))⟩, by simp only [intOf]; omega⟩
        · have e6 : (p.d % 10 == 6) = false := by simp [m6]
          by_cases m7 : p.d % 10 = 7
          · have e7 : (p.d % 10 == 7) = true := by simp [m7]
            have hfin : Hid (fillO L p = scrollM 12 L p.n) := by show _ = _; unfold fillO; rw [if_neg m5, if_neg m6, if_pos m7]
            clear m5 m6 m7
            go_wp2_with (first
              | ((with_reducible refine at_dst 32 ?_); refine wpList_load_mid rfl _ _ rfl ab (off + k * 12) rfl o.cells _ HRG.out Tryd.underlying36 rfl op_size ?_)
              | (go_at_call 10; refine (HFW.out wr).mono ?_; rintro e w2 ⟨rfl, hb2⟩; have HB2 := Lib.hid hb2; have hN : Blk (w2.alloc (.cells ozero.cells.toArray 36)) w2.heap.size 36 ozero.cells := Blk.new _ _ _; have HN2 := Lib.hid hN; clear hb2 hN)
              | ((with_reducible refine at_store 6 ?_); refine wpList_store_blk rfl _ _ _ rfl rfl w2.heap.size 0 _ ozero.cells p.cells rfl rfl HN2.out (by simp [OpV.len]) op_size p.one ?_; intro w3 hn3 hg3; have hn3' : Blk w3 w2.heap.size 36 p.cells := hn3; have hb3 : Below w2.heap.size w2 w3 := ((Below.refl _ _).alloc (Nat.le_refl _) _).grown hg3 (by simp) (fun j hj => by injection hj with hj; omega); have HG3 := Lib.hid ((HG.out.below HB2.out).below hb3); have HB3 := Lib.hid (HB.out.trans ((HB2.out.trans (hb3.mono HB2.out.size)).mono HB.out.size)); have HN3 := Lib.hid hn3'; have q0 : w3.cell? ⟨w2.heap.size, 0, none⟩ = some (.int .u8 p.d) := hn3'.cell 0; have q1 : w3.cell? ⟨w2.heap.size, 1, none⟩ = some (.int .i64 p.row) := hn3'.cell 1; have q2 : w3.cell? ⟨w2.heap.size, 2, none⟩ = some (.int .i64 p.col) := hn3'.cell 2; have q3 : w3.cell? ⟨w2.heap.size, 3, none⟩ = some (.string ⟨p.s.toArray⟩) := hn3'.cell 3; have q4 : w3.cell? ⟨w2.heap.size, 4, none⟩ = some (.int .i64 p.cols) := hn3'.cell 4; have q10 : w3.cell? ⟨w2.heap.size, 10, none⟩ = some (.int .i64 p.z) := hn3'.cell 10; have q11 : w3.cell? ⟨w2.heap.size, 11, none⟩ = some (.int .i64 p.n) := hn3'.cell 11; clear hn3 hn3' hg3 hb3)
              | (go_at_call 14; refine (scroll_ok HG3.out (HT.out.below HB3.out HT.out.2) HT.out.2 HB3.out.size p.n HOK2.out.n0 HOK2.out.n1).mono ?_; rintro e w4 ⟨rfl, bs4, hg4, _, hc4⟩; have HG4 := Lib.hid hg4; have HC4 := Lib.hid hc4; clear hg4 hc4))
            exact ⟨⟨k + 1, rb', bs4, by go_num, by omega, by omega, by rw [HFO.out, hfin.out]; exact HG4.out, HB3.out.trans (HC4.out.below HB3.out.size (fun j hj => HG3.out.lo j hj))⟩, by simp only [intOf]; omega⟩
          · have e7 : (p.d % 10 == 7) = false := by simp [m7]
            have hfin : Hid (fillO L p = (putM 12 L p.row p.col p.s p.cols p.y).1) := by show _ = _; unfold fillO; rw [if_neg m5, if_neg m6, if_neg m7]
            clear m5 m6 m7
            go_wp2_with (first
              | ((with_reducible refine at_dst 32 ?_); refine wpList_load_mid rfl _ _ rfl ab (off + k * 12) rfl o.cells _ HRG.out Tryd.underlying36 rfl op_size ?_)
              | (go_at_call 10; refine (HFW.out wr).mono ?_; rintro e w2 ⟨rfl, hb2⟩; have HB2 := Lib.hid hb2; have hN : Blk (w2.alloc (.cells ozero.cells.toArray 36)) w2.heap.size 36 ozero.cells := Blk.new _ _ _; have HN2 := Lib.hid hN; clear hb2 hN)
              | ((with_reducible refine at_store 6 ?_); refine wpList_store_blk rfl _ _ _ rfl rfl w2.heap.size 0 _ ozero.cells p.cells rfl rfl HN2.out (by simp [OpV.len]) op_size p.one ?_; intro w3 hn3 hg3; have hn3' : Blk w3 w2.heap.size 36 p.cells := hn3; have hb3 : Below w2.heap.size w2 w3 := ((Below.refl _ _).alloc (Nat.le_refl _) _).grown hg3 (by simp) (fun j hj => by injection hj with hj; omega); have HG3 := Lib.hid ((HG.out.below HB2.out).below hb3); have HB3 := Lib.hid (HB.out.trans ((HB2.out.trans (hb3.mono HB2.out.size)).mono HB.out.size)); have HN3 := Lib.hid hn3'; have q0 : w3.cell? ⟨w2.heap.size, 0, none⟩ = some (.int .u8 p.d) := hn3'.cell 0; have q1 : w3.cell? ⟨w2.heap.size, 1, none⟩ = some (.int .i64 p.row) := hn3'.cell 1; have q2 : w3.cell? ⟨w2.heap.size, 2, none⟩ = some (.int .i64 p.col) := hn3'.cell 2; have q3 : w3.cell? ⟨w2.heap.size, 3, none⟩ = some (.string ⟨p.s.toArray⟩) := hn3'.cell 3; have q4 : w3.cell? ⟨w2.heap.size, 4, none⟩ = some (.int .i64 p.cols) := hn3'.cell 4; have q10 : w3.cell? ⟨w2.heap.size, 10, none⟩ = some (.int .i64 p.z) := hn3'.cell 10; have q11 : w3.cell? ⟨w2.heap.size, 11, none⟩ = some (.int .i64 p.n) := hn3'.cell 11; clear hn3 hn3' hg3 hb3)
              | ((with_reducible refine at_dst 47 ?_); refine wpList_load_mid rfl _ _ rfl w2.heap.size 5 rfl p.y.cells _ (HN3.out.range 5 p.y.cells (fun j v hv => by
                  have hj : j < 5 := (List.getElem?_eq_some_iff.1 hv).1
                  match j, hj with
                  | 0, _ => exact hv
                  | 1, _ => exact hv
                  | 2, _ => exact hv
                  | 3, _ => exact hv
                  | 4, _ => exact hv)) Tryd.underlying34 rfl sty_size ?_)
              | (go_at_call 13; refine (put_any HG3.out (HT.out.below HB3.out HT.out.2) HT.out.2 p.row p.col p.s p.cols p.y (by omega)).mono ?_; rintro e w4 ⟨rfl, hg4, hc4⟩; have HG4 := Lib.hid hg4; have HC4 := Lib.hid hc4; clear hg4 hc4))
            exact ⟨⟨k + 1, rb', bs', by go_num, by omega, by omega, by rw [HFO.out, hfin.out]; exact HG4.out, HB3.out.trans (HC4.out.below HB3.out.size (fun j hj => HG3.out.lo j hj))⟩, by simp only [intOf]; omega⟩
    · have hend : (l.take k).foldl (fun L o => fillO L (fewM o)) (blankG 12 4) = fillS l := by
        unfold fillS
        by_cases h30 : k = 30
        · rw [h30]
        · rw [List.take_of_length_le (by have := HN.out; omega), List.take_of_length_le (by have := HN.out; omega)]
      have HEND := Lib.hid hend
      clear hend
      by_cases hkn : k < n
      · have hki : (k : Int) < n := by omega
        have hki3 : ¬ (k : Int) < 30 := by omega
        go_wp2
        go_ret
        exact ⟨g, rb', bs', rfl, by rw [← HEND.out]; exact HG.out, HB.out⟩
      · have hki : ¬ (k : Int) < n := by omega
        go_wp2
        go_ret
        exact ⟨g, rb', bs', rfl, by rw [← HEND.out]; exact HG.out, HB.out⟩
end Go.Proofs.YtijbimofigkdkaaDoor
