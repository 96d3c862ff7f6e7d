/-
  Calls as the laws take them; walk: few.
-/
import Derived.Test.YtijbimofigkdkaaDoorGrMem
import Derived.Deep.RegionHeld3
import Derived.Deep.DeepCutAuto
import Derived.BigRegion
namespace Go.Proofs.YtijbimofigkdkaaDoor
open Go.RowKit
set_option linter.unusedVariables false
set_option linter.unusedSimpArgs false

structure OpV where
  d : Int
  row : Int
  col : Int
  s : List UInt8
  cols : Int
  y : Sty
  z : Int
  n : Int
def OpV.cells (o : OpV) : List Value := [.int .u8 o.d, .int .i64 o.row, .int .i64 o.col, .string ⟨o.s.toArray⟩, .int .i64 o.cols, .bool o.y.b, .bool o.y.u, .bool o.y.i, .int .i64 o.y.f, .int .i64 o.y.g, .int .i64 o.z, .int .i64 o.n]
theorem OpV.len (o : OpV) : o.cells.length = 12 := rfl
theorem OpV.one (o : OpV) : ∀ v ∈ o.cells, v.oneCell' = true := by
  intro v hv
  simp [OpV.cells] at hv
  rcases hv with rfl | rfl | rfl | rfl | rfl | rfl | rfl | rfl | rfl | rfl | rfl | rfl <;> rfl
def ozero : OpV := ⟨0, 0, 0, [], 0, Sty.zero, 0, 0⟩
theorem op_size : (Tryd.prog.info? 36).map (·.size) = some 12 := by kernel_rfl
/-- what few makes of a call -/
def fewM (o : OpV) : OpV := { o with s := o.s.take 70, z := if o.d % 10 = 8 ∧ 20 < o.z ∧ o.z ≤ 500 then 1 + o.z % 20 else o.z, n := if o.d % 10 = 8 ∧ 40 < o.n ∧ o.n ≤ 500 then 1 + o.n % 40 else o.n }
theorem ext70 (l : List UInt8) : (⟨l.toArray⟩ : ByteArray).extract 0 70 = ⟨(l.take 70).toArray⟩ := by
  apply ByteArray.ext
  simp [ByteArray.data_extract]

theorem Blk.whole {w : World} {g : Nat} {t : TypeId} {cs : List Value} (h : Blk w g t cs) : w.rangeAt g 0 cs := h.range 0 cs (fun j v hv => by rw [Nat.zero_add]; exact hv)
theorem set_one {l : List Value} {i : Nat} {u : Value} (h : ∀ v ∈ l, v.oneCell' = true) (hu : u.oneCell' = true) : ∀ v ∈ l.set i u, v.oneCell' = true := fun v hv => by
  rcases List.mem_or_eq_of_mem_set hv with h1 | h1
  · exact h v h1
  · rw [h1]; exact hu

set_option maxRecDepth 100000 in
set_option maxHeartbeats 8000000 in
theorem few_core (o : OpV) (h0 : 0 ≤ o.d) (h1 : o.d ≤ 255) (hs : o.s.length ≤ 9223372036854775807) (hn : -9223372036854775808 ≤ o.n) (hz : -9223372036854775808 ≤ o.z) (s' : List UInt8) (n' z' : Int)
    (hA : (70 < o.s.length ∧ s' = o.s.take 70) ∨ (o.s.length ≤ 70 ∧ s' = o.s))
    (hB : (o.d % 10 ≠ 8 ∧ n' = o.n ∧ z' = o.z) ∨ (o.d % 10 = 8 ∧ ((40 < o.n ∧ o.n ≤ 500 ∧ n' = 1 + o.n % 40) ∨ (o.n ≤ 40 ∧ n' = o.n) ∨ (40 < o.n ∧ 500 < o.n ∧ n' = o.n)) ∧ ((20 < o.z ∧ o.z ≤ 500 ∧ z' = 1 + o.z % 20) ∨ (o.z ≤ 20 ∧ z' = o.z) ∨ (20 < o.z ∧ 500 < o.z ∧ z' = o.z)))) (w : World) :
    Calls Tryd.prog 10 #[.agg o.cells.toArray] w fun e w' => e = .returned (.agg ({ o with s := s', z := z', n := n' } : OpV).cells.toArray) ∧ Below w.heap.size w w' := by
  have hsz : (⟨o.s.toArray⟩ : ByteArray).size = o.s.length := by show o.s.toArray.size = _; simp
  have HSZ := Lib.hid hsz
  have hbx : Blk ((w.alloc (.cells o.cells.toArray 36)).alloc (.cells ozero.cells.toArray 36)) w.heap.size 36 o.cells := (Blk.new w _ _).alloc _
  have hrs : Blk ((w.alloc (.cells o.cells.toArray 36)).alloc (.cells ozero.cells.toArray 36)) (w.heap.size + 1) 36 ozero.cells := by
    have := Blk.new (w.alloc (.cells o.cells.toArray 36)) 36 ozero.cells
    simpa using this
  have hbe : Below w.heap.size w ((w.alloc (.cells o.cells.toArray 36)).alloc (.cells ozero.cells.toArray 36)) := ((Below.refl _ _).alloc (Nat.le_refl _) _).alloc (by simp) _
  have HB := Lib.hid hbx
  have HR := Lib.hid hrs
  have HE' := Lib.hid hbe
  have HA := Lib.hid hA
  have HBB := Lib.hid hB
  clear hsz hbx hrs hbe hA hB
  go_enter Tryd.func10, Tryd.ntmps10
  go_upto_region 0 with fail
  go_cut [1, 2] (fun s1 s2 wx => s1 = .pointer (some ⟨w.heap.size, 0, none⟩) ∧ s2 = .pointer (some ⟨w.heap.size + 1, 0, none⟩) ∧ Blk wx w.heap.size 36 o.cells ∧ Blk wx (w.heap.size + 1) 36 ozero.cells ∧ Below w.heap.size w wx)
  case first =>
    go_wp2_with fail
    go_meet
    exact ⟨rfl, rfl, HB.out, HR.out, HE'.out⟩
  case rest =>
    obtain ⟨rfl, rfl, hb, hr, he⟩ := hcut
    have c0 : wc.cell? ⟨w.heap.size, 0, none⟩ = some (.int .u8 o.d) := hb.cell 0
    have c3 : wc.cell? ⟨w.heap.size, 3, none⟩ = some (.string ⟨o.s.toArray⟩) := hb.cell 3
    have c10 : wc.cell? ⟨w.heap.size, 10, none⟩ = some (.int .i64 o.z) := hb.cell 10
    have c11 : wc.cell? ⟨w.heap.size, 11, none⟩ = some (.int .i64 o.n) := hb.cell 11
    have HBk := Lib.hid hb
    have HRk := Lib.hid hr
    have HEk := Lib.hid he
    clear hb hr he HB HR HE'
    rcases HA.out with ⟨ha, rfl⟩ | ⟨ha, rfl⟩ <;> rcases HBB.out with ⟨hd, rfl, rfl⟩ | ⟨hd, (⟨hn1, hn2, rfl⟩ | ⟨hn1, rfl⟩ | ⟨hn1, hn2, rfl⟩), (⟨hz1, hz2, rfl⟩ | ⟨hz1, rfl⟩ | ⟨hz1, hz2, rfl⟩)⟩
    all_goals
      have ha' : (70 : Int) < (o.s.length : Int) ∨ (o.s.length : Int) ≤ 70 := by omega
      clear HA HBB
      first
        | (have hq : (70 : Int) < (o.s.length : Int) := (by omega); clear ha ha')
        | (have hq : (o.s.length : Int) ≤ 70 := (by omega); clear ha ha')
      first
        | (have hd8 : (o.d % 10 == 8) = true := (by simp; omega); clear hd)
        | (have hd8 : (o.d % 10 == 8) = false := (by simp; omega); clear hd)
      go_wp2_with (first
        | ((with_reducible refine at_store 10 ?_); refine wpList_store_cell rfl _ _ _ rfl rfl w.heap.size 3 _ _ (.string ((⟨o.s.toArray⟩ : ByteArray).extract 0 70)) rfl rfl HBk.out (by simp [OpV.cells]) (by kernel_rfl) rfl ?_; intro w2 hn2 hg2; rw [ext70] at hn2; have HR2 := Lib.hid (HRk.out.chg (chg_of_grown hg2) (by simp [one])); have HE2 := Lib.hid (HEk.out.grown hg2 HEk.out.size (fun j hj => by injection hj with hj; omega)); clear HBk HRk HEk c0 c3 c10 c11; have HBk := Lib.hid hn2; have HRk := Lib.hid HR2.out; have HEk := Lib.hid HE2.out; clear HR2 HE2 hg2; have c0 : w2.cell? ⟨w.heap.size, 0, none⟩ = some (.int .u8 o.d) := hn2.cell 0; have c10 : w2.cell? ⟨w.heap.size, 10, none⟩ = some (.int .i64 o.z) := hn2.cell 10; have c11 : w2.cell? ⟨w.heap.size, 11, none⟩ = some (.int .i64 o.n) := hn2.cell 11; clear hn2)
        | ((with_reducible refine at_store 27 ?_); refine wpList_store_cell rfl _ _ _ rfl rfl w.heap.size 11 _ _ (.int .i64 (1 + o.n % 40)) rfl rfl HBk.out (by simp [OpV.cells]) (by kernel_rfl) rfl ?_; intro w2 hn2 hg2; have HR2 := Lib.hid (HRk.out.chg (chg_of_grown hg2) (by simp [one])); have HE2 := Lib.hid (HEk.out.grown hg2 HEk.out.size (fun j hj => by injection hj with hj; omega)); clear HBk HRk HEk c10 c11; have HBk := Lib.hid hn2; have HRk := Lib.hid HR2.out; have HEk := Lib.hid HE2.out; clear HR2 HE2 hg2; have c10 : w2.cell? ⟨w.heap.size, 10, none⟩ = some (.int .i64 o.z) := hn2.cell 10; clear hn2)
        | ((with_reducible refine at_store 40 ?_); refine wpList_store_cell rfl _ _ _ rfl rfl w.heap.size 10 _ _ (.int .i64 (1 + o.z % 20)) rfl rfl HBk.out (by simp [OpV.cells]) (by kernel_rfl) rfl ?_; intro w2 hn2 hg2; have HR2 := Lib.hid (HRk.out.chg (chg_of_grown hg2) (by simp [one])); have HE2 := Lib.hid (HEk.out.grown hg2 HEk.out.size (fun j hj => by injection hj with hj; omega)); clear HBk HRk HEk c10; have HBk := Lib.hid hn2; have HRk := Lib.hid HR2.out; have HEk := Lib.hid HE2.out; clear HR2 HE2 hg2; clear hn2)
        | ((with_reducible refine at_dst 41 ?_); refine wpList_load_mid rfl _ _ rfl w.heap.size 0 rfl _ _ HBk.out.whole Tryd.underlying36 rfl op_size ?_)
        | ((with_reducible refine at_store 2 ?_); refine wpList_store_blk rfl _ _ _ rfl rfl (w.heap.size + 1) 0 _ ozero.cells _ rfl rfl HRk.out (by simp [OpV.cells]) op_size (by first | exact OpV.one o | exact set_one (OpV.one o) rfl | exact set_one (set_one (OpV.one o) rfl) rfl | exact set_one (set_one (set_one (OpV.one o) rfl) rfl) rfl) ?_; intro w9 hn9 hg9))
      refine bodyPost_ret (results_c rfl rfl (Blk.whole hn9) Tryd.underlying36 rfl op_size) rfl ⟨rfl, HEk.out.grown hg9 HEk.out.size (fun j hj => by injection hj with hj; omega)⟩
end Go.Proofs.YtijbimofigkdkaaDoor
