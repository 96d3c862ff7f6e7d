/-
  The document's builder as it lies in memory; walks: Colours, New, Cursor.
-/
import Derived.Test.YtipglbpmpcoidaaGreatDoorFrFns
import Derived.Test.YtipglbpmpcoidaaGreatDoorGfP
namespace Go.Proofs.YtipglbpmpcoidaaGreatDoor
open Go.RowKit
set_option linter.unusedVariables false
set_option linter.unusedSimpArgs false

def rbC (W H : Nat) (A : Option Addr) (c : Nat) (row col : Int) (sn : Bool) : List Value := [.int .i64 W, .int .i64 H, .slice A H c, .int .i64 row, .int .i64 col, .bool sn]
theorem rbC_one (W H : Nat) (A : Option Addr) (c : Nat) (row col : Int) (sn : Bool) : ∀ v ∈ rbC W H A c row col sn, v.oneCell' = true := by
  intro v hv
  simp [rbC] at hv
  rcases hv with rfl | rfl | rfl | rfl | rfl | rfl <;> rfl
def rbZ : List Value := [.int .i64 0, .int .i64 0, .slice none 0 0, .int .i64 0, .int .i64 0, .bool false]
theorem rb_size : (Tryz.prog.info? 31).map (·.size) = some 6 := by kernel_rfl
theorem rg_size3 : (Tryz.prog.info? 29).map (·.size) = some 3 := by kernel_rfl
/-- The document's builder, as a value. -/
def RbV (w : World) (D : Nat → Prop) (V : Value) (W : Nat) (L : List (List Cl)) (row col : Int) (sn : Bool) : Prop := ∃ A c, V = .agg (rbC W L.length A c row col sn).toArray ∧ RfAt w D A c L
theorem RbV.below {w w' : World} {D : Nat → Prop} {V : Value} {W : Nat} {L : List (List Cl)} {row col : Int} {sn : Bool} (h : RbV w D V W L row col sn) (hb : Below w.heap.size w w') : RbV w' D V W L row col sn := by
  obtain ⟨A, c, h1, h2⟩ := h
  exact ⟨A, c, h1, h2.below hb⟩
theorem range_all {w : World} {g : Nat} {t : TypeId} {cs : List Value} (h : Blk w g t cs) : w.rangeAt g 0 cs := h.range 0 cs (fun j v hv => by simpa using hv)

set_option maxHeartbeats 1000000 in
theorem rcolours_any (y : Sty) (w : World) : Calls Tryz.prog 29 #[.agg y.cells.toArray] w fun e w' => e = .returned (.bool (styB y)) ∧ Below w.heap.size w w' := by
  obtain ⟨b, u, i, f, g⟩ := y
  simp only [Sty.cells]
  go_enter Tryz.func29, Tryz.ntmps29
  go_wp2
  all_goals
    go_ret
    exact ⟨ret_bool (by unfold styB; rw [Bool.eq_iff_iff]; simp; try omega), (Below.refl _ w).alloc (Nat.le_refl _) _⟩

set_option maxRecDepth 100000 in
set_option maxHeartbeats 4000000 in
theorem rbnew_no (a b : Int) (hbad : fsizeB a b = false) (w : World) :
    Calls Tryz.prog 5 #[.int .i64 a, .int .i64 b] w fun e w' => e = .returned (.tuple #[.agg rbZ.toArray, .int .i64 90]) ∧ Below w.heap.size w w' := by
  have hb : a < 1 ∨ 500 < a ∨ b < 1 ∨ 60 < b := by
    unfold fsizeB at hbad
    simp only [decide_eq_false_iff_not] at hbad
    omega
  have HN0 := Lib.hid (Blk.new w 31 rbZ)
  have hz : ∀ v ∈ rbZ, v.oneCell' = true := rbC_one 0 0 none 0 0 0 false
  have HZ := Lib.hid hz
  clear hbad hz
  by_cases h1 : a < 1
  all_goals by_cases h2 : 500 < a
  all_goals by_cases h3 : b < 1
  all_goals by_cases h4 : 60 < b
  all_goals first
    | (exfalso; omega)
    | (clear hb
       go_enter Tryz.func5, Tryz.ntmps5
       go_wp2_with ((with_reducible refine at_store 4 ?_); refine wpList_store_blk rfl _ _ _ rfl rfl w.heap.size 0 _ rbZ rbZ rfl rfl HN0.out (by decide) rb_size HZ.out ?_; intro w5 hn5 hg5)
       have hn6 : Blk w5 w.heap.size 31 rbZ := hn5
       refine bodyPost_ret (results_ct rfl rfl rfl (range_all hn6) Tryz.underlying31 rfl rb_size) rfl ⟨rfl, ?_⟩
       exact ((Below.refl _ w).alloc (Nat.le_refl _) _).grown hg5 (by simp) (fun k hk => by injection hk with hk; omega))
set_option maxRecDepth 100000 in
set_option maxHeartbeats 4000000 in
theorem rbnew_ok (W H : Nat) (w1 : 1 ≤ W) (hw5 : W ≤ 500) (h1 : 1 ≤ H) (h6 : H ≤ 60) (w : World) :
    Calls Tryz.prog 5 #[.int .i64 W, .int .i64 H] w fun e w' => ∃ V, e = .returned (.tuple #[V, .int .i64 0]) ∧ RbV w' (fun b => w.heap.size ≤ b) V W (blankG W H) 0 0 false ∧ Below w.heap.size w w' := by
  have hb0 : Below w.heap.size w (w.alloc (.cells rbZ.toArray 31)) := (Below.refl _ w).alloc (Nat.le_refl _) _
  have HN := Lib.hid (rnew_ok W H w1 hw5 h1 (by omega) (w.alloc (.cells rbZ.toArray 31)))
  have HN0 := Lib.hid (Blk.new w 31 rbZ)
  have HB0 := Lib.hid hb0
  have hlen : (blankG W H).length = H := by simp [blankG]
  have HL := Lib.hid hlen
  have i1 : ¬ (W : Int) < 1 := by omega
  have i2 : ¬ (500 : Int) < W := by omega
  have i3 : ¬ (H : Int) < 1 := by omega
  have i4 : ¬ (60 : Int) < H := by omega
  clear hb0 hlen
  go_enter Tryz.func5, Tryz.ntmps5
  go_wp2_with (fail)
  refine HN.out.mono ?_
  rintro e w2 ⟨V, rfl, ⟨A, c, rfl, hrf⟩, hb2⟩
  rw [HL.out]
  have HRF := Lib.hid hrf
  have HB2 := Lib.hid (HB0.out.trans (hb2.mono HB0.out.size))
  have HR2 := Lib.hid (HN0.out.below hb2 HN0.out.lt)
  clear hrf hb2
  have hb23 : Below w2.heap.size w2 (w2.alloc (.cells #[.int .i64 W, .int .i64 H, .slice A H c] 29)) := (Below.refl _ w2).alloc (Nat.le_refl _) _
  have HB3 := Lib.hid hb23
  have HR3 := Lib.hid (HR2.out.below hb23 HR2.out.lt)
  clear hb23
  simp only [rgC]
  go_wp2_with ((with_reducible refine at_store 4 ?_); refine wpList_store_blk rfl _ _ _ rfl rfl w.heap.size 0 _ rbZ (rbC W H A c 0 0 false) rfl rfl HR3.out (by simp [rbC, rbZ]) rb_size (rbC_one W H A c 0 0 false) ?_; intro wz hn5 hg5)
  have hn6 : Blk wz w.heap.size 31 (rbC W H A c 0 0 false) := hn5
  have hc5 := chg_of_grown hg5
  refine bodyPost_ret (results_ct rfl rfl rfl (range_all hn6) Tryz.underlying31 rfl rb_size) rfl ⟨_, rfl, ⟨A, c, by rw [HL.out], ?_⟩, ?_⟩
  · refine ((HRF.out.below HB3.out).chg hc5 (fun b _ hb e => ?_)).mono (fun b _ hb => by simp at hb; omega)
    have e' : b = w.heap.size := e
    simp at hb
    omega
  · exact (HB2.out.trans (HB3.out.mono HB2.out.size)).grown hg5 (by have := HB2.out.size; have := HB3.out.size; omega) (fun k hk => by injection hk with hk; omega)
set_option maxRecDepth 100000 in
set_option maxHeartbeats 8000000 in
theorem rbcursor_any {w : World} {D : Nat → Prop} {A : Option Addr} {c W : Nat} {L : List (List Cl)} (h : RfAt w D A c L) (r0 c0 : Int) (sn : Bool) (row col : Int) (seen : Bool) :
    Calls Tryz.prog 12 #[.agg (rbC W L.length A c r0 c0 sn).toArray, .int .i64 row, .int .i64 col, .bool seen] w fun e w' => ∃ V, e = .returned (.tuple #[V, .int .i64 (if (fwithB row L.length && fwithB col W) = true then 0 else 5)]) ∧
      RbV w' D V W L (if (fwithB row L.length && fwithB col W) = true then row else r0) (if (fwithB row L.length && fwithB col W) = true then col else c0) (if (fwithB row L.length && fwithB col W) = true then seen else sn) ∧ Below w.heap.size w w' := by
  have hlat : ∀ w', Below w.heap.size w w' → RfAt w' D A c L := fun w' hb => h.below hb
  have HLAT := Lib.hid hlat
  unfold RbV
  generalize L.length = H at *
  obtain ⟨v, hv⟩ : ∃ v, v = (fwithB row H && fwithB col W) := ⟨_, rfl⟩
  rw [← hv]
  have hvt : v = true → 0 ≤ row ∧ row < H ∧ 0 ≤ col ∧ col < W := by
    intro e
    rw [e] at hv
    unfold fwithB at hv
    simp at hv
    omega
  have hvf : v = false → row < 0 ∨ H ≤ row ∨ col < 0 ∨ W ≤ col := by
    intro e
    rw [e] at hv
    unfold fwithB at hv
    have := hv.symm
    simp only [Bool.and_eq_false_iff, decide_eq_false_iff_not] at this
    omega
  simp only [rbC]
  clear h hlat hv
  cases v
  · have hc := hvf rfl
    clear hvt hvf
    by_cases a1 : row < 0
    all_goals by_cases a2 : (H : Int) ≤ row
    all_goals by_cases a3 : col < 0
    all_goals by_cases a4 : (W : Int) ≤ col
    all_goals first
      | (exfalso; omega)
      | (clear hc
         go_enter Tryz.func12, Tryz.ntmps12
         go_wp2
         refine bodyPost_ret (v := .tuple #[.agg #[.int .i64 W, .int .i64 H, .slice A H c, .int .i64 r0, .int .i64 c0, .bool sn], .int .i64 5]) (by simp [results, Tryz.results12, go_sem]) rfl ?_
         have hb : Below w.heap.size w ((w.alloc (.cells #[.int .i64 W, .int .i64 H, .slice A H c, .int .i64 r0, .int .i64 c0, .bool sn] 31)).alloc (.cells #[.int .i64 W, .int .i64 H, .slice A H c, .int .i64 r0, .int .i64 c0, .bool sn] 31)) := ((Below.refl _ w).alloc (Nat.le_refl _) _).alloc (by simp) _
         exact ⟨_, rfl, ⟨A, c, rfl, HLAT.out _ hb⟩, hb⟩)
  · obtain ⟨a1, a2, a3, a4⟩ := hvt rfl
    have b1 : ¬ row < 0 := by omega
    have b2 : ¬ (H : Int) ≤ row := by omega
    have b3 : ¬ col < 0 := by omega
    have b4 : ¬ (W : Int) ≤ col := by omega
    clear hvt hvf
    go_enter Tryz.func12, Tryz.ntmps12
    go_wp2
    refine bodyPost_ret (v := .tuple #[.agg #[.int .i64 W, .int .i64 H, .slice A H c, .int .i64 row, .int .i64 col, .bool seen], .int .i64 0]) (by simp [results, Tryz.results12, go_sem]) rfl ?_
    have hb : Below w.heap.size w ((w.alloc (.cells #[.int .i64 W, .int .i64 H, .slice A H c, .int .i64 row, .int .i64 col, .bool seen] 31)).alloc (.cells #[.int .i64 W, .int .i64 H, .slice A H c, .int .i64 row, .int .i64 col, .bool seen] 31)) := ((Below.refl _ w).alloc (Nat.le_refl _) _).alloc (by simp) _
    exact ⟨_, rfl, ⟨A, c, rfl, HLAT.out _ hb⟩, hb⟩
end Go.Proofs.YtipglbpmpcoidaaGreatDoor
