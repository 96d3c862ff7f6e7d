/-
  Walks: the laws' awake.
-/
import Derived.Test.YteolafeeggjblaaDoorKnSame
import Derived.Test.YteolafeeggjblaaDoorKnNobo
import Derived.Test.YteolafeeggjblaaDoorKnName
import Derived.Lib.SlBytesConst
namespace Go.Proofs.YteolafeeggjblaaDoor
open Go.RowKit
set_option linter.unusedVariables false
set_option linter.unusedSimpArgs false

theorem run_eqs_none (a : Addr) (w : World) : Sem.run Tryd.prog (binOp .eql 24 (.pointer (some a)) (.pointer none)) w = .ok (.bool false) w := by
  have h : ∀ d : Nat, (Op.equalIn (d + 1) 24 (.pointer (some a)) (.pointer none)).run Tryd.prog w = .ok false w := fun d => by
    simp [Op.equalIn, run_underlying Tryd.underlying24]
  simp only [binOp]
  simp [Op.equal, Op.maxDepth, h 9999]
theorem namesT_lt {w : World} (h : NamesT w) : 0 < w.heap.size := cell_lt' (h 0 (by omega))
theorem namesT_same {w w' : World} (h : NamesT w) (hs : w'.heap[0]? = w.heap[0]?) : NamesT w' := fun i hi => (World.cell?_of_block (w := w) (a := ⟨0, i, none⟩) hs).trans (h i hi)
theorem namesT_below {w w' : World} {B : Nat} (h : NamesT w) (hb : Below B w w') (hB : w.heap.size ≤ B) : NamesT w' := namesT_same h (hb.block _ (by have := namesT_lt h; omega))
theorem byl_mark (w : World) (l : List UInt8) (t : TypeId) (fr : Nat × Nat) : ByL (w.alloc (.cells (bv l).toArray t fr)) (some ⟨w.heap.size, 0, none⟩) l := by
  refine .inr ⟨w.heap.size, 0, rfl, fun j hj => ?_⟩
  rw [Nat.zero_add, World.cell?_alloc_mark]
  simp [bv, hj]
def exB : List UInt8 := [27, 91, 49, 59, 53, 67, 27]
def exK : Kv := { Kv.no with c := 11, t := true }
theorem ex_feed : feedK ⟨[], none⟩ exB = (⟨[27], none⟩, [exK]) := by decide +kernel

set_option maxRecDepth 100000 in
set_option maxHeartbeats 4000000 in
theorem kawake_any (w : World) (hT : NamesT w) :
    Calls Tryd.prog 11 #[] w fun e w' => e = .returned (.bool true) ∧ Below w.heap.size w w' := by
  have HT := Lib.hid hT
  have hg := namesT_lt hT
  have he := run_eqs_none
  have kcv := fun (w : World) (C : Array Value) (n c : Nat) => Lib.run_convert_bytes_const (P := Tryd.prog) w 22 5 C n c Tryd.underlying22 Tryd.underlying5
  clear hT
  go_enter Tryd.func11, Tryd.ntmps11
  go_upto_region 4 with (go_at_call 7; refine (dnew_any _).mono ?_; rintro e w1 ⟨rfl, hd1, hb1⟩; have HD1 := Lib.hid hd1; have HB1 := Lib.hid hb1; clear hd1 hb1)
  clear he
  have hz1 := HB1.out.size
  have hlt1 := HD1.out.lt
  have hd2 : DAt (w1.alloc (.cells (bv exB).toArray 5 (7, 8))) w.heap.size (one w.heap.size) ⟨[], none⟩ := ⟨rfl, fun j hj => by rw [show j = w.heap.size from hj]; simp; omega, HD1.out.alloc _⟩
  have HF := Lib.hid (feed_any w.heap.size (one w.heap.size) ⟨[], none⟩ (some ⟨w1.heap.size, 0, none⟩) 7 7 exB _ rfl (by decide) hd2 (byl_mark w1 exB 5 (7, 8)) (fun g hg h => by
    have e1 : w1.heap.size = g := by simpa [blA, exB, blk] using hg
    have e2 : g = w.heap.size := h
    omega))
  rw [ex_feed] at HF
  clear hd2
  go_upto_region 5 with (go_at_call 8; refine HF.out.mono ?_; rintro e w3 ⟨v, O', rfl, hk, hd3, hO3, hc3⟩; obtain ⟨A1, n1, c1, rfl, rfl, hs1, hn1, hlo1⟩ := hk; have hd3b : DBlk w3 w.heap.size [27] (.pointer none) := hd3.2.2; have HD3 := Lib.hid hd3b; have HC3 := Lib.hid hc3; have HS1 := Lib.hid hs1; have HL1 := Lib.hid hlo1; clear hd3 hO3 hc3 hs1 hlo1 hd3b hn1)
  have hbel3 : Below w.heap.size w w3 := by
    have h1 := HC3.out
    refine (HB1.out.alloc hz1 _).trans (h1.below (by simp; omega) (fun j hj => by rw [show j = w.heap.size from hj]; exact Nat.le_refl _))
  have HBEL3 := Lib.hid hbel3
  clear HF hbel3
  go_upto_region 6 with (go_at_call 14; refine (tick_no w.heap.size [27] w3 (by decide) HD3.out).mono ?_; rintro e w4 ⟨v4, rfl, hk4, hd4, hc4⟩; obtain ⟨A4, n4, c4, rfl, rfl, hs4, hn4⟩ := hk4; have HS4 := Lib.hid hs4; have HD4 := Lib.hid hd4; have HC4 := Lib.hid hc4; clear hs4 hd4 hc4 hn4)
  have hS1 : Sl w4 w4.heap.size A1 ([exK].flatMap Kv.cells) := (HC4.out.sl HS1.out (Nat.le_refl _) (fun g off e h => by
    have h1 := (HL1.out g (by rw [e]; rfl)).1
    have h2 : g = w.heap.size := h
    simp at h1
    omega)).more HC4.out.size
  have hbel4 : Below w.heap.size w w4 := HBEL3.out.trans (HC4.out.below (HBEL3.out.size) (fun j hj => by rw [show j = w.heap.size from hj]; exact Nat.le_refl _))
  have HN4 := Lib.hid (namesT_below HT.out hbel4 (Nat.le_refl _))
  have HS14 := Lib.hid hS1
  have HBEL4 := Lib.hid hbel4
  clear hS1 hbel4 HS1 HL1 HC3 HC4 HD3 HBEL3 HB1 HD1
  have hS4 : Sl w4 w4.heap.size A4 ([kc 5].flatMap Kv.cells) := HS4.out
  have HS44 := Lib.hid hS4
  obtain ⟨b, off, rfl, hb, hcell⟩ := HS14.out.open_ (by decide)
  have HCELL := Lib.hid hcell
  have HNM : Hid (∀ W, NamesT W → Calls Tryd.prog 17 #[.agg #[.int .i64 11, .string ⟨#[]⟩, .int .i64 0, .bool false, .bool false, .bool true]] W fun e w' => e = .returned (.string ⟨#[99, 116, 108, 45, 114, 105, 103, 104, 116]⟩) ∧ Below W.heap.size W w') := Lib.hid (fun W hW => by
    have h := name_any exK (by decide) W hW
    rw [show nameK exK = [99, 116, 108, 45, 114, 105, 103, 104, 116] by decide +kernel] at h
    exact h.mono (fun e w' h => by first | exact h | exact ⟨h.1, by rw [← h.2]; exact Below.refl _ _⟩))
  clear hS4 hcell HS4 kcv
  have tok1 : True := trivial
  go_wp2_with (first
    | (go_at_call 9; have _t := tok1; refine (rsame_any [exK] [exK] 1 1 (some ⟨b, off, none⟩) (some ⟨w4.heap.size, 0, none⟩) c1 1 _ rfl rfl (by omega) (by omega) w4.heap.size (w4.heap.size + 1) (HS14.out.alloc (Nat.le_refl _) _) (Sl.new w4 _ _) (by simp) (by simp)).mono ?_; rintro e w5 ⟨rfl, hb5⟩; have HB5 := Lib.hid ((kbel w4 _).trans (hb5.mono (by simp))); clear hb5 _t tok1)
    | (go_at_call 9; refine (rsame_any [kc 5] [kc 5] 1 1 A4 (some ⟨w5.heap.size, 0, none⟩) c4 1 _ rfl rfl (by omega) (by omega) w4.heap.size (w5.heap.size + 1) ((HS44.out.below HB5.out).alloc HB5.out.size _) (Sl.new w5 _ _) (by have := HB5.out.size; simp; omega) (by simp)).mono ?_; rintro e w6 ⟨rfl, hb6⟩; have hb7 : Below w4.heap.size w4 w6 := HB5.out.trans (((kbel w5 _).trans (hb6.mono (by simp))).mono HB5.out.size); have HB6 := Lib.hid hb7; have x0 : w6.cell? ⟨b, off, none⟩ = some (.int .i64 11) := (hb7.cell (p := ⟨b, off, none⟩) hb).trans (HCELL.out 0 _ rfl); have x1 : w6.cell? ⟨b, off + 1, none⟩ = some (.string ⟨#[]⟩) := (hb7.cell (p := ⟨b, off + 1, none⟩) hb).trans (HCELL.out 1 _ rfl); have x2 : w6.cell? ⟨b, off + 2, none⟩ = some (.int .i64 0) := (hb7.cell (p := ⟨b, off + 2, none⟩) hb).trans (HCELL.out 2 _ rfl); have x3 : w6.cell? ⟨b, off + 3, none⟩ = some (.bool false) := (hb7.cell (p := ⟨b, off + 3, none⟩) hb).trans (HCELL.out 3 _ rfl); have x4 : w6.cell? ⟨b, off + 4, none⟩ = some (.bool false) := (hb7.cell (p := ⟨b, off + 4, none⟩) hb).trans (HCELL.out 4 _ rfl); have x5 : w6.cell? ⟨b, off + 5, none⟩ = some (.bool true) := (hb7.cell (p := ⟨b, off + 5, none⟩) hb).trans (HCELL.out 5 _ rfl); clear hb6 hb7)
    | (go_at_call 10; refine (waits_no w.heap.size [] _ (HD4.out.below HB6.out HD4.out.lt)).mono ?_; rintro e w7 ⟨rfl, rfl⟩)
    | (go_at_call 17; refine (HNM.out _ (namesT_below HN4.out HB6.out (Nat.le_refl _))).mono ?_; rintro e w8 ⟨rfl, hb8⟩; have HB8 := Lib.hid hb8; clear hb8))
  go_ret
  exact ⟨rfl, (HBEL4.out.trans (HB6.out.mono HBEL4.out.size)).trans (HB8.out.mono (by have := HBEL4.out.size; have := HB6.out.size; omega))⟩
end Go.Proofs.YteolafeeggjblaaDoor
