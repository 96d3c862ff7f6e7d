/-
  Walks: firstBracketed, first.
-/
import Derived.Test.YteolafeeggjblaaDoorKnSeq
import Derived.Test.YteolafeeggjblaaDoorKnFirst
namespace Go.Proofs.YteolafeeggjblaaDoor
open Go.RowKit Go.Sort
set_option linter.unusedVariables false
set_option linter.unusedSimpArgs false

theorem kcells {w : World} {g : Nat} (h : Blk w g 40 Kv.no.cells) : w.cell? ⟨g, 0, none⟩ = some (.int .i64 0) ∧ w.cell? ⟨g, 1, none⟩ = some (.string ⟨#[]⟩) ∧ w.cell? ⟨g, 2, none⟩ = some (.int .i64 0) ∧ w.cell? ⟨g, 3, none⟩ = some (.bool false) ∧ w.cell? ⟨g, 4, none⟩ = some (.bool false) ∧ w.cell? ⟨g, 5, none⟩ = some (.bool false) :=
  ⟨h.cell 0, h.cell 1, h.cell 2, h.cell 3, h.cell 4, h.cell 5⟩
theorem kfroz {w : World} {g : Nat} (h : Blk w g 40 Kv.no.cells) : w.frozen? ⟨g, 0, none⟩ = false ∧ w.frozen? ⟨g, 1, none⟩ = false ∧ w.frozen? ⟨g, 2, none⟩ = false ∧ w.frozen? ⟨g, 3, none⟩ = false ∧ w.frozen? ⟨g, 4, none⟩ = false ∧ w.frozen? ⟨g, 5, none⟩ = false :=
  ⟨h.frozen 0, h.frozen 1, h.frozen 2, h.frozen 3, h.frozen 4, h.frozen 5⟩
abbrev six (w : World) (g : Nat) (K : Kv) : World := (((((w.setCell ⟨g, 0, none⟩ (.int .i64 K.c)).setCell ⟨g, 1, none⟩ (.string ⟨K.s.toArray⟩)).setCell ⟨g, 2, none⟩ (.int .i64 K.n)).setCell ⟨g, 3, none⟩ (.bool K.a)).setCell ⟨g, 4, none⟩ (.bool K.h)).setCell ⟨g, 5, none⟩ (.bool K.t)
theorem ksix {w : World} {g : Nat} (h : Blk w g 40 Kv.no.cells) (K : Kv) : Blk (six w g K) g 40 K.cells :=
  (((((h.set_ 0 (.int .i64 K.c)).set_ 1 (.string ⟨K.s.toArray⟩)).set_ 2 (.int .i64 K.n)).set_ 3 (.bool K.a)).set_ 4 (.bool K.h)).set_ 5 (.bool K.t)
theorem ksixb {B : Nat} {w w1 : World} (h : Below B w w1) (K : Kv) : Below B w (six w1 B K) :=
  (((((h.setCell (p := ⟨B, 0, none⟩) (Nat.le_refl _) _).setCell (p := ⟨B, 1, none⟩) (Nat.le_refl _) _).setCell (p := ⟨B, 2, none⟩) (Nat.le_refl _) _).setCell (p := ⟨B, 3, none⟩) (Nat.le_refl _) _).setCell (p := ⟨B, 4, none⟩) (Nat.le_refl _) _).setCell (p := ⟨B, 5, none⟩) (Nat.le_refl _) _
theorem inK_par : inK 48 63 = kPar := rfl
theorem inK_mid : inK 32 47 = kMid := rfl
theorem br_wait {s : List UInt8} (h : midK s = s.length) (h2 : s.length < 32) : brK s = (Kv.no, 0) := by
  unfold brK; rw [h, List.getElem?_eq_none (Nat.le_refl _)]; simp only; rw [if_pos h2]
theorem br_over {s : List UInt8} (h : midK s = s.length) (h2 : ¬ s.length < 32) : brK s = (Kv.no, midK s) := by
  unfold brK; rw [h, List.getElem?_eq_none (Nat.le_refl _)]; simp only; rw [if_neg h2]
theorem br_fin {s : List UInt8} (h : midK s < s.length) (hf : kFin s[midK s] = true) : brK s = (seqK ((s.take (midK s)).drop 2) s[midK s], midK s + 1) := by
  unfold brK; rw [List.getElem?_eq_getElem h]; simp only; rw [if_pos hf]
theorem br_not {s : List UInt8} (h : midK s < s.length) (hf : kFin s[midK s] = false) : brK s = (Kv.no, midK s) := by
  unfold brK; rw [List.getElem?_eq_getElem h]; simp only; rw [if_neg (by rw [hf]; decide)]

set_option maxRecDepth 100000 in
set_option maxHeartbeats 8000000 in
theorem bracket_any (s : List UInt8) (h2 : 2 ≤ s.length) (hl : s.length ≤ 100000) (w : World) :
    Calls Tryd.prog 51 #[.string ⟨s.toArray⟩] w fun e w' => e = fEnd (brK s) ∧ Below w.heap.size w w' := by
  have hb1 := beh_le s 2 h2 kPar
  have hb2 := beh_le s (behK s 2 kPar) hb1.2 kMid
  have HQ1 := Lib.hid (fun w => behind_any s (by omega) 2 h2 48 63 w)
  have HQ2 := Lib.hid (fun w => behind_any s (by omega) (behK s 2 kPar) hb1.2 32 47 w)
  rw [inK_par] at HQ1
  rw [inK_mid] at HQ2
  rw [show (((48 : UInt8).toNat : Nat) : Int) = 48 from rfl, show (((63 : UInt8).toNat : Nat) : Int) = 63 from rfl] at HQ1
  rw [show (((32 : UInt8).toNat : Nat) : Int) = 32 from rfl, show (((47 : UInt8).toNat : Nat) : Int) = 47 from rfl] at HQ2
  obtain ⟨m, hm⟩ : ∃ m, m = midK s := ⟨_, rfl⟩
  rw [show behK s (behK s 2 kPar) kMid = m from hm.symm] at HQ2 hb2
  generalize behK s 2 kPar = m1 at HQ1 HQ2 hb1 hb2
  obtain ⟨b, hb⟩ : ∃ b : ByteArray, b = ⟨s.toArray⟩ := ⟨_, rfl⟩
  have hsz : b.size = s.length := by rw [hb]; simp [ByteArray.size]
  have HG := Lib.hid (show ∀ (k : Nat) (hk : k < s.length) (h : k < b.size), b[k] = s[k] by intro k hk h; subst hb; rfl)
  have HX := Lib.hid (show b.extract 2 m = ⟨((s.take m).drop 2).toArray⟩ by rw [hb]; apply ByteArray.ext; simp [ByteArray.data_extract, List.drop_take])
  rw [← hb] at HQ1 HQ2 ⊢
  clear hb
  have hm2 : 2 ≤ m := by omega
  have hms : m ≤ s.length := hb2.2
  obtain ⟨W0, HW0, HB0, HZ⟩ := kzero w
  by_cases hlt : m < s.length
  · have hbm : m < b.size := by rw [hsz]; exact hlt
    have hg := HG.out m hlt hbm
    have HF1 : Hid (kFin s[m] = true → brK s = (seqK ((s.take m).drop 2) s[m], m + 1)) := Lib.hid (by subst hm; exact br_fin hlt)
    have HF2 : Hid (kFin s[m] = false → brK s = (Kv.no, m)) := Lib.hid (by subst hm; exact br_not hlt)
    have HSQ := Lib.hid (sequence_any ((s.take m).drop 2) s[m] (by rw [List.length_drop, List.length_take]; omega))
    generalize s[m] = c at hg HF1 HF2 HSQ
    generalize seqK ((s.take m).drop 2) c = K at HF1 HSQ
    have hne : ((m : Int) == (b.size : Int)) = false := by simp; omega
    have hne2 : ((m : Int) == (s.length : Int)) = false := by simp; omega
    have hlt' : (m : Int) < (b.size : Int) := by omega
    clear HG hm hb1 hb2
    cases hf : kFin c with
    | true =>
      have HE := Lib.hid (HF1.out hf)
      rw [HE.out]
      have HF := Lib.hid hf
      have hx := HX.out
      rw [← HX.out] at HSQ
      clear hf hx
      go_enter Tryd.func51, Tryd.ntmps51
      go_upto_region 1 with fail
      rw [← HW0.out]
      clear HW0
      go_upto_region 2 with (go_at_call 63; refine (HQ1.out _).mono ?_; rintro e w1 ⟨rfl, rfl⟩)
      go_upto_region 3 with (go_at_call 63; refine (HQ2.out _).mono ?_; rintro e w1 ⟨rfl, rfl⟩)
      clear HQ1 HQ2
      go_wp2_with (first
        | (go_at_call 64; refine (isFinal_any _ _).mono ?_; rintro e w1 ⟨rfl, rfl⟩; rw [HF.out]))
      have hmi : (m : Int) + 1 ≤ 100001 := by omega
      have hge : (2 : Int) ≤ (m : Int) := by omega
      have wr : IntKind.i64.wrap ((m : Int) + 1) = (m : Int) + 1 := IntWalk.i64_in _ (by omega)
      clear HE
      have HSX : Hid (∀ W, Blk W w.heap.size 40 Kv.no.cells → Below w.heap.size w W → Calls Tryd.prog 65 #[.string (b.extract 2 m), .int .u8 c.toNat] W fun e w' => e = .returned (.agg #[.int .i64 K.c, .string ⟨K.s.toArray⟩, .int .i64 K.n, .bool K.a, .bool K.h, .bool K.t]) ∧ Blk w' w.heap.size 40 Kv.no.cells ∧ Below w.heap.size w w') :=
        Lib.hid (fun W hW hb => (HSQ.out W).mono fun e w' ⟨he, h1⟩ => ⟨he, hW.below h1 hW.lt, kstep hb h1⟩)
      clear HSQ HX
      go_region_held (fun w' => True) (exact trivial) (first | (go_at_call 65; refine (HSX.out _ HZ.out.drew HB0.out.drew).mono ?_; rintro e w1 ⟨rfl, hz1, hb1⟩; have HZ1 := Lib.hid hz1; have HB1 := Lib.hid hb1; obtain ⟨r0, r1, r2, r3, r4, r5⟩ := kcells hz1; obtain ⟨f0, f1, f2, f3, f4, f5⟩ := kfroz hz1; clear hz1 hb1))
      all_goals
        go_wp2_with (fail)
        exact bodyPost_ret (v := .tuple #[K.agg, .int .i64 ((m : Int) + 1)]) (kresults_ct rfl rfl rfl (kwhole (ksix HZ1.out K)) Tryd.underlying40 rfl kv_size) rfl ⟨rfl, ksixb HB1.out K⟩
    | false =>
      have HE := Lib.hid (HF2.out hf)
      rw [HE.out]
      have HF := Lib.hid hf
      clear hf HX HSQ HF1 HF2 HE HZ HB0 HW0
      go_enter Tryd.func51, Tryd.ntmps51
      go_upto_region 2 with (go_at_call 63; refine (HQ1.out _).mono ?_; rintro e w1 ⟨rfl, rfl⟩)
      go_upto_region 3 with (go_at_call 63; refine (HQ2.out _).mono ?_; rintro e w1 ⟨rfl, rfl⟩)
      clear HQ1 HQ2
      go_wp2_with (go_at_call 64; refine (isFinal_any _ _).mono ?_; rintro e w1 ⟨rfl, rfl⟩; rw [HF.out])
      refine bodyPost_ret (v := .tuple #[Kv.no.agg, .int .i64 m]) ?_ rfl ⟨rfl, kbel _ _⟩
      simp [results, Tryd.results51, go_sem]; rfl
  · have hml : m = s.length := by omega
    have HE1 : Hid (s.length < 32 → brK s = (Kv.no, 0)) := Lib.hid (fun h => br_wait (by rw [← hm, hml]) h)
    have HE2 : Hid (¬ s.length < 32 → brK s = (Kv.no, m)) := Lib.hid (fun h => by rw [br_over (by rw [← hm, hml]) h, hm])
    clear hm hb1 hb2 HG HX
    subst hml
    by_cases h32 : s.length < 32
    · rw [HE1.out h32]
      have h32' : (s.length : Int) < 32 := by omega
      clear HE1 HE2 HZ HB0 HW0
      go_enter Tryd.func51, Tryd.ntmps51
      go_upto_region 2 with (go_at_call 63; refine (HQ1.out _).mono ?_; rintro e w1 ⟨rfl, rfl⟩)
      go_upto_region 3 with (go_at_call 63; refine (HQ2.out _).mono ?_; rintro e w1 ⟨rfl, rfl⟩)
      clear HQ1 HQ2
      go_wp2_with (fail)
      refine bodyPost_ret (v := .tuple #[Kv.no.agg, .int .i64 0]) ?_ rfl ⟨rfl, kbel _ _⟩
      simp [results, Tryd.results51, go_sem]; rfl
    · rw [HE2.out h32]
      have h32' : ¬ (s.length : Int) < 32 := by omega
      clear HE1 HE2 HZ HB0 HW0
      go_enter Tryd.func51, Tryd.ntmps51
      go_upto_region 2 with (go_at_call 63; refine (HQ1.out _).mono ?_; rintro e w1 ⟨rfl, rfl⟩)
      go_upto_region 3 with (go_at_call 63; refine (HQ2.out _).mono ?_; rintro e w1 ⟨rfl, rfl⟩)
      clear HQ1 HQ2
      go_wp2_with (fail)
      refine bodyPost_ret (v := .tuple #[Kv.no.agg, .int .i64 s.length]) ?_ rfl ⟨rfl, kbel _ _⟩
      simp [results, Tryd.results51, go_sem]; rfl
end Go.Proofs.YteolafeeggjblaaDoor
