/-
  Walks: the reference's e, Num, By, Column, place, Mode, Erase.
-/
import Derived.Test.YtclkclamdnkdgaaDoorEsFns
import Derived.Deep.RegionHeld3
import Derived.Deep.QuietTactic
import Derived.BigQuiet
namespace Go.Proofs.YtclkclamdnkdgaaDoor
open Go.RowKit
set_option linter.unusedVariables false
set_option linter.unusedSimpArgs false

theorem conv_new (w : World) (l : List UInt8) (n c : Nat) (hn : n = l.length) : Sem.run Tryd.prog (Go.convert 45 9 (.slice (some ⟨w.heap.size, 0, none⟩) n c)) (w.alloc (.cells (bv l).toArray 5)) = .ok (.string ⟨l.toArray⟩) (w.alloc (.cells (bv l).toArray 5)) :=
  run_str_sl _ (w.heap.size + 1) _ n c l (by have := Sl.new w (bv l).toArray 5; simpa using this) hn

theorem e_any (w : World) :
    Calls Tryd.prog 32 #[] w fun e w' => e = .returned (.string ⟨([27, 91] : List UInt8).toArray⟩) ∧ Below w.heap.size w w' := by
  have hcv := conv_new w [27, 91] 2 2 rfl
  rw [show (bv [27, 91]).toArray = #[.int .u8 27, .int .u8 91] from rfl] at hcv
  go_enter Tryd.func32, Tryd.ntmps32
  go_wp2
  go_ret
  exact ⟨rfl, (Below.refl _ _).alloc (Nat.le_refl _) _⟩

theorem conv_bel (X w' : World) (b : Nat) (c : UInt8) (v : Int) (hv : (c.toNat : Int) = v) (hc : X.cell? ⟨b, 0, none⟩ = some (.int .u8 v)) (hlt : b < X.heap.size) (hb : Below X.heap.size X w') : Sem.run Tryd.prog (Go.convert 45 9 (.slice (some ⟨b, 0, none⟩) 1 1)) w' = .ok (.string ⟨[c].toArray⟩) w' := by
  refine run_str_sl _ X.heap.size _ 1 1 [c] (.inr ⟨b, 0, rfl, hlt, fun j u hu => ?_⟩) rfl
  match j, hu with
  | 0, hu =>
    have e : u = .int .u8 v := by
      have : some (Value.int .u8 (c.toNat : Int)) = some u := hu
      rw [hv] at this
      injection this with this
      exact this.symm
    rw [e, Nat.zero_add]
    exact (hb.cell (p := ⟨b, 0, none⟩) hlt).trans hc

theorem below_via {w X w1 : World} (hb : Below X.heap.size X w1) (hx : Below w.heap.size w X) : Below w.heap.size w w1 := hx.trans (hb.mono hx.size)

theorem dec_small (u : Nat) (h : u < 10) : Lib.itoa (u : Int) = [UInt8.ofNat (48 + u)] := by
  unfold Lib.itoa
  rw [if_neg (by omega), Int.toNat_natCast, Lib.decDigits_one h]
theorem dec_big (u : Nat) (h : ¬ u < 10) : Lib.itoa (u : Int) = Lib.itoa ((u / 10 : Nat) : Int) ++ [UInt8.ofNat (48 + u % 10)] := by
  unfold Lib.itoa
  rw [if_neg (by omega), if_neg (by omega), Int.toNat_natCast, Int.toNat_natCast, Lib.decDigits, dif_neg h]
theorem dig_val (u : Nat) (h : u < 10) : ((UInt8.ofNat (48 + u)).toNat : Int) = 48 + u := by
  have : ∀ k : Fin 10, (UInt8.ofNat (48 + k.val)).toNat = 48 + k.val := by decide
  have := this ⟨u, h⟩
  simp only at this
  omega

set_option maxRecDepth 100000 in
set_option maxHeartbeats 4000000 in
theorem num_any : ∀ (u : Nat), u ≤ 10000 → ∀ w : World,
    Calls Tryd.prog 33 #[.int .i64 u] w fun e w' => e = .returned (.string ⟨(Lib.itoa u).toArray⟩) ∧ Below w.heap.size w w' := by
  intro u
  induction u using Nat.strongRecOn with
  | _ u ih =>
    intro hu w
    by_cases h : u < 10
    · have hi : (u : Int) < 10 := by omega
      have HE := Lib.hid (dec_small u h)
      have hd := dig_val u h
      generalize UInt8.ofNat (48 + u) = c at HE hd
      have hcv := conv_new w [c] 1 1 rfl
      have hbv : (bv [c]).toArray = #[.int .u8 (48 + u)] := by rw [← hd]; rfl
      rw [hbv] at hcv
      clear hbv hd ih
      go_enter Tryd.func33, Tryd.ntmps33
      go_wp2
      go_ret
      exact ⟨ret_str (by rw [HE.out]), (Below.refl _ _).alloc (Nat.le_refl _) _⟩
    · have hi : ¬ (u : Int) < 10 := by omega
      have HE := Lib.hid (dec_big u h)
      have IH := Lib.hid (ih (u / 10) (by omega) (by omega))
      have hd := dig_val (u % 10) (by omega)
      generalize UInt8.ofNat (48 + u % 10) = c at HE hd
      have hil := Lib.itoa_length_le ((u / 10 : Nat) : Int) (by omega) (by omega)
      have hq : (u : Int) / 10 = ((u / 10 : Nat) : Int) := by omega
      have hr : (u : Int) % 10 = ((u % 10 : Nat) : Int) := by omega
      have hr10 : u % 10 < 10 := by omega
      generalize u / 10 = q at IH HE hq hil
      generalize Lib.itoa (q : Int) = d at IH HE hil
      generalize u % 10 = r at hd HE hr hr10
      clear ih h
      have hbv : (bv [c]).toArray = #[.int .u8 (48 + r)] := by rw [← hd]; rfl
      have hcv : ∀ (w' : World) (b : Nat), w'.heap.size = b → Sem.run Tryd.prog (Go.convert 45 9 (.slice (some ⟨b, 0, none⟩) 1 1)) (w'.alloc (.cells (bv [c]).toArray 5)) = .ok (.string ⟨[c].toArray⟩) (w'.alloc (.cells (bv [c]).toArray 5)) := fun w' b hb => hb ▸ conv_new w' [c] 1 1 rfl
      have hcd : ∀ (w' : World) (b : Nat), w'.heap.size = b → Sem.run Tryd.prog (Go.convert 45 9 (.slice (some ⟨b, 0, none⟩) 1 1)) (w'.alloc (.cells (bv [c]).toArray 5)).drew = .ok (.string ⟨[c].toArray⟩) (w'.alloc (.cells (bv [c]).toArray 5)).drew := fun w' b hb => hb ▸ run_str_sl _ (w'.heap.size + 1) _ 1 1 [c] (by have := (Sl.new w' (bv [c]).toArray 5).drew; simpa using this) rfl
      rw [hbv] at hcv hcd
      have HCB := Lib.hid (fun X w' hb b hc hlt => conv_bel X w' b c _ hd hc hlt hb)
      have hw1 : IntKind.i64.wrap (q : Int) = q := IntWalk.i64_in _ (by omega)
      have hw2 : (u : Int).tmod 10 = r := by rw [Int.tmod_eq_emod_of_nonneg (by omega)]; exact hr
      have hw3 : IntKind.i64.wrap (48 + (r : Int)) = 48 + r := IntWalk.i64_in _ (by omega)
      have hw4 : IntKind.u8.wrap (48 + (r : Int)) = 48 + r := IntWalk.u8_in _ (by omega)
      clear hbv hd
      go_enter Tryd.func33, Tryd.ntmps33
      go_wp2_with (fail)
      go_region_with ((refine (IH.out _).mono ?_; rintro e w1 ⟨rfl, hb1⟩; have hcv1 := HCB.out _ _ hb1 w.heap.size))
      all_goals go_wp2
      all_goals go_ret
      all_goals refine ⟨ret_str (by rw [HE.out, ← es_add]), ?_⟩
      · exact (below_via hb1 (below_drewN (Below.refl _ _) 1)).alloc (by have := hb1.size; simpa using this) _
      all_goals first
        | exact below_via hb1 (((Below.refl _ _).alloc (Nat.le_refl _) _).drew)
        | exact below_via hb1 ((Below.refl _ _).drew.alloc (Nat.le_refl _) _)
        | exact (below_via hb1 (((Below.refl _ _).alloc (Nat.le_refl _) _).drew.drew))
        | (rename_i hb2; exact below_via hb2 (((Below.refl _ _).alloc (Nat.le_refl _) _).drew))
        | (rename_i hb2 _ _; exact below_via hb2 (((Below.refl _ _).alloc (Nat.le_refl _) _).drew))
        | trace_state

theorem itoa_pos_len (n : Int) (h0 : 0 ≤ n) (h1 : n ≤ 10000) : (Lib.itoa n).length ≤ 21 := Lib.itoa_length_le n (by omega) (by omega)

set_option maxHeartbeats 1000000 in
theorem by_any (n : Int) (c : UInt8) (w : World) :
    Calls Tryd.prog 8 #[.int .i64 n, .string ⟨#[c]⟩] w fun e w' => e = .returned (.string ⟨(stepB n c).toArray⟩) ∧ Below w.heap.size w w' := by
  by_cases h : n < 1
  · have HE := Lib.hid (show stepB n c = [] from if_pos h)
    go_enter Tryd.func8, Tryd.ntmps8
    go_wp2
    go_ret
    exact ⟨ret_str (by rw [HE.out]), Below.refl _ _⟩
  · have he : stepB n c = [27, 91] ++ Lib.itoa (min n 9999) ++ [c] := by unfold stepB seqB; rw [if_neg h, joinG_one]; simp
    obtain ⟨u, hu⟩ : ∃ u : Nat, min n 9999 = u := ⟨(min n 9999).toNat, by omega⟩
    rw [hu] at he
    have HN := Lib.hid (num_any u (by omega))
    have hl := itoa_pos_len u (by omega) (by omega)
    have HE := Lib.hid he
    generalize Lib.itoa (u : Int) = d at HN hl HE
    clear he
    go_enter Tryd.func8, Tryd.ntmps8
    go_wp2_with (fail)
    refine (e_any _).mono ?_
    rintro e w1 ⟨rfl, hb1⟩
    have HB1 := Lib.hid hb1
    clear hb1
    go_wp2_with (fail)
    refine (HN.out _).mono ?_
    rintro e w2 ⟨rfl, hb2⟩
    have HB2 := Lib.hid hb2
    clear hb2 hu
    go_wp2
    go_ret
    exact ⟨ret_str (by rw [HE.out, ← es_add, ← es_add]), HB1.out.trans (HB2.out.mono HB1.out.size)⟩

theorem colB_by (n : Int) (h : ¬ n < 0) : stepB (min n 9998 + 1) 71 = colB n := by
  unfold stepB colB
  rw [if_neg (by omega), if_neg h, show min (min n 9998 + 1) 9999 = min n 9998 + 1 by omega]
theorem rcol_any (n : Int) (hn : i64b n) (w : World) :
    Calls Tryd.prog 13 #[.int .i64 n] w fun e w' => e = .returned (.string ⟨(colB n).toArray⟩) ∧ Below w.heap.size w w' := by
  obtain ⟨hn0, hn1⟩ := hn
  by_cases h : n < 0
  · have HE := Lib.hid (show colB n = [] from if_pos h)
    go_enter Tryd.func13, Tryd.ntmps13
    go_wp2
    go_ret
    exact ⟨ret_str (by rw [HE.out]), Below.refl _ _⟩
  · have HE := Lib.hid (colB_by n h)
    have hm0 : 0 ≤ min n 9998 := by omega
    have hm1 : min n 9998 ≤ 9998 := by omega
    go_enter Tryd.func13, Tryd.ntmps13
    go_wp2_with (fail)
    refine (by_any _ 71 _).mono ?_
    rintro e w1 ⟨rfl, hb1⟩
    go_wp2
    go_ret
    exact ⟨ret_str (by rw [HE.out]), hb1⟩

theorem rplace_any (n : Int) (w : World) :
    Calls Tryd.prog 38 #[.int .i64 n] w fun e w' => e = .returned (.int .i64 (plc n)) ∧ w = w' := by
  have HE := Lib.hid (plc_ref n)
  go_enter Tryd.func38, Tryd.ntmps38
  go_wp2
  go_ret
  exact ⟨ret_int (by rw [← HE.out]), rfl⟩

theorem rmode_any (l : List UInt8) (hl : l.length ≤ 10) (on : Bool) (w : World) :
    Calls Tryd.prog 23 #[.string ⟨l.toArray⟩, .bool on] w fun e w' => e = .returned (.string ⟨([27, 91, 63] ++ l ++ [if on = true then 104 else 108]).toArray⟩) ∧ Below w.heap.size w w' := by
  cases on
  all_goals
    go_enter Tryd.func23, Tryd.ntmps23
    go_wp2_with (fail)
    refine (e_any _).mono ?_
    rintro e w1 ⟨rfl, hb1⟩
    go_wp2
    go_ret
    exact ⟨ret_str (by apply ByteArray.ext; simp [ByteArray.data_append]), hb1⟩

theorem rerase_any (c : UInt8) (w : World) :
    Calls Tryd.prog 22 #[.string ⟨#[c]⟩] w fun e w' => e = .returned (.string ⟨([27, 91, c] : List UInt8).toArray⟩) ∧ Below w.heap.size w w' := by
  go_enter Tryd.func22, Tryd.ntmps22
  go_wp2_with (fail)
  refine (e_any _).mono ?_
  rintro e w1 ⟨rfl, hb1⟩
  go_wp2
  go_ret
  exact ⟨ret_str (by apply ByteArray.ext; simp [ByteArray.data_append]), hb1⟩
end Go.Proofs.YtclkclamdnkdgaaDoor
