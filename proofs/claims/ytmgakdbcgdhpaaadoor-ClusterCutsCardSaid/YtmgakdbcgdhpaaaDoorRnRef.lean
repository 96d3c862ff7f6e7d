/-
  Walks: the reference's length, number, tails, begins, Next.
-/
import Derived.Test.YtmgakdbcgdhpaaaDoorRnHead
import Derived.Test.YtmgakdbcgdhpaaaDoorRnBytes
import Derived.Test.YtmgakdbcgdhpaaaDoorRnRefM
namespace Go.Proofs.YtmgakdbcgdhpaaaDoor
open Go.RowKit
set_option linter.unusedVariables false

set_option maxHeartbeats 400000 in
theorem length_any (c : Int) (w : World) (h0 : 0 ≤ c) (h1 : c < 256) :
    Calls Tryd.prog 74 #[.int .u8 c] w fun e w' => e = .returned (.int .i64 (hsz c)) ∧ w = w' := by
  have hcase : c < 128 ∨ (128 ≤ c ∧ c < 194) ∨ (194 ≤ c ∧ c < 224) ∨ (224 ≤ c ∧ c < 240) ∨ (240 ≤ c ∧ c < 245) ∨ 245 ≤ c := by omega
  rcases hcase with h | h | h | h | h | h
  all_goals
    go_enter Tryd.func74, Tryd.ntmps74
    go_wp2
    go_ret
    exact ⟨ret_int (by unfold hsz; (repeat' split) <;> omega), rfl⟩

theorem okT_take {t : List UInt8} {j : Nat} (h : j < t.length) : okT (t.take (j + 1)) = (okT (t.take j) && decide (128 ≤ t[j].toNat ∧ t[j].toNat ≤ 191)) := by
  rw [List.take_succ_eq_append_getElem h]; simp only [okT, List.all_append, List.all_cons, List.all_nil, Bool.and_true]
theorem okT_false {t : List UInt8} {j : Nat} (h : j < t.length) (hb : ¬ (128 ≤ (t[j].toNat : Int) ∧ (t[j].toNat : Int) ≤ 191)) : okT t = false := by
  rw [← List.take_append_drop (j + 1) t]
  have := okT_take h
  simp only [okT, List.all_append] at *
  rw [this]
  have e : decide (128 ≤ t[j].toNat ∧ t[j].toNat ≤ 191) = false := by simp; omega
  rw [e]; simp

set_option maxHeartbeats 400000 in
theorem tails_any (A : Option Addr) (n cap : Nat) (c : UInt8) (t : List UInt8) (B : Nat) (w : World) (hn : n = t.length + 1) (hm : t.length < 9000000000000000000) (hS : Sl w B A (bv (c :: t))) :
    Calls Tryd.prog 78 #[.slice A n cap] w fun e w' => e = .returned (.bool (okT t)) ∧ w = w' := by
  subst hn
  obtain ⟨b, off, rfl, _, hcell⟩ := hS.open_ (by simp [bv_length])
  have Hcell := Lib.hid hcell
  clear hcell hS
  go_enter Tryd.func78, Tryd.ntmps78
  go_wp2
  go_loop [3] (fun i => ∃ j : Nat, i = .int .i64 ((j : Int) + 1) ∧ j ≤ t.length ∧ okT (t.take j) = true) (fun i => t.length + 1 - (intOf i).toNat)
  case atStart => exact ⟨0, rfl, by omega, rfl⟩
  case round =>
    obtain ⟨j, rfl, hj, ho⟩ := hrel
    have HO := Lib.hid ho
    clear ho
    by_cases hlen : j < t.length
    · have hx := Hcell.out (j + 1) _ (by rw [bv_get (by simp; omega)])
      simp only [List.getElem_cons_succ] at hx
      have hxu := u8c t[j]
      have hin : (j : Int) + 1 < (t.length : Int) + 1 := by omega
      have hstep := Lib.hid (okT_take hlen)
      have hfal := Lib.hid (okT_false hlen)
      generalize hxv : t[j] = x at hx hxu hstep hfal
      clear hxv
      by_cases h1 : (x.toNat : Int) < 128
      · go_wp2
        go_ret
        exact ⟨ret_bool (hfal.out (by omega)).symm, rfl⟩
      · by_cases h2 : 191 < (x.toNat : Int)
        · go_wp2
          go_ret
          exact ⟨ret_bool (hfal.out (by omega)).symm, rfl⟩
        · have hd : decide (128 ≤ x.toNat ∧ x.toNat ≤ 191) = true := by simp; omega
          have HD := Lib.hid hd
          clear hd
          go_wp2
          go_round
          case rel => exact ⟨j + 1, by go_num, by omega, by rw [hstep.out, HO.out, HD.out]; rfl⟩
          case measure => simp [intOf]; omega
    · have hge : ¬ (j : Int) + 1 < (t.length : Int) + 1 := by omega
      have e : t.take j = t := List.take_of_length_le (by omega)
      have E := Lib.hid e
      clear e
      go_wp2
      go_ret
      exact ⟨ret_bool (by rw [← HO.out, E.out]), rfl⟩

theorem numT_take {t : List UInt8} {j : Nat} (h : Int) (hj : j < t.length) : numT h (t.take (j + 1)) = numT h (t.take j) * 64 + (t[j].toNat : Int) % 64 := by
  rw [List.take_succ_eq_append_getElem hj]; simp only [numT, List.foldl_append, List.foldl_cons, List.foldl_nil]
theorem numT_bd (h : Int) (h0 : -240 ≤ h) (h1 : h ≤ 255) (t : List UInt8) (ht : t.length ≤ 2) : -1000000 ≤ numT h t ∧ numT h t ≤ 2000000 := by
  match t, ht with
  | [], _ => simp [numT]; omega
  | [a], _ => have := u8c a; simp [numT]; omega
  | [a, b], _ => have := u8c a; have := u8c b; simp [numT]; omega

set_option maxHeartbeats 1000000 in
theorem number_any (A : Option Addr) (n cap : Nat) (c : UInt8) (t : List UInt8) (B : Nat) (w : World) (hn : n = t.length + 1) (hm : t.length ≤ 3) (hS : Sl w B A (bv (c :: t))) (hB : B ≤ w.heap.size) :
    Calls Tryd.prog 76 #[.slice A n cap] w fun e w' => e = .returned (.int .i32 (num (c :: t))) ∧ Below w.heap.size w w' := by
  subst hn
  obtain ⟨b, off, rfl, hbB, hcell⟩ := hS.open_ (by simp [bv_length])
  have hc0 : w.cell? ⟨b, off, none⟩ = some (.int .u8 c.toNat) := hcell 0 _ rfl
  have hcu := u8c c
  have Hcell := Lib.hid hcell
  have hbw : b < w.heap.size := by omega
  have hold : ∀ o i, (w.alloc o).cell? ⟨b, i, none⟩ = w.cell? ⟨b, i, none⟩ := fun o i => World.cell?_alloc_lt w o _ hbw
  clear hcell hS
  have ht : t.length = 0 ∨ t.length = 1 ∨ t.length = 2 ∨ t.length = 3 := by omega
  rcases ht with ht | ht | ht | ht
  · have e := List.eq_nil_of_length_eq_zero ht
    subst e
    clear ht hm
    go_enter Tryd.func76, Tryd.ntmps76
    go_wp2
    go_ret
    exact ⟨rfl, (Below.refl _ _).alloc (Nat.le_refl _) _⟩
  all_goals
    go_enter Tryd.func76, Tryd.ntmps76
    go_wp2
    go_quiet (fail)
    go_wp2
    go_loop [4, 5] (fun r i => ∃ j : Nat, i = .int .i64 ((j : Int) + 1) ∧ j ≤ t.length ∧ r = .int .i32 (numT (c.toNat - headOf (t.length + 1)) (t.take j))) (fun _ i => 4 - (intOf i).toNat)
    case atStart => exact ⟨0, rfl, by omega, by simp [numT, headOf, ht]⟩
    case round =>
      obtain ⟨j, rfl, hj, rfl⟩ := hrel
      by_cases hlen : j < t.length
      · have hx := Hcell.out (j + 1) _ (by rw [bv_get (by simp; omega)])
        simp only [List.getElem_cons_succ] at hx
        have hxu := u8c t[j]
        have hin : (j : Int) + 1 < (t.length : Int) + 1 := by omega
        have hh : -240 ≤ (c.toNat : Int) - headOf (t.length + 1) ∧ (c.toNat : Int) - headOf (t.length + 1) ≤ 255 := by unfold headOf; (repeat' split) <;> omega
        have hbd := numT_bd _ hh.1 hh.2 (t.take j) (by simp; omega)
        have hstep := Lib.hid (numT_take ((c.toNat : Int) - headOf (t.length + 1)) hlen)
        generalize hxv : t[j] = x at hx hxu hstep
        generalize hR : numT ((c.toNat : Int) - headOf (t.length + 1)) (t.take j) = R at hbd hstep
        have hlt : (j : Int) + 1 < (t.length : Int) + 1 := by omega
        clear hxv hR hh
        go_wp2
        go_round
        case rel => exact ⟨j + 1, by go_num, by omega, by rw [hstep.out]⟩
        case measure => simp [intOf]; omega
      · have hge : ¬ (j : Int) + 1 < (t.length : Int) + 1 := by omega
        have e : t.take j = t := List.take_of_length_le (by omega)
        have E := Lib.hid e
        have hnum : num (c :: t) = numT (c.toNat - headOf (t.length + 1)) t := by
          match t, ht with
          | d :: t', _ => rfl
        have Hnum := Lib.hid hnum
        clear e hnum
        go_wp2
        go_ret
        exact ⟨ret_int (by rw [E.out, Hnum.out, ht]), below_drewN ((Below.refl _ _).alloc (Nat.le_refl _) _) _⟩
end Go.Proofs.YtmgakdbcgdhpaaaDoor
