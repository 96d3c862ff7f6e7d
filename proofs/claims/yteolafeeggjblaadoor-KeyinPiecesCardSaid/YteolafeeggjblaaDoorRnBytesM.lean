/-
  The plain mathematics of encoding one rune. No program is named here.
-/
import Derived.Test.YteolafeeggjblaaDoorSl
namespace Go.Proofs.YteolafeeggjblaaDoor

def isR (r : Int) : Prop := 0 ≤ r ∧ r ≤ 1114111 ∧ (r < 55296 ∨ 57343 < r)
instance (r : Int) : Decidable (isR r) := by unfold isR; infer_instance
def rfix (r : Int) : Int := if isR r then r else 65533
def by8 (x : Int) : UInt8 := UInt8.ofNat x.toNat
theorem by8_val (x : Int) (h0 : 0 ≤ x) (h1 : x < 256) : (((by8 x).toNat : Nat) : Int) = x := by
  unfold by8
  have e : (UInt8.ofNat x.toNat).toNat = x.toNat % 256 := UInt8.toNat_ofNat'
  rw [e, Nat.mod_eq_of_lt (by omega)]
  omega
def enc (r : Int) : List UInt8 :=
  if r < 128 then [by8 r] else if r < 2048 then [by8 (192 + r / 64), by8 (128 + r % 64)]
  else if r < 65536 then [by8 (224 + r / 4096), by8 (128 + r / 64 % 64), by8 (128 + r % 64)]
  else [by8 (240 + r / 262144), by8 (128 + r / 4096 % 64), by8 (128 + r / 64 % 64), by8 (128 + r % 64)]
theorem rfix_isR (r : Int) : isR (rfix r) := by unfold rfix; split; assumption; decide
theorem enc_le (r : Int) : (enc r).length ≤ 4 ∧ 1 ≤ (enc r).length := by unfold enc; (repeat' split) <;> simp
theorem enc_c1 (r : Int) (h0 : 0 ≤ r) (h : r < 128) : (enc r).length = 1 ∧ (bv (enc r)).toArray = #[.int .u8 r] := by
  unfold enc; rw [if_pos h]
  exact ⟨rfl, by simp only [bv, List.map_cons, List.map_nil]; rw [by8_val _ (by omega) (by omega)]⟩
theorem enc_c2 (r : Int) (h0 : 128 ≤ r) (h : r < 2048) : (enc r).length = 2 ∧ (bv (enc r)).toArray = #[.int .u8 (192 + r / 64), .int .u8 (128 + r % 64)] := by
  unfold enc; rw [if_neg (by omega), if_pos h]
  exact ⟨rfl, by simp only [bv, List.map_cons, List.map_nil]; rw [by8_val _ (by omega) (by omega), by8_val _ (by omega) (by omega)]⟩
theorem enc_c3 (r : Int) (h0 : 2048 ≤ r) (h : r < 65536) : (enc r).length = 3 ∧ (bv (enc r)).toArray = #[.int .u8 (224 + r / 4096), .int .u8 (128 + r / 64 % 64), .int .u8 (128 + r % 64)] := by
  unfold enc; rw [if_neg (by omega), if_neg (by omega), if_pos h]
  exact ⟨rfl, by simp only [bv, List.map_cons, List.map_nil]; rw [by8_val _ (by omega) (by omega), by8_val _ (by omega) (by omega), by8_val _ (by omega) (by omega)]⟩
theorem enc_c4 (r : Int) (h0 : 65536 ≤ r) (h : r ≤ 1114111) : (enc r).length = 4 ∧ (bv (enc r)).toArray = #[.int .u8 (240 + r / 262144), .int .u8 (128 + r / 4096 % 64), .int .u8 (128 + r / 64 % 64), .int .u8 (128 + r % 64)] := by
  unfold enc; rw [if_neg (by omega), if_neg (by omega), if_neg (by omega)]
  exact ⟨rfl, by simp only [bv, List.map_cons, List.map_nil]; rw [by8_val _ (by omega) (by omega), by8_val _ (by omega) (by omega), by8_val _ (by omega) (by omega), by8_val _ (by omega) (by omega)]⟩
end Go.Proofs.YteolafeeggjblaaDoor
