/-
  The plain mathematics of the reference's decoding, and that it comes to the same. No program is named here.
-/
import Derived.Test.YteolafeeggjblaaDoorRnMath
namespace Go.Proofs.YteolafeeggjblaaDoor

def numT (h : Int) (t : List UInt8) : Int := t.foldl (fun r c => r * 64 + (c.toNat : Int) % 64) h
def headOf (n : Nat) : Int := if n = 2 then 192 else if n = 3 then 224 else if n = 4 then 240 else 0
def num (l : List UInt8) : Int := match l with
  | [] => 0
  | [c] => c.toNat
  | c :: t => numT (c.toNat - headOf (t.length + 1)) t
def okT (t : List UInt8) : Bool := t.all fun c => decide (128 ≤ c.toNat ∧ c.toNat ≤ 191)
def fromOf (n : Int) : Int := if n = 2 then 128 else if n = 3 then 2048 else if n = 4 then 65536 else 0
def beg (l : List UInt8) : Bool := match l with
  | [] => false
  | c :: t =>
    let n := hsz c.toNat
    let k := (n - (t.length + 1)).toNat
    let x := num (c :: (t ++ List.replicate k 128))
    let y := num (c :: (t ++ List.replicate k 191))
    decide ((t.length : Int) + 1 ≤ n) && okT t && (decide (fromOf n ≤ y) && decide (x ≤ 1114111) && (decide (x < 55296) || decide (57343 < y)))
def rnx (l : List UInt8) : Int × Int × Bool := match l with
  | [] => (0, 0, true)
  | c :: t =>
    let n := hsz c.toNat
    if 0 < n ∧ n ≤ (t.length : Int) + 1 ∧ beg ((c :: t).take n.toNat) = true then (num ((c :: t).take n.toNat), n, false)
    else if 0 < n ∧ (t.length : Int) + 1 < n ∧ beg (c :: t) = true then (0, 0, true)
    else (65533, 1, false)

theorem u8c (c : UInt8) : 0 ≤ (c.toNat : Int) ∧ (c.toNat : Int) < 256 := by have := c.toNat_lt; omega
theorem hsz_cases (c : Int) : (hsz c = 0 ∧ (128 ≤ c ∧ c < 194 ∨ 245 ≤ c)) ∨ (hsz c = 1 ∧ c < 128) ∨ (hsz c = 2 ∧ 194 ≤ c ∧ c < 224) ∨ (hsz c = 3 ∧ 224 ≤ c ∧ c < 240) ∨ (hsz c = 4 ∧ 240 ≤ c ∧ c < 245) := by
  unfold hsz; (repeat' split) <;> omega
theorem ite_and3 {a b c : Prop} [Decidable a] [Decidable b] [Decidable c] {α : Type} (x y : α) (h : a ∧ b ∧ c ↔ False) : (if a ∧ b ∧ c then x else y) = y := by rw [if_neg (by rw [h]; exact id)]

theorem okc (c : UInt8) : (128 ≤ c.toNat ∧ c.toNat ≤ 191) ↔ (128 ≤ (c.toNat : Int) ∧ (c.toNat : Int) ≤ 191) := by omega
theorem rnx_full {c : UInt8} {t : List UInt8} (h0 : 0 < hsz c.toNat) (h1 : hsz c.toNat ≤ (t.length : Int) + 1) :
    rnx (c :: t) = if beg ((c :: t).take (hsz c.toNat).toNat) = true then (num ((c :: t).take (hsz c.toNat).toNat), hsz c.toNat, false) else (65533, 1, false) := by
  unfold rnx
  simp only
  by_cases hb : beg ((c :: t).take (hsz c.toNat).toNat) = true
  · rw [if_pos ⟨h0, h1, hb⟩, if_pos hb]
  · rw [if_neg (fun h => hb h.2.2), if_neg (fun h => by omega), if_neg hb]
theorem rnx_part {c : UInt8} {t : List UInt8} (h0 : 0 < hsz c.toNat) (h1 : (t.length : Int) + 1 < hsz c.toNat) :
    rnx (c :: t) = if beg (c :: t) = true then (0, 0, true) else (65533, 1, false) := by
  unfold rnx
  simp only
  by_cases hb : beg (c :: t) = true
  · rw [if_neg (fun h => by omega), if_pos ⟨h0, h1, hb⟩, if_pos hb]
  · rw [if_neg (fun h => by omega), if_neg (fun h => hb h.2.2), if_neg hb]

theorem ite3 {a b : Prop} [Decidable a] [Decidable b] {α : Type} {x y x' y' : α} (h : a ↔ b) (hx : a → x = x') (hy : ¬ a → y = y') : (if a then x else y) = (if b then x' else y') := by
  by_cases ha : a
  · rw [if_pos ha, if_pos (h.1 ha), hx ha]
  · rw [if_neg ha, if_neg (fun hb => ha (h.2 hb)), hy ha]
theorem ite_swap {a : Prop} [Decidable a] {α : Type} (x y : α) : (if a then x else y) = if ¬ a then y else x := by
  by_cases h : a <;> simp [h]

theorem ite_two {a b : Prop} [Decidable a] [Decidable b] {α : Type} (x y : α) : (if a then x else if b then x else y) = if ¬ a ∧ ¬ b then y else x := by
  by_cases h : a <;> by_cases h2 : b <;> simp [h, h2]
theorem ite_three {a b c : Prop} [Decidable a] [Decidable b] [Decidable c] {α : Type} (x y : α) : (if a then x else if b then x else if c then x else y) = if ¬ a ∧ ¬ b ∧ ¬ c then y else x := by
  by_cases h : a <;> by_cases h2 : b <;> by_cases h3 : c <;> simp [h, h2, h3]
theorem ite_two' {a b : Prop} [Decidable a] [Decidable b] {α : Type} (x y : α) : (if a then x else if b then x else y) = if ¬ a ∧ ¬ b then y else x := by
  by_cases h : a <;> by_cases h2 : b <;> simp [h, h2]

set_option maxRecDepth 10000 in
theorem same_nx (l : List UInt8) : nx l = rnx l := by
  match l with
  | [] => rfl
  | c :: t =>
    have hc := u8c c
    rcases hsz_cases c.toNat with ⟨h, h'⟩ | ⟨h, h'⟩ | ⟨h, h'⟩ | ⟨h, h'⟩ | ⟨h, h'⟩
    · simp [nx, rnx, h]
    · rw [rnx_full (by omega) (by omega), h]
      simp [nx, h, beg, num, okT, fromOf]
      omega
    · have hf : fst c.toNat = c.toNat % 32 := by simp [fst, h]
      have hlo' : hlo c.toNat = 128 := by unfold hlo; (repeat' split) <;> omega
      have hhi' : hhi c.toNat = 191 := by unfold hhi; (repeat' split) <;> omega
      match t with
      | [] =>
        rw [rnx_part (by omega) (by simp; omega)]
        simp [nx, h, nxt, beg, okT, num, numT, headOf, fromOf]
        omega
      | d :: t' =>
        have hd := u8c d
        rw [rnx_full (by omega) (by simp; omega), h]
        simp [nx, h, nxt, beg, okT, num, numT, headOf, fromOf, hf, hlo', hhi']
        rw [ite_swap]
        exact ite3 (by omega) (fun _ => by simp; omega) (fun _ => rfl)
    · have hf : fst c.toNat = c.toNat % 16 := by simp [fst, h]
      have hlo' : (c.toNat : Int) = 224 ∧ hlo c.toNat = 160 ∨ (c.toNat : Int) ≠ 224 ∧ hlo c.toNat = 128 := by unfold hlo; (repeat' split) <;> omega
      have hhi' : (c.toNat : Int) = 237 ∧ hhi c.toNat = 159 ∨ (c.toNat : Int) ≠ 237 ∧ hhi c.toNat = 191 := by unfold hhi; (repeat' split) <;> omega
      match t with
      | [] =>
        rw [rnx_part (by omega) (by simp; omega)]
        simp [nx, h, nxt, beg, okT, num, numT, headOf, fromOf]
        omega
      | [d] =>
        have hd := u8c d
        rw [rnx_part (by omega) (by simp; omega)]
        simp [nx, h, nxt, beg, okT, num, numT, headOf, fromOf, hf]
        rw [ite_swap]
        exact ite3 (by omega) (fun _ => rfl) (fun _ => rfl)
      | d :: e :: t' =>
        have hd := u8c d
        have he := u8c e
        rw [rnx_full (by omega) (by simp; omega), h]
        simp [nx, h, nxt, beg, okT, num, numT, headOf, fromOf, hf]
        rw [ite_two]
        exact ite3 (by omega) (fun _ => by simp; omega) (fun _ => rfl)
    · have hf : fst c.toNat = c.toNat % 8 := by simp [fst, h]
      have hlo' : (c.toNat : Int) = 240 ∧ hlo c.toNat = 144 ∨ (c.toNat : Int) ≠ 240 ∧ hlo c.toNat = 128 := by unfold hlo; (repeat' split) <;> omega
      have hhi' : (c.toNat : Int) = 244 ∧ hhi c.toNat = 143 ∨ (c.toNat : Int) ≠ 244 ∧ hhi c.toNat = 191 := by unfold hhi; (repeat' split) <;> omega
      match t with
      | [] =>
        rw [rnx_part (by omega) (by simp; omega)]
        simp [nx, h, nxt, beg, okT, num, numT, headOf, fromOf]
        omega
      | [d] =>
        have hd := u8c d
        rw [rnx_part (by omega) (by simp; omega)]
        simp [nx, h, nxt, beg, okT, num, numT, headOf, fromOf, hf]
        rw [ite_swap]
        exact ite3 (by omega) (fun _ => rfl) (fun _ => rfl)
      | [d, e] =>
        have hd := u8c d
        have he := u8c e
        rw [rnx_part (by omega) (by simp; omega)]
        simp [nx, h, nxt, beg, okT, num, numT, headOf, fromOf, hf]
        rw [ite_two]
        exact ite3 (by omega) (fun _ => rfl) (fun _ => rfl)
      | d :: e :: f :: t' =>
        have hd := u8c d
        have he := u8c e
        have hf' := u8c f
        rw [rnx_full (by omega) (by simp; omega), h]
        simp [nx, h, nxt, beg, okT, num, numT, headOf, fromOf, hf]
        rw [ite_three]
        exact ite3 (by omega) (fun _ => by simp; omega) (fun _ => rfl)
end Go.Proofs.YteolafeeggjblaaDoor
