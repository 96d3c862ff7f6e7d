/-
  Many keys as plain mathematics: their names, and what a map of the first of them reads as.
-/
import Derived.Test.YthlhfbchilfgcaaDoorKmBind
namespace Go.Proofs.YthlhfbchilfgcaaDoor
open Go.RowKit Go.Maps
set_option linter.unusedVariables false
set_option linter.unusedSimpArgs false

def mB (i : Nat) : List UInt8 := [UInt8.ofNat (97 + i % 26), UInt8.ofNat (97 + i / 26)]
def kM (i : Nat) : Kv := { Kv.no with c := 1, s := mB i, a := true }
theorem okM (i : Nat) : okN (kM i) := ⟨rfl, .inl ⟨rfl, by show 2 ≤ 65536; omega⟩⟩
theorem nameM (i : Nat) : nameK (kM i) = [97, 108, 116, 45, 116, 101, 120, 116, 46] ++ mB i := rfl
theorem nameM_ne {i j : Nat} (hi : i < 650) (hj : j < 650) (h : i ≠ j) : nameK (kM i) ≠ nameK (kM j) := by
  rw [nameM, nameM]
  intro e
  have e := List.append_cancel_left e
  simp only [mB, List.cons.injEq, and_true] at e
  obtain ⟨e1, e2⟩ := e
  have a1 := congrArg UInt8.toNat e1
  have a2 := congrArg UInt8.toNat e2
  simp only [UInt8.toNat_ofNat'] at a1 a2
  omega
theorem strM_ne {i j : Nat} (hi : i < 650) (hj : j < 650) (h : i ≠ j) : (Lit.string (nameK (kM i))) ≠ .string (nameK (kM j)) := fun e => nameM_ne hi hj h (by injection e)
def MD : Nat → DataW Unit
  | 0 => .map []
  | i + 1 => (MD i).put (.string (nameK (kM i))) (.lit (.int .i64 (15 : Nat)))
theorem md_tidy (i : Nat) : Tidy (MD i) := by
  induction i with
  | zero => exact ⟨[], rfl, List.Pairwise.nil⟩
  | succ i ih => exact ih.put (by trivial) _
theorem md_new {i j : Nat} (h : i ≤ j) (hj : j < 650) : Maps.has (MD i) (.string (nameK (kM j))) = false := by
  induction i with
  | zero => rfl
  | succ i ih =>
    show Maps.has ((MD i).put _ _) _ = false
    rw [has_put_other (strM_ne hj (by omega) (by omega))]
    exact ih (by omega)
theorem md_first {i : Nat} (h : 0 < i) (hi : i < 650) : Maps.has (MD i) (.string (nameK (kM 0))) = true := by
  induction i with
  | zero => omega
  | succ i ih =>
    show Maps.has ((MD i).put _ _) _ = true
    by_cases h0 : i = 0
    · subst h0
      exact has_put_same (md_tidy 0).isMap (by trivial) _
    · rw [has_put_other (strM_ne (by omega) (by omega) (by omega))]
      exact ih (by omega) (by omega)
theorem md_size {i : Nat} (hi : i < 650) : Maps.size (MD i) = i := by
  induction i with
  | zero => rfl
  | succ i ih =>
    show Maps.size ((MD i).put _ _) = i + 1
    rw [size_put (md_tidy i), md_new (Nat.le_refl _) (by omega), if_neg (by simp), ih (by omega)]
end Go.Proofs.YthlhfbchilfgcaaDoor
