/-
  Plain mathematics: what a walk back and forth comes by.
-/
import Derived.Test.YtfjiogockpmogaaDoorHsNewer
namespace Go.Proofs.YtfjiogockpmogaaDoor
set_option linter.unusedVariables false
set_option linter.unusedSimpArgs false

/-- the walk's lines among the first k -/
def gW (d b : List UInt8) (L : List (List UInt8)) (k : Nat) : List (Nat × List UInt8) := ((hats L).take k).filter (fun x => hasW d b x.2)
/-- the walk's lines -/
def fW (d b : List UInt8) (L : List (List UInt8)) : List (Nat × List UInt8) := (hats L).filter (fun x => hasW d b x.2)
theorem gW_zero (d b : List UInt8) (L : List (List UInt8)) : gW d b L 0 = [] := rfl
theorem gW_all {d b : List UInt8} {L : List (List UInt8)} {k : Nat} (h : L.length ≤ k) : gW d b L k = fW d b L := by
  unfold gW fW; rw [List.take_of_length_le (by rw [hats_length]; exact h)]
theorem gW_pre (d b : List UInt8) (L : List (List UInt8)) (k : Nat) : gW d b L k <+: fW d b L := (List.take_prefix k (hats L)).filter _
theorem fW_len (d b : List UInt8) (L : List (List UInt8)) : (fW d b L).length ≤ L.length := by
  have := List.length_filter_le (fun x : Nat × List UInt8 => hasW d b x.2) (hats L)
  rw [hats_length] at this; exact this
theorem gW_succ {d b : List UInt8} {L : List (List UInt8)} {k : Nat} {l : List UInt8} (h : L[k]? = some l) (hp : hasW d b l = true) : gW d b L (k + 1) = gW d b L k ++ [(k, l)] := by
  have hk : k < L.length := (List.getElem?_eq_some_iff.1 h).1
  have hl : L[k] = l := (List.getElem?_eq_some_iff.1 h).2
  unfold gW
  rw [List.take_add_one, hats_get hk, hl, List.filter_append]
  simp [hp]
theorem find_split {α : Type} {P : α → Bool} {T : List α} {x : α} (h : T.find? P = some x) : ∃ a c, T = a ++ x :: c ∧ P x = true ∧ ∀ y ∈ a, P y = false := by
  obtain ⟨hp, a, c, hT, ha⟩ := List.find?_eq_some_iff_append.1 h
  exact ⟨a, c, hT, hp, fun y hy => by simpa using ha y hy⟩
theorem filter_none {α : Type} {P : α → Bool} {a : List α} (h : ∀ y ∈ a, P y = false) : a.filter P = [] := List.filter_eq_nil_iff.2 (fun y hy => by simp [h y hy])
theorem hats_at {L : List (List UInt8)} {k i : Nat} {l : List UInt8} (h : (hats L)[k]? = some (i, l)) : i = k ∧ L[k]? = some l := by
  have hk : k < L.length := by have := (List.getElem?_eq_some_iff.1 h).1; rwa [hats_length] at this
  rw [hats_get hk] at h
  injection h with h
  injection h with h1 h2
  exact ⟨h1.symm, by rw [List.getElem?_eq_getElem hk, h2]⟩
theorem next_some {d b : List UInt8} {L : List (List UInt8)} {a i : Nat} {l : List UInt8} (h : nextW d b L a = some (i, l)) : i < L.length ∧ L[i]? = some l ∧ hasW d b l = true ∧ gW d b L (i + 1) = gW d b L a ++ [(i, l)] := by
  obtain ⟨p, c, hT, hp, hno⟩ := find_split h
  have hat : (hats L)[a + p.length]? = some (i, l) := by
    rw [← List.getElem?_drop, hT, List.getElem?_append_right (Nat.le_refl _)]; simp
  obtain ⟨rfl, hL⟩ := hats_at hat
  have hlt := (List.getElem?_eq_some_iff.1 hL).1
  refine ⟨hlt, hL, hp, ?_⟩
  rw [gW_succ hL hp]
  congr 1
  have e : (hats L).take (a + p.length) = (hats L).take a ++ p := by
    rw [List.take_add, hT, List.take_left]
  unfold gW
  rw [e, List.filter_append, filter_none hno, List.append_nil]
theorem next_none {d b : List UInt8} {L : List (List UInt8)} {a : Nat} (h : nextW d b L a = none) : fW d b L = gW d b L a := by
  unfold fW gW
  conv => lhs; rw [← List.take_append_drop a (hats L)]
  rw [List.filter_append, filter_none (a := (hats L).drop a) (fun y hy => by simpa using List.find?_eq_none.1 h y hy), List.append_nil]
theorem hats_take (L : List (List UInt8)) (i : Nat) : hats (L.take i) = (hats L).take i := by
  apply List.ext_getElem?
  intro k
  rw [List.getElem?_take]
  by_cases hk : k < (L.take i).length
  · have h2 := hk
    rw [List.length_take] at h2
    rw [hats_get hk, if_pos (by omega), hats_get (by omega)]
    simp
  · rw [List.getElem?_eq_none (by rw [hats_length]; omega)]
    rw [List.length_take] at hk
    split
    · rw [List.getElem?_eq_none (by rw [hats_length]; omega)]
    · rfl
theorem prev_some {d b : List UInt8} {L : List (List UInt8)} {i j : Nat} {l : List UInt8} (h : prevW d b L i = some (j, l)) : j < i ∧ L[j]? = some l ∧ hasW d b l = true ∧ gW d b L i = gW d b L (j + 1) := by
  unfold prevW at h
  rw [hats_take] at h
  obtain ⟨p, c, hT, hp, hno⟩ := find_split h
  have hT2 : (hats L).take i = c.reverse ++ (j, l) :: p.reverse := by
    have := congrArg List.reverse hT
    simpa using this
  have hat0 : ((hats L).take i)[c.reverse.length]? = some (j, l) := by rw [hT2, List.getElem?_append_right (Nat.le_refl _)]; simp
  have hci : c.reverse.length < i := by
    have := (List.getElem?_eq_some_iff.1 hat0).1; rw [List.length_take] at this; omega
  have hat : (hats L)[c.reverse.length]? = some (j, l) := by rw [List.getElem?_take, if_pos hci] at hat0; exact hat0
  obtain ⟨hj, hL⟩ := hats_at hat
  rw [← hj] at hL hci
  refine ⟨hci, hL, hp, ?_⟩
  have e : (hats L).take (j + 1) = c.reverse ++ [(j, l)] := by
    have h1 : (hats L).take (j + 1) = ((hats L).take i).take (j + 1) := by rw [List.take_take, Nat.min_eq_left (by omega)]
    rw [h1, hT2, hj, show c.reverse ++ (c.reverse.length, l) :: p.reverse = (c.reverse ++ [(c.reverse.length, l)]) ++ p.reverse by simp, List.take_left' (by simp)]
  unfold gW
  rw [e, hT2, show c.reverse ++ (j, l) :: p.reverse = (c.reverse ++ [(j, l)]) ++ p.reverse by simp, List.filter_append, filter_none (a := p.reverse) (fun y hy => hno y (by simpa using hy)), List.append_nil]
theorem prev_none {d b : List UInt8} {L : List (List UInt8)} {i : Nat} (h : prevW d b L i = none) : gW d b L i = [] := by
  unfold prevW at h
  rw [hats_take] at h
  unfold gW
  exact filter_none (fun y hy => by simpa using List.find?_eq_none.1 h y (by simpa using hy))

/-- a walk's state behind some calls of Older, that told l -/
def StW (d b : List UInt8) (L : List (List UInt8)) (l : List (List UInt8)) : Option HW → Prop
  | none => l = []
  | some k => k.d = d ∧ k.b = b ∧ (∃ x, L[k.i]? = some x ∧ hasW d b x = true) ∧ l = txh (gW d b L (k.i + 1))
theorem StW.next {d b : List UInt8} {L l : List (List UInt8)} {K : Option HW} (h : StW d b L l K) : walkOf K d b = (d, b, (walkOf K d b).2.2) ∧ l = txh (gW d b L (walkOf K d b).2.2) := by
  cases K with
  | none => exact ⟨rfl, h⟩
  | some k => obtain ⟨rfl, rfl, _, hl⟩ := h; exact ⟨rfl, hl⟩
theorem StW.len {d b : List UInt8} {L l : List (List UInt8)} {K : Option HW} (h : StW d b L l K) : l.length ≤ L.length := by
  have h1 := h.next.2
  have h2 := (gW_pre d b L (walkOf K d b).2.2).length_le
  have h3 := fW_len d b L
  rw [h1, txh_length]; omega
end Go.Proofs.YtfjiogockpmogaaDoor
