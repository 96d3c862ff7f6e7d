/-
  What holds of a terminal's state goes on to hold, whatever is done to it: plain mathematics.
-/
import Derived.Test.YtfmkeeaenjeneaaGreatDoorRtMem
import Derived.Test.YtfmkeeaenjeneaaGreatDoorTmWrM
namespace Go.Proofs.YtfmkeeaenjeneaaGreatDoor
open Go.RowKit
set_option linter.unusedVariables false
set_option linter.unusedSimpArgs false

theorem Rws.setRow {W : Nat} {L : List (List Cl)} (h : Rws W L) (i : Nat) (l : List Cl) (hl : i < L.length → l.length = W ∧ Wf l) : Rws W (L.set i l) := by
  refine ⟨fun j m hm => ?_, h.w1, h.w5, by rw [List.length_set]; exact h.h1, by rw [List.length_set]; exact h.h5⟩
  by_cases hij : i = j
  · subst hij
    rw [List.getElem?_set] at hm
    simp only [if_pos] at hm
    split at hm
    · next hlt => injection hm with hm; subst hm; exact hl hlt
    · cases hm
  · rw [List.getElem?_set_ne hij] at hm
    exact h.wd j m hm
theorem Rws.row_of {W : Nat} {L : List (List Cl)} (h : Rws W L) {i : Nat} (hi : i < L.length) : (L.getD i []).length = W ∧ Wf (L.getD i []) := by
  have e : L[i]? = some (L.getD i []) := by rw [List.getD_eq_getElem?_getD, List.getElem?_eq_getElem hi]; rfl
  exact h.wd i _ e
theorem inB_nat {row col : Int} {W H : Nat} (h : ¬ inB row col W H = false) : 0 ≤ row ∧ row < H ∧ 0 ≤ col ∧ col < W := by
  have : inB row col W H = true := by simpa using h
  simpa [inB] using this
theorem Rws.put {W : Nat} {L : List (List Cl)} (h : Rws W L) (row col : Int) (s : List UInt8) (m : Int) (y : Sty) : Rws W (putM W L row col s m y).1 := by
  unfold putM
  split
  · exact h
  · next h1 =>
    split
    · exact h
    · next h2 =>
      refine h.setRow _ _ fun hi => ?_
      obtain ⟨hl, hf⟩ := h.row_of hi
      have a1 := inB_nat (fun e => h2 (.inl e))
      have a2 := inB_nat (fun e => h2 (.inr e))
      have hs : s ≠ [] := fun e => h1 (.inl e)
      have h64 : s.length ≤ 64 := Nat.le_of_not_lt fun e => h1 (.inr (.inl e))
      have hm : m = 1 ∨ m = 2 := Decidable.byContradiction fun e => h1 (.inr (.inr ⟨fun e1 => e (.inl e1), fun e2 => e (.inr e2)⟩))
      exact ⟨by rw [putR_length]; exact hl, hf.put (by rcases hm with rfl | rfl <;> simp) (by rw [hl]; rcases hm with rfl | rfl <;> omega) hs h64⟩
theorem Rws.join {W : Nat} {L : List (List Cl)} (h : Rws W L) (row col : Int) (s : List UInt8) : Rws W (joinM W L row col s).1 := by
  unfold joinM
  split
  · exact h
  · refine h.setRow _ _ fun hi => ?_
    obtain ⟨hl, hf⟩ := h.row_of hi
    exact ⟨by rw [joinR_length]; exact hl, hf.join _ _⟩
theorem Rws.erase {W : Nat} {L : List (List Cl)} (h : Rws W L) (row a z : Int) : Rws W (eraseG W L row a z).1 := by
  unfold eraseG
  split
  · exact h
  · refine h.setRow _ _ fun hi => ?_
    obtain ⟨hl, hf⟩ := h.row_of hi
    exact ⟨by rw [eraseM_length]; exact hl, hf.erase _ _⟩
theorem Rws.scroll {W : Nat} {L : List (List Cl)} (h : Rws W L) (n : Int) : Rws W (scrollM W L n) := by
  refine ⟨fun i l hl => ?_, h.w1, h.w5, by rw [scrollM_length]; exact h.h1, by rw [scrollM_length]; exact h.h5⟩
  unfold scrollM at hl
  by_cases hi : i < (L.drop (scrollN L.length n)).length
  · rw [List.getElem?_append_left hi, List.getElem?_drop] at hl
    exact h.wd _ l hl
  · rw [List.getElem?_append_right (by omega)] at hl
    have := List.eq_of_mem_replicate (List.mem_of_getElem? hl)
    subst this
    exact ⟨by simp, Wf.blanks _⟩

theorem wi_lt (i : Int) {n : Nat} (h : 1 ≤ n) : wi i n < n := by unfold wi; omega
theorem TOk.feed {T : TS} (h : TOk T) : TOk (feedT T) := by
  unfold feedT
  split
  · next hr => exact ⟨h.q, hr, h.col⟩
  · exact ⟨h.q.scroll 1, by rw [scrollM_length]; exact h.row, h.col⟩
theorem TOk.move {T : TS} (h : TOk T) (r c : Int) : TOk (moveT T r c) := ⟨h.q, wi_lt r h.q.h1, wi_lt c h.q.w1⟩
theorem putM_len (W : Nat) (L : List (List Cl)) (row col : Int) (s : List UInt8) (m : Int) (y : Sty) : (putM W L row col s m y).1.length = L.length := by
  unfold putM
  split
  · rfl
  · split
    · rfl
    · simp
theorem joinM_len (W : Nat) (L : List (List Cl)) (row col : Int) (s : List UInt8) : (joinM W L row col s).1.length = L.length := by unfold joinM; split <;> simp
theorem TOk.store {T : TS} (h : TOk T) (b : List UInt8) (k : Nat) (hk : T.col + k ≤ T.W) : TOk (storeT T b k) := by
  refine ⟨h.q.put _ _ _ _ _, by show T.row < (putM _ _ _ _ _ _ _).1.length; rw [putM_len]; exact h.row, ?_⟩
  show (if T.col + k = T.W then T.W - 1 else T.col + k) < T.W
  have := h.q.w1
  split <;> omega
theorem TOk.print {T : TS} (h : TOk T) (b : List UInt8) (k : Nat) : TOk (printT T b k) := by
  unfold printT
  split
  · exact ⟨h.q, h.row, h.col⟩
  · next hw =>
    split
    · have h0 : TOk { T with col := 0 } := ⟨h.q, h.row, h.q.w1⟩
      refine h0.feed.store b k ?_
      have e1 : (feedT { T with col := 0 }).W = T.W := by unfold feedT; split <;> rfl
      have e2 : (feedT { T with col := 0 }).col = 0 := by unfold feedT; split <;> rfl
      rw [e1, e2]; omega
    · next hp => exact h.store b k (by omega)
theorem TOk.mark {T : TS} (h : TOk T) (b : List UInt8) : TOk (markT T b) := by
  unfold markT
  split
  · exact ⟨h.q.join _ _ _, by show T.row < (joinM _ _ _ _ _).1.length; rw [joinM_len]; exact h.row, h.col⟩
  · exact h
theorem TOk.rune {T : TS} (h : TOk T) (r : Int) : TOk (runeT T r) := by
  unfold runeT
  split
  · exact h.print _ _
  · split
    · exact h.mark _
    · exact ⟨h.q, h.row, h.col⟩
theorem TOk.ctl {T : TS} (h : TOk T) (c : UInt8) : TOk (ctlT T c) := by
  have h0 : TOk { T with joins := false } := ⟨h.q, h.row, h.col⟩
  unfold ctlT
  dsimp only
  split
  · exact ⟨h.q, h.row, h.col⟩
  · split
    · exact h0.move _ _
    · split
      · exact h0.move _ _
      · split
        · exact h0.feed
        · split
          · exact h0.move _ _
          · exact h0
theorem TOk.rows {T : TS} (h : TOk T) (fr fc tr tc : Nat) : ∀ n, TOk (eraseRows T fr fc tr tc n) := by
  intro n
  induction n generalizing T with
  | zero => exact h
  | succ n ih =>
    unfold eraseRows
    exact ih ⟨h.q.erase _ _ _, by show T.row < (eraseG _ _ _ _ _).1.length; rw [eraseG_len]; exact h.row, h.col⟩
theorem TOk.erase {T : TS} (h : TOk T) (n : Int) (a z : Nat) : TOk (eraseT T n a z) := by
  unfold eraseT
  repeat' split
  all_goals first | exact h.rows _ _ _ _ _ | exact h
theorem TOk.plain {T : TS} (h : TOk T) (n m : Int) (f : UInt8) : TOk (plainT T n m f) := by
  unfold plainT
  repeat' split
  all_goals first | exact h.move _ _ | exact h.erase _ _ _ | exact h
theorem TOk.modes {T : TS} (h : TOk T) (l : List Int) (f : UInt8) : TOk (modesT T l f) := by
  unfold modesT
  split
  · exact h
  · induction l generalizing T with
    | nil => exact h
    | cons n l ih =>
      rw [List.foldl_cons]
      refine ih ?_
      repeat' split
      all_goals exact ⟨h.q, h.row, h.col⟩
theorem TOk.exec {T : TS} (h : TOk T) (p : List UInt8) (f : UInt8) : TOk (execT T p f) := by
  unfold execT
  dsimp only
  generalize (if p.head? = some 63 then p.tail else p) = q
  by_cases h1 : areN q = false
  · rw [if_pos h1]; exact h
  · rw [if_neg h1]
    by_cases h2 : p.head? = some 63
    · rw [if_pos h2]; exact h.modes _ _
    · rw [if_neg h2]
      by_cases h3 : f = 109
      · rw [if_pos h3]; exact ⟨h.q, h.row, h.col⟩
      · rw [if_neg h3]; exact h.plain _ _ _
theorem TOk.step {T : TS} (h : TOk T) (B : List UInt8) : TOk (stepT T B).1 := by
  cases B with
  | nil => exact h
  | cons c l =>
    by_cases h27 : c = 27
    · subst h27
      rw [stepT_esc]
      show TOk (escT T _)
      unfold escT
      split
      · exact h
      · have h0 : TOk { T with joins := false } := ⟨h.q, h.row, h.col⟩
        split
        · exact h0.exec _ _
        · exact h0
    · by_cases h32 : c < 32 ∨ c = 127
      · rw [stepT_ctl h27 h32]; exact h.ctl c
      · rw [stepT_rune h27 h32]
        by_cases hm : (nx (c :: l)).2.2 = true
        · rw [if_pos hm]; exact h
        · rw [if_neg hm]
          generalize nx (c :: l) = p
          exact h.rune p.1
theorem TOk.run {T : TS} (h : TOk T) : ∀ (f : Nat) (B : List UInt8), TOk (runT f T B).1 := by
  intro f
  induction f generalizing T with
  | zero => intro B; exact h
  | succ f ih =>
    intro B
    rw [runT]
    split
    · exact h
    · exact ih (h.step B) _
theorem TOk.bytes {T : TS} (h : TOk T) (B : List UInt8) : TOk (bytesT T B).1 := h.run _ _
end Go.Proofs.YtfmkeeaenjeneaaGreatDoor
