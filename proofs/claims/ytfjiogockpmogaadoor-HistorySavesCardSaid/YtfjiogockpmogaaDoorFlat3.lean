/-
  Plain mathematics: a text made flat is at most three times as long.
-/
import Derived.Test.YtfjiogockpmogaaDoorGfF
namespace Go.Proofs.YtfjiogockpmogaaDoor
set_option linter.unusedVariables false
set_option linter.unusedSimpArgs false

theorem e4_3 {r : Int} (h : r < 65536) : (e4 r).length ≤ 3 := by
  have hx : rfix r < 65536 := by unfold rfix; split <;> omega
  unfold e4 enc
  (repeat' split) <;> simp
theorem e4_4 (r : Int) : (e4 r).length ≤ 4 := (enc_le _).1
theorem nxt_c (k : Nat) : ∀ (s r lo hi : Int) (t : List UInt8), (nxt k s r lo hi t).2.2 = false → (nxt k s r lo hi t).2.1 = s ∨ (nxt k s r lo hi t).1 = 65533 := by
  induction k with
  | zero => intro s r lo hi t _; exact .inl rfl
  | succ k ih =>
    intro s r lo hi t h
    cases t with
    | nil => simp [nxt] at h
    | cons c t =>
      unfold nxt at h ⊢
      simp only at h ⊢
      split
      · exact .inr rfl
      · next hc => rw [if_neg hc] at h; exact ih _ _ _ _ _ h
theorem nx_c {l : List UInt8} (h : (nx l).2.2 = false) : 2 ≤ (nx l).2.1 ∨ (nx l).1 < 65536 := by
  cases l with
  | nil => simp [nx] at h
  | cons c t =>
    have hs := hsz_cases c.toNat
    have hc := u8lt c
    unfold nx at h ⊢
    simp only at h ⊢
    by_cases h0 : hsz c.toNat = 0
    · rw [if_pos h0]; exact .inr (by decide)
    · rw [if_neg h0] at h ⊢
      by_cases h1 : hsz c.toNat = 1
      · rw [if_pos h1]; exact .inr (by show (c.toNat : Int) < 65536; omega)
      · rw [if_neg h1] at h ⊢
        rcases nxt_c _ _ _ _ _ _ h with h2 | h2
        · rw [h2]; left; omega
        · rw [h2]; exact .inr (by decide)
theorem stp_e3 (l : List UInt8) : (e4 (stp l).1).length ≤ 3 * (stp l).2 := by
  unfold stp
  split
  · have := e4_3 (r := 65533) (by decide); simpa using this
  · next h =>
    have h' : (nx l).2.2 = false := by simpa using h
    have hn := nx_n l h'
    rcases nx_c h' with h2 | h2
    · have := e4_4 (nx l).1; simp only; omega
    · have := e4_3 h2; simp only; omega
theorem rns_e3 (f : Nat) : ∀ (a : Nat) (l : List UInt8), (eb ((rns f a l).map (·.2))).length ≤ 3 * l.length := by
  induction f with
  | zero => intro a l; simp [rns, eb]
  | succ f ih =>
    intro a l
    by_cases h : l = []
    · subst h; simp [rns, eb]
    · rw [rns, if_neg h, List.map_cons, eb_cons, List.length_append]
      have h1 := ih (a + (stp l).2) (l.drop (stp l).2)
      have h2 := stp_e3 l
      have h3 := stp_len h
      rw [List.length_drop] at h1
      simp only at *
      omega
def runW (q : List (List Int) × List Int) : Nat := (eb q.1.flatten).length + (eb q.2).length
theorem fin_runW (q : List (List Int) × List Int) : (eb (fin q).flatten).length ≤ runW q := by
  unfold fin runW
  split
  · omega
  · simp [eb_append]
theorem runW_step (q : List (List Int) × List Int) (r : Int) : runW (st2 q r) ≤ runW q + (e4 r).length := by
  rcases kinds r with hc | hm | hb
  · rw [st2_ct hc]; omega
  · rw [st2_mk hm.1 hm.2]
    unfold runW jn
    simp only
    split
    · omega
    · rw [eb_snoc, List.length_append]; omega
  · rw [st2_base hb]
    have := fin_runW q
    unfold runW at this ⊢
    simp only [eb_cons, eb_nil, List.length_append, List.length_nil]
    omega
theorem runW_fold (xs : List Int) : ∀ q, runW (xs.foldl st2 q) ≤ runW q + (eb xs).length := by
  induction xs with
  | nil => intro q; simp [eb]
  | cons x xs ih => intro q; rw [List.foldl_cons, eb_cons, List.length_append]; have := ih (st2 q x); have := runW_step q x; omega
theorem cls_eb_le (xs : List Int) : (eb (cls xs).flatten).length ≤ (eb xs).length := by
  unfold cls
  have h1 := fin_runW (run xs)
  have h2 := runW_fold xs ([], [])
  have e : runW (([], []) : List (List Int) × List Int) = 0 := rfl
  unfold run at h1 ⊢
  omega
theorem flatB_le3 (s : List UInt8) : (flatB s).length ≤ 3 * s.length := by
  unfold flatB cleanB
  have h1 := cls_eb_le (rs (s.map fl1))
  have h2 := rns_e3 (s.map fl1).length 0 (s.map fl1)
  have h3 : (s.map fl1).length = s.length := List.length_map ..
  unfold rs rnsOf at h1
  unfold rs rnsOf
  omega
end Go.Proofs.YtfjiogockpmogaaDoor
