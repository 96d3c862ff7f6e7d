/-
  Plain mathematics of laying parts out: what the answers keep (bounds, growth, fairness, places).
-/
import Derived.Test.YtdodogehlnchlaaLyAwake
namespace Go.Proofs.Ytdodogehlnchlaa
open Go.RowKit
set_option linter.unusedVariables false
set_option linter.unusedSimpArgs false

theorem l3_kp (gap room al : Int) (P : Nat → Pt) (n : Nat) : kpO (l3 gap room al P n) = kpO (g2 gap room P n).1 := plL_kp _ _ _ _
theorem l3_sz (gap room al : Int) (P : Nat → Pt) (n i : Nat) : (l3 gap room al P n i).sz = ((g2 gap room P n).1 i).sz := (plL_same _ _ _ _ i).2.1
theorem d1_inv {room : Int} (gap : Int) (P : Nat → Pt) (n : Nat) (h0 : 0 ≤ room) : Inv0 P n (d1 gap room P n) := Inv0.dropN h0 _ _ (Inv0.beg P n)
theorem d1_need {room : Int} (gap : Int) (P : Nat → Pt) (n : Nat) (h0 : 0 ≤ room) : nd gap (d1 gap room P n) n ≤ room := dropN_need h0 n (beg P) (cnt_le _ _)
theorem g2_inv {room : Int} (gap : Int) {P : Nat → Pt} {n : Nat} (h0 : 0 ≤ room) (hP : ∀ i, i < n → (P i).Ok) : Inv1 P n (g2 gap room P n).1 := Inv1.grow _ _ (Inv1.of0 (d1_inv gap P n h0) hP)
theorem g2_kp (gap room : Int) (P : Nat → Pt) (n : Nat) : kpO (g2 gap room P n).1 = kpO (d1 gap room P n) := growS_kp _ _ _
/-- the rows that the answers are -/
def szR (gap room : Int) (P : Nat → Pt) (n : Nat) : Nat → Int := szO (g2 gap room P n).1
def kpR (gap room : Int) (P : Nat → Pt) (n : Nat) : Nat → Bool := kpO (g2 gap room P n).1
theorem row_sz (gap room al : Int) (P : Nat → Pt) (n : Nat) : (fun i => Value.int .i64 (l3 gap room al P n i).sz) = fun i => Value.int .i64 (szR gap room P n i) := by funext i; rw [l3_sz]; rfl
theorem row_kp (gap room al : Int) (P : Nat → Pt) (n : Nat) : (fun i => Value.bool (l3 gap room al P n i).kp) = fun i => Value.bool (kpR gap room P n i) := by
  funext i
  have := congrFun (l3_kp gap room al P n) i
  exact congrArg Value.bool this
theorem szR_no {gap room : Int} {P : Nat → Pt} {n i : Nat} (h0 : 0 ≤ room) (hP : ∀ i, i < n → (P i).Ok) (hi : i < n) (h : kpR gap room P n i = false) : szR gap room P n i = 0 := by
  have := (g2_inv gap h0 hP).z i hi h
  unfold szR szO
  rw [this]
  rfl
theorem szR_yes {gap room : Int} {P : Nat → Pt} {n i : Nat} (h0 : 0 ≤ room) (hP : ∀ i, i < n → (P i).Ok) (hi : i < n) (h : kpR gap room P n i = true) : (P i).mn ≤ szR gap room P n i ∧ szR gap room P n i ≤ (P i).mx := by
  have := (g2_inv gap h0 hP).y i hi h
  exact ⟨this.2.1, this.2.2.1⟩
theorem szR_bd {gap room : Int} {P : Nat → Pt} {n i : Nat} (h0 : 0 ≤ room) (hP : ∀ i, i < n → (P i).Ok) (hi : i < n) : 0 ≤ szR gap room P n i ∧ szR gap room P n i ≤ 500 := by
  cases h : kpR gap room P n i with
  | false => rw [szR_no h0 hP hi h]; omega
  | true =>
    have := szR_yes h0 hP hi h
    have h1 := (hP i hi).a
    have h2 := (hP i hi).c
    omega
/-- the room that the kept ones and their gaps take -/
def totR (gap room : Int) (P : Nat → Pt) (n : Nat) : Int := sumL (szR gap room P n) (ki (kpR gap room P n) n) + gap * (((ki (kpR gap room P n) n).length : Int) - 1)
def overR (gap room : Int) (P : Nat → Pt) (n : Nat) : Int := (g2 gap room P n).2
theorem tot_over {gap room : Int} {P : Nat → Pt} {n : Nat} (h0 : 0 ≤ room) (hne : ki (kpR gap room P n) n ≠ []) : totR gap room P n + overR gap room P n = room := by
  have e := growS_sum n (room - nd gap (d1 gap room P n) n).toNat (d1 gap room P n)
  have hn := d1_need gap P n h0
  have hk := g2_kp gap room P n
  have hne' : ki (kpO (d1 gap room P n)) n ≠ [] := by rw [← hk]; exact hne
  have hv := (need_val gap (szO (d1 gap room P n)) hne').1
  unfold totR overR szR kpR
  rw [hk]
  change sumL (szO (g2 gap room P n).1) _ + ((g2 gap room P n).2 : Int) = _ at e
  unfold nd at e hn
  omega
theorem hungry_full {gap room : Int} {P : Nat → Pt} {n i : Nat} (h0 : 0 ≤ room) (hP : ∀ i, i < n → (P i).Ok) (hi : i < n) (hk : kpR gap room P n i = true) (hw : 0 < (P i).wt) (hx : szR gap room P n i < (P i).mx) : overR gap room P n = 0 := by
  have hiv := (g2_inv gap h0 hP).y i hi hk
  have he : elg ((g2 gap room P n).1 i) = true := (elg_iff _).2 ⟨by rw [hiv.1]; exact hx, by rw [hiv.1]; exact hw⟩
  have hmem : i ∈ ki (kpO (g2 gap room P n).1) n := mem_ki.2 ⟨hi, hk⟩
  unfold overR
  rcases Nat.eq_zero_or_pos (g2 gap room P n).2 with h | h
  · rw [h]; rfl
  · have hno := growS_over n _ _ h
    have := (nxL_some (g2 gap room P n).1 _).2 hno i hmem
    rw [he] at this; cases this
theorem over_pos (gap room : Int) (P : Nat → Pt) (n : Nat) : 0 ≤ overR gap room P n := by unfold overR; omega
/-- growth -/
theorem kp_more {gap room : Int} {P : Nat → Pt} {n i : Nat} (h0 : 0 ≤ room) (h : kpR gap room P n i = true) : kpR gap (room + 1) P n i = true := by
  unfold kpR at h ⊢
  rw [g2_kp] at h ⊢
  exact dropN_more h0 i n _ h
theorem sz_more {gap room : Int} {P : Nat → Pt} {n : Nat} (h0 : 0 ≤ room) (hP : ∀ i, i < n → (P i).Ok) (h : ∀ i, i < n → kpR gap room P n i = kpR gap (room + 1) P n i) :
    (∀ i, szR gap (room + 1) P n i = szR gap room P n i) ∨ ∃ j, ∀ i, szR gap (room + 1) P n i = if i = j then szR gap room P n i + 1 else szR gap room P n i := by
  have hd : d1 gap room P n = d1 gap (room + 1) P n := (d1_inv gap P n h0).same (d1_inv gap P n (by omega)) (fun i hi => by
    have := h i hi
    unfold kpR at this
    rwa [g2_kp, g2_kp] at this)
  have hn := d1_need gap P n h0
  have hr : (room + 1 - nd gap (d1 gap (room + 1) P n) n).toNat = (room - nd gap (d1 gap room P n) n).toNat + 1 := by rw [← hd]; omega
  have e := growS_last n (room - nd gap (d1 gap room P n) n).toNat (d1 gap room P n)
  have e1 : g2 gap (room + 1) P n = growS n ((room - nd gap (d1 gap room P n) n).toNat + 1) (d1 gap room P n) := by unfold g2; rw [hr, ← hd]
  have e2 : g2 gap room P n = growS n (room - nd gap (d1 gap room P n) n).toNat (d1 gap room P n) := rfl
  rw [← e1, ← e2] at e
  unfold szR
  rw [e]
  split
  · split
    · exact .inl fun i => rfl
    · rename_i j _
      exact .inr ⟨j, fun i => szO_inc _ j i⟩
  · exact .inl fun i => rfl
/-- fairness -/
theorem fairR {gap room : Int} {P : Nat → Pt} {n i k : Nat} (h0 : 0 ≤ room) (hP : ∀ i, i < n → (P i).Ok) (hi : i < n) (hk : k < n) (bi : kpR gap room P n i = true) (bk : kpR gap room P n k = true) (hw : (P i).wt = (P k).wt)
    (mi : szR gap room P n i ≠ (P i).mx) (mk : szR gap room P n k ≠ (P k).mx) : szR gap room P n i - (P i).mn ≤ szR gap room P n k - (P k).mn + 1 := by
  have hf : FairI n (g2 gap room P n).1 := FairI.grow _ _ (FairI.of0 (d1_inv gap P n h0))
  have yi := (g2_inv gap h0 hP).y i hi bi
  have yk := (g2_inv gap h0 hP).y k hk bk
  have := hf.p i k hi hk bi bk (by rw [yi.1, yk.1]; exact hw) (by rw [yi.1]; have := yi.2.2.1; unfold szR szO at mi; omega) (by rw [yk.1]; have := yk.2.2.1; unfold szR szO at mk; omega)
  unfold dd at this
  rw [yi.1, yk.1] at this
  exact this
/-- places -/
theorem l3_a {gap room al : Int} {P : Nat → Pt} {n i : Nat} (h0 : 0 ≤ room) (hP : ∀ i, i < n → (P i).Ok) (hi : i < n) : (l3 gap room al P n i).a = if kpR gap room P n i = true then pos gap (aheadV (overR gap room P n) al) (szR gap room P n) (kpR gap room P n) i else 0 := by
  have := (plL_ki gap (g2 gap room P n).1 (aheadV (g2 gap room P n).2 al) n).1 i
  unfold l3
  rw [this]
  by_cases hb : kpR gap room P n i = true
  · rw [if_pos ⟨hi, hb⟩, if_pos hb]; rfl
  · rw [if_neg (fun h => hb h.2), if_neg hb]
    have hb' : kpR gap room P n i = false := by simpa using hb
    have := (g2_inv gap h0 hP).z i hi hb'
    rw [this]; rfl
end Go.Proofs.Ytdodogehlnchlaa
