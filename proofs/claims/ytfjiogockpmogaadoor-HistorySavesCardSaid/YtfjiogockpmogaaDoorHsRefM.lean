/-
  Plain mathematics: a text that was made flat is flat; the document's place of a text.
-/
import Derived.Test.YtfjiogockpmogaaDoorHsWkM
namespace Go.Proofs.YtfjiogockpmogaaDoor
open Go.RowKit
set_option linter.unusedVariables false
set_option linter.unusedSimpArgs false

theorem fl1_bigH {x : Int} (h0 : 0 ≤ x) (h1 : x ≤ 255) (h : x ≠ 9 ∧ x ≠ 10 ∧ x ≠ 13) : fl1 (by8 x) = by8 x :=
  fl1_no _ (by rw [by8_val _ h0 (by omega)]; exact h.1) (by rw [by8_val _ h0 (by omega)]; exact h.2.1) (by rw [by8_val _ h0 (by omega)]; exact h.2.2)
theorem fl1_encH {r : Int} (h : isR r) (hc : ctB r = false) : (enc r).map fl1 = enc r := by
  unfold isR at h
  unfold ctB at hc
  simp at hc
  unfold enc
  split
  · simp only [List.map_cons, List.map_nil]
    rw [fl1_bigH (by omega) (by omega) (by omega)]
  · split
    · simp only [List.map_cons, List.map_nil]
      rw [fl1_bigH (by omega) (by omega) (by omega), fl1_bigH (by omega) (by omega) (by omega)]
    · split
      · simp only [List.map_cons, List.map_nil]
        rw [fl1_bigH (by omega) (by omega) (by omega), fl1_bigH (by omega) (by omega) (by omega), fl1_bigH (by omega) (by omega) (by omega)]
      · simp only [List.map_cons, List.map_nil]
        rw [fl1_bigH (by omega) (by omega) (by omega), fl1_bigH (by omega) (by omega) (by omega), fl1_bigH (by omega) (by omega) (by omega), fl1_bigH (by omega) (by omega) (by omega)]
theorem fl1_ebH (xs : List Int) (h : ∀ r ∈ xs, isR r ∧ ctB r = false) : (eb xs).map fl1 = eb xs := by
  induction xs with
  | nil => rfl
  | cons r xs ih =>
    rw [eb_cons, List.map_append, ih (fun x hx => h x (by simp [hx]))]
    congr 1
    unfold e4
    rw [rfix_of (h r (by simp)).1]
    exact fl1_encH (h r (by simp)).1 (h r (by simp)).2
theorem wf_ctH {c : List Int} (h : wf c) : ∀ r ∈ c, isR r ∧ ctB r = false := by
  obtain ⟨b, ms, rfl, hb, hms, _, hR⟩ := h
  intro r hr
  refine ⟨hR r hr, ?_⟩
  rcases List.mem_cons.1 hr with rfl | hr
  · exact hb.1
  · exact (hms r hr).1

theorem cleanB_eq (l : List UInt8) : ∃ ds : List (List Int), (∀ c ∈ ds, wf c) ∧ cleanB l = eb ds.flatten := ⟨cls (rs l), cls_wf (rs_isR l), rfl⟩
theorem flatB_flatB (l : List UInt8) : flatB (flatB l) = flatB l := by
  obtain ⟨ds, hw, he⟩ := cleanB_eq (l.map fl1)
  have h1 : (eb ds.flatten).map fl1 = eb ds.flatten := fl1_ebH _ (fun r hr => by
    obtain ⟨c, hc, hrc⟩ := List.mem_flatten.1 hr
    exact wf_ctH (hw c hc) r hrc)
  have h2 : flatB l = eb ds.flatten := he
  rw [h2]
  unfold flatB cleanB
  rw [h1, rs_eb (flat_isR hw), cls_flat hw]

/-- where a text stands -/
def placeV (L : List (List UInt8)) (s : List UInt8) : Int := match L.findIdx? (· == s) with | none => -1 | some i => i
theorem placeV_at {L : List (List UInt8)} {s : List UInt8} {k : Nat} (h : ∀ j, j < k → ∀ x, L[j]? = some x → x ≠ s) (hk : L[k]? = some s) : placeV L s = k := by
  unfold placeV
  have : L.findIdx? (· == s) = some k := by
    rw [List.findIdx?_eq_some_iff_getElem]
    have hlt := (List.getElem?_eq_some_iff.1 hk).1
    refine ⟨hlt, by rw [(List.getElem?_eq_some_iff.1 hk).2]; simp, fun j hj => ?_⟩
    have := h j hj _ (List.getElem?_eq_getElem (by omega))
    simpa using this
  rw [this]
theorem placeV_no {L : List (List UInt8)} {s : List UInt8} (h : ∀ (j : Nat) (x : List UInt8), L[j]? = some x → x ≠ s) : placeV L s = -1 := by
  unfold placeV
  have : L.findIdx? (· == s) = none := by
    rw [List.findIdx?_eq_none_iff]
    intro x hx
    obtain ⟨j, hj⟩ := List.mem_iff_getElem?.1 hx
    simpa using h j x hj
  rw [this]
theorem placeV_iff {L : List (List UInt8)} {s : List UInt8} (hn : L.Nodup) {j : Nat} {x : List UInt8} (hj : L[j]? = some x) : ((j : Int) == placeV L s) = (x == s) := by
  have hlt := (List.getElem?_eq_some_iff.1 hj).1
  have hx := (List.getElem?_eq_some_iff.1 hj).2
  unfold placeV
  cases h : L.findIdx? (· == s) with
  | none =>
    rw [List.findIdx?_eq_none_iff] at h
    have := h x (List.mem_iff_getElem?.2 ⟨j, hj⟩)
    rw [this]
    simp only [beq_eq_false_iff_ne]; omega
  | some i =>
    rw [List.findIdx?_eq_some_iff_getElem] at h
    obtain ⟨hi, he, _⟩ := h
    have he' : L[i] = s := by simpa using he
    rw [Bool.eq_iff_iff]
    simp only [beq_iff_eq]
    constructor
    · intro e
      have : j = i := by omega
      subst this
      rw [← hx, he']
    · intro e
      have h2 : L[j] = L[i] := by rw [hx, e, he']
      have h3 := List.pairwise_iff_getElem.1 hn
      rcases Nat.lt_trichotomy j i with h4 | h4 | h4
      · exact absurd h2 (h3 j i hlt hi h4)
      · omega
      · exact absurd h2.symm (h3 i j hi hlt h4)
theorem placeV_zero {L : List (List UInt8)} {s : List UInt8} (hs : s ≠ []) : (placeV L s == 0) = (L.head? == some s) := by
  cases L with
  | nil => simp [placeV]
  | cons a L =>
    by_cases h : a = s
    · subst h
      have : placeV (a :: L) a = (0 : Nat) := placeV_at (k := 0) (fun j hj => by omega) rfl
      rw [this]; simp
    · have hb : (a == s) = false := by simpa using h
      simp only [List.head?_cons]
      have h2 : (some a == some s) = false := by simpa using h
      rw [h2]
      unfold placeV
      rw [List.findIdx?_cons, hb]
      cases L.findIdx? (· == s) with
      | none => simp
      | some i => simp; omega
theorem addL_nodup {most : Nat} {l : List UInt8} {L : List (List UInt8)} (h : L.Nodup) : (addL most l L).Nodup := by
  unfold addL
  refine (List.take_sublist _ _).nodup ?_
  rw [List.nodup_cons]
  exact ⟨by simp, (List.filter_sublist).nodup h⟩

/-- the document's walk, as cells -/
def rwC : Option HW → List Value
  | none => [.bool false, .string ⟨#[]⟩, .string ⟨#[]⟩, .int .i64 0]
  | some k => [.bool true, .string ⟨k.d.toArray⟩, .string ⟨k.b.toArray⟩, .int .i64 k.i]
/-- the document's history, as cells -/
def rvC (most : Nat) (A : Option Addr) (n c : Nat) (K : Option HW) : List Value := .int .i64 most :: .slice A n c :: rwC K
theorem rvC_len (most : Nat) (A : Option Addr) (n c : Nat) (K : Option HW) : (rvC most A n c K).length = 6 := by cases K <;> rfl
theorem rvC_one (most : Nat) (A : Option Addr) (n c : Nat) (K : Option HW) : ∀ v ∈ rvC most A n c K, v.oneCell' = true := by
  cases K with
  | none => intro v hv; simp only [rvC, rwC, List.mem_cons, List.not_mem_nil, or_false] at hv; rcases hv with rfl | rfl | rfl | rfl | rfl | rfl <;> rfl
  | some k => intro v hv; simp only [rvC, rwC, List.mem_cons, List.not_mem_nil, or_false] at hv; rcases hv with rfl | rfl | rfl | rfl | rfl | rfl <;> rfl
end Go.Proofs.YtfjiogockpmogaaDoor
