/-
  A region that draws its order, whose callees make memory: walked once. From a world of the class on. A cheaper test than Region.lexB for long regions. No program is named here.
-/
import Derived.Deep.QuietTactic
import Derived.BigQuiet
import Derived.Lib.QuietBelow
namespace Go.Proofs.Ytdodogehlnchlaa
open Go.RowKit Go.Sort
set_option linter.unusedVariables false
set_option linter.unusedSimpArgs false

/-- Each operation waits for earlier ones alone, and each later one waits for it or is apart from it. -/
def lexL (md : Region.Mode) (ops : Array Oper) : Nat → List Oper → Bool
  | _, [] => true
  | k, o :: rest => (o.after.all fun e => !Region.binds md e || decide (e.on < k)) && rest.all (fun oj => oj.after.any (fun e => Region.binds md e && e.on == k) || o.apart ops oj) && lexL md ops (k + 1) rest
def lexQ (md : Region.Mode) (l : List Oper) : Bool := Region.noSelect l.toArray && lexL md l.toArray 0 l

theorem lexFrom_of (md : Region.Mode) (ops : Array Oper) : ∀ (l : List Oper) (k : Nat) (listed : Array Bool), (∀ j : Nat, l[j]? = ops[k + j]?) → k + l.length = ops.size →
    (∀ j : Nat, j < ops.size → listed[j]? = some (decide (j < k))) → lexL md ops k l = true → Region.lexFrom md ops l.length k listed = true := by
  intro l
  induction l with
  | nil =>
    intro k listed _ hk hl _
    show (Region.ready md ops listed).isEmpty = true
    rw [List.isEmpty_iff, Region.ready, List.filter_eq_nil_iff]
    intro i hi
    have hi' : i < ops.size := List.mem_range.1 hi
    simp at hk
    have : listed.getD i true = true := by rw [Array.getD_eq_getD_getElem?, hl i hi']; simp; omega
    simp [this]
  | cons o l ih =>
    intro k listed hg hk hl hB
    simp only [lexL, Bool.and_eq_true] at hB
    obtain ⟨⟨h1, h2⟩, h3⟩ := hB
    have h0 : ops[k]? = some o := by simpa using (hg 0).symm
    have hks : k < ops.size := (Array.getElem?_eq_some_iff.1 h0).1
    simp only [List.length_cons, Region.lexFrom, Bool.and_eq_true]
    refine ⟨⟨?_, ?_⟩, ih (k + 1) _ (fun j => ?_) (by simp at hk; omega) (fun j hj => ?_) h3⟩
    · rw [List.contains_iff_mem, Region.ready, List.mem_filter]
      refine ⟨List.mem_range.2 hks, ?_⟩
      have hk0 : listed.getD k true = false := by rw [Array.getD_eq_getD_getElem?, hl k hks]; simp
      rw [hk0, h0]
      simp only [Option.map_some, Option.getD_some, Bool.not_false, Bool.true_and]
      rw [Array.all_eq_true_iff_forall_mem] at h1 ⊢
      intro e he
      have := h1 e he
      rw [Bool.or_eq_true] at this ⊢
      rcases this with h | h
      · exact .inl h
      · right
        have hlt : e.on < k := by simpa using h
        rw [Array.getD_eq_getD_getElem?, hl e.on (by omega)]
        simpa using hlt
    · unfold Region.free
      rw [h0]
      simp only
      rw [List.all_eq_true]
      intro j hj
      have hjs : j < ops.size := List.mem_range.1 hj
      rcases Nat.lt_trichotomy j k with hjk | hjk | hjk
      · have : listed.getD j true = true := by rw [Array.getD_eq_getD_getElem?, hl j hjs]; simpa using hjk
        simp [this]
      · simp [hjk]
      · have hget : l[j - k - 1]? = ops[j]? := by
          have := hg (j - k)
          rw [show j - k = (j - k - 1) + 1 by omega, List.getElem?_cons_succ] at this
          rw [this]
          congr 1
          omega
        have hoj : ops[j]? = some ops[j] := Array.getElem?_eq_getElem hjs
        rw [hoj] at hget ⊢
        have hm := List.mem_of_getElem? hget
        have := (List.all_eq_true.1 h2) _ hm
        rw [Bool.or_eq_true]
        right
        exact this
    · have := hg (j + 1)
      rw [List.getElem?_cons_succ] at this
      rw [this]
      congr 1
      omega
    · rw [Array.getElem?_setIfInBounds]
      split
      · next h => subst h; simp
                  have := (Array.getElem?_eq_some_iff.1 (hl _ hj)).1
                  omega
      · next h =>
        rw [hl j hj]
        congr 1
        rw [Bool.eq_iff_iff]
        simp
        omega
theorem lexB_of {md : Region.Mode} {l : List Oper} (h : lexQ md l = true) : Region.lexB md l.toArray = true := by
  unfold lexQ at h
  rw [Bool.and_eq_true] at h
  unfold Region.lexB
  rw [Bool.and_eq_true]
  refine ⟨h.1, ?_⟩
  have := lexFrom_of md l.toArray l 0 (Array.replicate l.toArray.size false) (fun j => by simp) (by simp) (fun j hj => by simp at hj; simp [hj]) h.2
  simpa using this

theorem region_below {P : Program} {id : Nat} {Q : Exit → Act → World → Prop} {a : Act} {w : World} {d : Nat} {os : Array Obj} {l : List Oper} (hm : P.follows .mixedOrders = true) (hB : lexQ .any l = true)
    (h : wpQuiet P l.toArray (fun w' => ∃ p : Regrown, w' = grow (redrawn w p.d) p.os) (fun a' => ∀ w', (∃ p : Regrown, w' = grow (redrawn w p.d) p.os) → Q .normal a' w') l a) : (Code.region id l.toArray true).wp P Q a (grow (redrawn w d) os) :=
  wp_region_quiet (C := fun w' => ∃ p : Regrown, w' = grow (redrawn w p.d) p.os) hm (lexB_of hB) ⟨⟨d + 1, os⟩, rfl⟩ (by simpa using h)
/-- The same from a plain world on. -/
theorem region_below0 {P : Program} {id : Nat} {Q : Exit → Act → World → Prop} {a : Act} {w : World} {l : List Oper} (hm : P.follows .mixedOrders = true) (hB : lexQ .any l = true)
    (h : wpQuiet P l.toArray (fun w' => ∃ p : Regrown, w' = grow (redrawn w p.d) p.os) (fun a' => ∀ w', (∃ p : Regrown, w' = grow (redrawn w p.d) p.os) → Q .normal a' w') l a) : (Code.region id l.toArray true).wp P Q a w :=
  wp_region_quiet_below hm (lexB_of hB) h
end Go.Proofs.Ytdodogehlnchlaa
