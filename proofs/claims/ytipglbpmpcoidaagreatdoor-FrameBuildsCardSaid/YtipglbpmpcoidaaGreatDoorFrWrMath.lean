/-
  Plain mathematics: a text of clusters that fits stands in a row of blanks.
-/
import Derived.Test.YtipglbpmpcoidaaGreatDoorFrText
import Derived.Test.YtipglbpmpcoidaaGreatDoorFrLine
import Derived.Test.YtipglbpmpcoidaaGreatDoorGfF
namespace Go.Proofs.YtipglbpmpcoidaaGreatDoor
open Go.RowKit
set_option linter.unusedVariables false

theorem eb_le4 (xs : List Int) : (eb xs).length ≤ 4 * xs.length := by
  induction xs with
  | nil => simp [eb]
  | cons x xs ih => rw [eb_cons, List.length_append, List.length_cons]; have := e4_le x; omega
def runM (q : List (List Int) × List Int) : Nat := q.1.flatten.length + q.2.length
theorem fin_runM (q : List (List Int) × List Int) : (fin q).flatten.length ≤ runM q := by
  unfold fin runM
  split
  · omega
  · simp
theorem runM_step (q : List (List Int) × List Int) (r : Int) : runM (st2 q r) ≤ runM q + 1 := by
  rcases kinds r with hc | hm | hb
  · rw [st2_ct hc]; omega
  · rw [st2_mk hm.1 hm.2]
    unfold runM jn
    simp only
    split
    · omega
    · simp; omega
  · rw [st2_base hb]
    have := fin_runM q
    unfold runM at this ⊢
    simp only [List.length_cons, List.length_nil]
    omega
theorem runM_fold (xs : List Int) : ∀ q, runM (xs.foldl st2 q) ≤ runM q + xs.length := by
  induction xs with
  | nil => intro q; simp
  | cons x xs ih => intro q; rw [List.foldl_cons, List.length_cons]; have := ih (st2 q x); have := runM_step q x; omega
theorem cls_flat_le (xs : List Int) : (cls xs).flatten.length ≤ xs.length := by
  unfold cls
  have h1 := fin_runM (run xs)
  have h2 := runM_fold xs ([], [])
  have e : runM (([], []) : List (List Int) × List Int) = 0 := rfl
  unfold run at h1 ⊢
  omega
theorem flatB_le4 (s : List UInt8) : (flatB s).length ≤ 4 * s.length := by
  unfold flatB cleanB
  have h1 := eb_le4 (cls (rs (s.map fl1))).flatten
  have h2 := cls_flat_le (rs (s.map fl1))
  have h3 : (rs (s.map fl1)).length ≤ s.length := by unfold rs; rw [List.length_map]; have := rnsOf_le (s.map fl1); simpa using this
  omega
theorem fex_take (s : ByteArray) (k : Nat) (hk : k ≤ s.size) : s.extract 0 k = ⟨(s.data.toList.take k).toArray⟩ := by
  apply ByteArray.ext
  apply Array.ext'
  simp
theorem fl1_big {x : Int} (h0 : 0 ≤ x) (h1 : x ≤ 255) (h : x ≠ 9 ∧ x ≠ 10 ∧ x ≠ 13) : fl1 (by8 x) = by8 x :=
  fl1_no _ (by rw [by8_val _ h0 (by omega)]; exact h.1) (by rw [by8_val _ h0 (by omega)]; exact h.2.1) (by rw [by8_val _ h0 (by omega)]; exact h.2.2)
theorem fl1_enc {r : Int} (h : isR r) (hc : ctB r = false) : (enc r).map fl1 = enc r := by
  unfold isR at h
  unfold ctB at hc
  simp at hc
  unfold enc
  split
  · simp only [List.map_cons, List.map_nil]
    rw [fl1_big (by omega) (by omega) (by omega)]
  · split
    · simp only [List.map_cons, List.map_nil]
      rw [fl1_big (by omega) (by omega) (by omega), fl1_big (by omega) (by omega) (by omega)]
    · split
      · simp only [List.map_cons, List.map_nil]
        rw [fl1_big (by omega) (by omega) (by omega), fl1_big (by omega) (by omega) (by omega), fl1_big (by omega) (by omega) (by omega)]
      · simp only [List.map_cons, List.map_nil]
        rw [fl1_big (by omega) (by omega) (by omega), fl1_big (by omega) (by omega) (by omega), fl1_big (by omega) (by omega) (by omega), fl1_big (by omega) (by omega) (by omega)]
theorem fl1_eb (xs : List Int) (h : ∀ r ∈ xs, isR r ∧ ctB r = false) : (eb xs).map fl1 = eb xs := by
  induction xs with
  | nil => rfl
  | cons r xs ih =>
    rw [eb_cons, List.map_append, ih (fun x hx => h x (by simp [hx]))]
    congr 1
    unfold e4
    rw [rfix_of (h r (by simp)).1]
    exact fl1_enc (h r (by simp)).1 (h r (by simp)).2
theorem wf_ct {c : List Int} (h : wf c) : ∀ r ∈ c, isR r ∧ ctB r = false := by
  obtain ⟨b, ms, rfl, hb, hms, _, hR⟩ := h
  intro r hr
  refine ⟨hR r hr, ?_⟩
  rcases List.mem_cons.1 hr with rfl | hr
  · exact hb.1
  · exact (hms r hr).1
theorem flat_wf {ds : List (List Int)} (h : ∀ c ∈ ds, wf c) : flatB (eb ds.flatten) = eb ds.flatten ∧ fcs (eb ds.flatten) = ds.map eb := by
  have h1 : (eb ds.flatten).map fl1 = eb ds.flatten := fl1_eb _ (fun r hr => by
    obtain ⟨c, hc, hrc⟩ := List.mem_flatten.1 hr
    exact wf_ct (h c hc) r hrc)
  have h2 : flatB (eb ds.flatten) = eb ds.flatten := by
    unfold flatB cleanB
    rw [h1, rs_eb (flat_isR h), cls_flat h]
  refine ⟨h2, ?_⟩
  unfold fcs
  rw [h2, rs_eb (flat_isR h), cls_flat h]

/-- a cluster's cells -/
def cellsOf (y : Sty) (ds : List (List Int)) : List Cl := ds.flatMap fun c => if wc c = 2 then [⟨eb c, 2, y⟩, tail_ y] else [⟨eb c, 1, y⟩]
theorem cellsOf_line (y : Sty) (ds : List (List Int)) : lineM (cellsOf y ds) = eb ds.flatten := by
  induction ds with
  | nil => rfl
  | cons c ds ih =>
    have e : cellsOf y (c :: ds) = (if wc c = 2 then [⟨eb c, 2, y⟩, tail_ y] else [⟨eb c, 1, y⟩]) ++ cellsOf y ds := by simp [cellsOf]
    rw [e, lineM_append, ih, List.flatten_cons, eb_append]
    congr 1
    split <;> simp [lineM, tail_]
theorem wf_wc {c : List Int} (h : wf c) : wc c = 1 ∨ wc c = 2 := by
  have := wf_fw h
  rw [rs_wf h, fw_wf h] at this
  omega
theorem cellsOf_len (y : Sty) {ds : List (List Int)} (h : ∀ c ∈ ds, wf c) : ((cellsOf y ds).length : Int) = sumC ds := by
  induction ds with
  | nil => rfl
  | cons c ds ih =>
    have e : cellsOf y (c :: ds) = (if wc c = 2 then [⟨eb c, 2, y⟩, tail_ y] else [⟨eb c, 1, y⟩]) ++ cellsOf y ds := by simp [cellsOf]
    have hw := wf_wc (h c (by simp))
    rw [e, List.length_append, sumC_cons, Int.natCast_add, ih (fun d hd => h d (by simp [hd]))]
    split
    · next h2 => rw [h2]; rfl
    · next h2 => rw [hw.resolve_right h2]; rfl
theorem blankM_bl {l : List Cl} {k : Nat} (h : l[k]? = some bl) : blankM l k = l := by
  unfold blankM
  rw [h]
  simp only
  rw [if_neg (by decide), if_neg (by decide)]
  have hk : k < l.length := (List.getElem?_eq_some_iff.1 h).1
  refine List.ext_getElem? fun i => ?_
  by_cases e : i = k
  · subst e; rw [List.getElem?_set_self hk, h]
  · rw [List.getElem?_set_ne (by omega)]
theorem put1 (P Q : List Cl) (s : List UInt8) (y : Sty) : putR (P ++ bl :: Q) P.length s 1 y = P ++ ⟨s, 1, y⟩ :: Q := by
  unfold putR
  rw [if_neg (by omega)]
  have e : eraseM (P ++ bl :: Q) P.length 1 = P ++ bl :: Q := by
    show blankM _ _ = _
    exact blankM_bl (by simp)
  rw [e, List.set_append_right _ _ (Nat.le_refl _), Nat.sub_self]
  rfl
theorem put2 (P Q : List Cl) (s : List UInt8) (y : Sty) : putR (P ++ bl :: bl :: Q) P.length s 2 y = P ++ ⟨s, 2, y⟩ :: tail_ y :: Q := by
  unfold putR
  rw [if_pos rfl]
  have e : eraseM (P ++ bl :: bl :: Q) P.length 2 = P ++ bl :: bl :: Q := by
    have e1 : (P ++ bl :: bl :: Q)[P.length]? = some bl := by simp
    have e2 : (P ++ bl :: bl :: Q)[P.length + 1]? = some bl := by rw [List.getElem?_append_right (by omega), show P.length + 1 - P.length = 1 by omega]; rfl
    show blankM (blankM (P ++ bl :: bl :: Q) P.length) (P.length + 1) = _
    rw [blankM_bl e1, blankM_bl e2]
  rw [e, List.set_append_right _ _ (Nat.le_refl _), Nat.sub_self, List.set_append_right _ _ (by omega), show P.length + 1 - P.length = 1 by omega]
  rfl
/-- Each cluster that fits takes the next blanks. -/
theorem write_fold (L : List (List Cl)) (hL : L.length = 2) (y : Sty) (ds : List (List Int)) : ∀ (P : List Cl) (m W : Nat), (∀ c ∈ ds, wf c) → W = P.length + m → sumC ds ≤ m →
    (ds.map eb).foldl (tst W 1 y) ((L.set 1 (P ++ List.replicate m bl), (P.length : Int)), false) =
      ((L.set 1 (P ++ cellsOf y ds ++ List.replicate (m - (sumC ds).toNat) bl), (P.length : Int) + sumC ds), false) := by
  induction ds with
  | nil => intro P m W _ _ _; simp [cellsOf, sumC]
  | cons c ds ih =>
    intro P m W h hW hm
    have hc := h c (by simp)
    have hw := wf_wc hc
    have hs := sumC_bd ds
    rw [sumC_cons] at hm
    have hfw : fw (rs (eb c)) = wc c := by rw [rs_wf hc, fw_wf hc]
    have his := isC_fw (fisC_wf hc)
    have e : cellsOf y (c :: ds) = (if wc c = 2 then [⟨eb c, 2, y⟩, tail_ y] else [⟨eb c, 1, y⟩]) ++ cellsOf y ds := by simp [cellsOf]
    rw [List.map_cons, List.foldl_cons]
    have hstep : tst W 1 y ((L.set 1 (P ++ List.replicate m bl), (P.length : Int)), false) (eb c) =
        ((L.set 1 (P ++ (if wc c = 2 then [⟨eb c, 2, y⟩, tail_ y] else [⟨eb c, 1, y⟩]) ++ List.replicate (m - (wc c).toNat) bl), (P.length : Int) + wc c), false) := by
      unfold tst
      simp only [Bool.false_eq_true, if_false]
      rw [hfw, if_neg (by omega)]
      congr 2
      unfold putM
      rw [if_neg (by rintro (h1 | h1 | ⟨h1, h2⟩); exact his.2.1 h1; omega; omega), if_neg (by
        rintro (h1 | h1)
        · simp [inB, hL] at h1; omega
        · simp [inB, hL] at h1; omega)]
      simp only
      have hg : (L.set 1 (P ++ List.replicate m bl)).getD (1 : Int).toNat [] = P ++ List.replicate m bl := by
        simp [List.getD, hL]
      rw [hg, Int.toNat_natCast, show (1 : Int).toNat = 1 from rfl, List.set_set]
      congr 1
      rcases hw with h1 | h1
      · rw [h1, if_neg (by omega), show (1 : Int).toNat = 1 from rfl]
        obtain ⟨m', rfl⟩ : ∃ m', m = m' + 1 := ⟨m - 1, by omega⟩
        rw [List.replicate_succ, put1, show m' + 1 - 1 = m' by omega, List.append_assoc]
        rfl
      · rw [h1, if_pos rfl, show (2 : Int).toNat = 2 from rfl]
        obtain ⟨m', rfl⟩ : ∃ m', m = m' + 2 := ⟨m - 2, by omega⟩
        rw [show m' + 2 = (m' + 1) + 1 by omega, List.replicate_succ, List.replicate_succ, put2, show m' + 1 + 1 - 2 = m' by omega, List.append_assoc]
        rfl
    rw [hstep]
    have hlen : ((P ++ (if wc c = 2 then [⟨eb c, 2, y⟩, tail_ y] else [⟨eb c, 1, y⟩])).length : Int) = (P.length : Int) + wc c := by
      rw [List.length_append, Int.natCast_add]
      rcases hw with h1 | h1
      · rw [h1, if_neg (by omega)]; rfl
      · rw [h1, if_pos rfl]; rfl
    have := ih (P ++ (if wc c = 2 then [⟨eb c, 2, y⟩, tail_ y] else [⟨eb c, 1, y⟩])) (m - (wc c).toNat) W (fun d hd => h d (by simp [hd])) (by omega) (by omega)
    rw [hlen] at this
    rw [this, e, sumC_cons]
    rw [show m - (wc c).toNat - (sumC ds).toNat = m - (wc c + sumC ds).toNat by omega, ← List.append_assoc P, Int.add_assoc]
theorem write_text {n at_ : Nat} (h : at_ ≤ n) (y : Sty) {ds : List (List Int)} (hw : ∀ c ∈ ds, wf c) (hs : sumC ds ≤ n - at_) :
    ftextM n (blankG n 2) 1 at_ y (fcs (eb ds.flatten)) = ((blankG n 2).set 1 (List.replicate at_ bl ++ cellsOf y ds ++ List.replicate (n - at_ - (sumC ds).toNat) bl), (at_ : Int) + sumC ds) := by
  have hL : (blankG n 2).length = 2 := by simp [blankG]
  have h0 : (blankG n 2).set 1 (List.replicate at_ bl ++ List.replicate (n - at_) bl) = blankG n 2 := by
    rw [List.replicate_append_replicate, show at_ + (n - at_) = n by omega]
    rfl
  unfold ftextM
  rw [(flat_wf hw).2]
  have := write_fold (blankG n 2) hL y ds (List.replicate at_ bl) (n - at_) n hw (by simp; omega) (by omega)
  rw [h0, List.length_replicate] at this
  rw [this]
theorem fit_is (m : Int) {cs : List (List Int)} (h : ∀ c ∈ cs, wf c) : FitR m (prs 0 cs) = (eb (fitC m 0 cs).flatten, sumC (fitC m 0 cs)) := by
  have hd : ∀ c ∈ fitC m 0 cs, wf c := fun c hc => h c ((fitC_pre m cs 0).subset hc)
  unfold FitR
  rw [fit_prs cs 0 h, txs_prs, last_prs hd, eb_flatten]
theorem sumC_ge {ds : List (List Int)} (h : ∀ c ∈ ds, wf c) : (ds.length : Int) ≤ sumC ds := by
  induction ds with
  | nil => simp [sumC]
  | cons c ds ih =>
    have h1 := ih (fun d hd => h d (by simp [hd]))
    have h2 := wf_wc (h c (by simp))
    rw [sumC_cons, List.length_cons]
    omega
/-- what the law's text comes to -/
structure Wrt (n p : Nat) (y : Sty) (t : List UInt8) (k : Nat) (C : List Cl) : Prop where
  len : C.length = k
  fit : p + k ≤ n
  line : lineM C = t
  t64 : t.length ≤ 10000
  txt : ftxt n (blankG n 2) 1 p t y = ((blankG n 2).set 1 (List.replicate p bl ++ C ++ List.replicate (n - p - k) bl), (p : Int) + k, 0)
theorem wrt_of {n p : Nat} (y : Sty) (l : List UInt8) (hp : p < n) (hn : n ≤ 100) (hy : styB y = true) :
    ∃ (t : List UInt8) (k : Nat) (C : List Cl), FitR ((n : Int) - p) (prs 0 (cls (rs (flatB l)))) = (t, (k : Int)) ∧ Wrt n p y t k C := by
  have hw := cls_wf (rs_isR (flatB l))
  generalize cls (rs (flatB l)) = cs at hw
  have hd : ∀ c ∈ fitC ((n : Int) - p) 0 cs, wf c := fun c hc => hw c ((fitC_pre _ cs 0).subset hc)
  have hle : sumC (fitC ((n : Int) - p) 0 cs) ≤ n - p := by
    rcases fitC_le ((n : Int) - p) cs 0 with h | h
    · rw [h]; simp [sumC]; omega
    · omega
  refine ⟨_, (cellsOf y (fitC ((n : Int) - p) 0 cs)).length, cellsOf y (fitC ((n : Int) - p) 0 cs), ?_, rfl, ?_, cellsOf_line y _, ?_, ?_⟩
  · rw [fit_is _ hw, cellsOf_len y hd]
  · have := cellsOf_len y hd; omega
  · have h1 := eb_flat_le _ hd
    have h2 := sumC_ge hd
    omega
  · have hk := cellsOf_len y hd
    have hwt := write_text (n := n) (at_ := p) (by omega) y hd hle
    unfold ftxt
    rw [if_neg (by
      have e1 : fwithB 1 ((blankG n 2).length : Int) = true := by unfold fwithB; simp [blankG]
      have e2 : fwithB p ((n : Int) + 1) = true := by unfold fwithB; simp; omega
      rw [e1, e2]; decide), if_neg (by rw [hy]; decide), hwt, ← hk]
    simp
end Go.Proofs.YtipglbpmpcoidaaGreatDoor
