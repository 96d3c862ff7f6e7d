/-
  Plain mathematics: clusters that fit, printed on a new terminal, stand in its first row.
-/
import Derived.Test.YtcgjanjllfcnoaaGreatDoorTmWrM
import Derived.Test.YtcgjanjllfcnoaaGreatDoorTmOne
import Derived.Test.YtcgjanjllfcnoaaGreatDoorGbT1
import Derived.Test.YtcgjanjllfcnoaaGreatDoorGfF
import Derived.Test.YtcgjanjllfcnoaaGreatDoorGfC
import Derived.Test.YtcgjanjllfcnoaaGreatDoorGfR
namespace Go.Proofs.YtcgjanjllfcnoaaGreatDoor
open Go.RowKit
set_option linter.unusedVariables false

theorem pl_first {r : Int} (hr : isR r) (hc : ctB r = false) : ∃ c t, e4 r = c :: t ∧ c ≠ 27 ∧ ¬ (c < 32 ∨ c = 127) := by
  unfold ctB at hc
  simp at hc
  obtain ⟨r0, r1, r2⟩ := hr
  have key : ∀ x : Int, 32 ≤ x → x < 256 → x ≠ 127 → by8 x ≠ 27 ∧ ¬ (by8 x < 32 ∨ by8 x = 127) := fun x h0 h1 h2 => by
    have hv := by8_val x (by omega) h1
    refine ⟨fun e => ?_, fun e => ?_⟩
    · rw [e] at hv; simp at hv; omega
    · rcases e with e | e
      · have := UInt8.lt_iff_toNat_lt.1 e
        simp at this
        omega
      · rw [e] at hv; simp at hv; omega
  unfold e4
  rw [rfix_of ⟨r0, r1, r2⟩]
  unfold enc
  split
  · exact ⟨_, _, rfl, key r (by omega) (by omega) (by omega)⟩
  · split
    · exact ⟨_, _, rfl, key _ (by omega) (by omega) (by omega)⟩
    · split
      · exact ⟨_, _, rfl, key _ (by omega) (by omega) (by omega)⟩
      · exact ⟨_, _, rfl, key _ (by omega) (by omega) (by omega)⟩
theorem pl_step (T : TS) {r : Int} (hr : isR r) (hc : ctB r = false) (l : List UInt8) : stepT T (e4 r ++ l) = (runeT T r, (e4 r).length) := by
  have hn : nx (e4 r ++ l) = (r, ((e4 r).length : Int), false) := by unfold e4; rw [rfix_of hr]; exact nx_enc r hr l
  obtain ⟨c, t, he, h1, h2⟩ := pl_first hr hc
  rw [he] at hn ⊢
  rw [List.cons_append] at hn ⊢
  rw [stepT_rune h1 h2, hn]
  simp
theorem pl_runes (xs : List Int) : ∀ T, (∀ r ∈ xs, isR r ∧ ctB r = false) → bytesT T (eb xs) = (xs.foldl runeT T, []) := by
  induction xs with
  | nil => intro T _; rfl
  | cons r xs ih =>
    intro T h
    obtain ⟨h1, h2⟩ := h r (by simp)
    have hs := pl_step T h1 h2 (eb xs)
    have hp := e4_le r
    rw [eb_cons, bytesT_step (by rw [hs]; simp only; omega), hs]
    simp only [List.drop_left, List.foldl_cons]
    exact ih _ (fun x hx => h x (by simp [hx]))
theorem pl_ct {c : List Int} (h : wf c) : ∀ r ∈ c, isR r ∧ ctB r = false := by
  obtain ⟨b, ms, rfl, hb, hms, _, hR⟩ := h
  intro r hr
  refine ⟨hR r hr, ?_⟩
  rcases List.mem_cons.1 hr with rfl | hr
  · exact hb.1
  · exact (hms r hr).1
theorem pl_wc {c : List Int} (h : wf c) : wc c = 1 ∨ wc c = 2 := by
  obtain ⟨b, ms, rfl, hb, hms, _, hR⟩ := h
  have := ofI_base (hR b (by simp)) hb
  unfold wc
  simp only [List.headD_cons]
  omega
def plC (c : List Int) : List Cl := if wc c = 2 then [⟨eb c, 2, Sty.zero⟩, tail_ Sty.zero] else [⟨eb c, 1, Sty.zero⟩]
def plCells (ds : List (List Int)) : List Cl := ds.flatMap plC
theorem plC_len {c : List Int} (h : wf c) : ((plC c).length : Int) = wc c := by
  unfold plC
  rcases pl_wc h with e | e
  · rw [e, if_neg (by omega)]; rfl
  · rw [e, if_pos rfl]; rfl
theorem plCells_len {ds : List (List Int)} (h : ∀ c ∈ ds, wf c) : ((plCells ds).length : Int) = sumC ds := by
  induction ds with
  | nil => rfl
  | cons c ds ih =>
    have e : plCells (c :: ds) = plC c ++ plCells ds := by simp [plCells]
    rw [e, List.length_append, sumC_cons, Int.natCast_add, ih (fun d hd => h d (by simp [hd])), plC_len (h c (by simp))]
theorem pl_blank {l : List Cl} {k : Nat} (h : l[k]? = some bl) : blankM l k = l := by
  unfold blankM
  rw [h]
  simp only
  rw [if_neg (by decide), if_neg (by decide)]
  have hk : k < l.length := (List.getElem?_eq_some_iff.1 h).1
  refine List.ext_getElem? fun i => ?_
  by_cases e : i = k
  · subst e; rw [List.getElem?_set_self hk, h]
  · rw [List.getElem?_set_ne (by omega)]
theorem pl_put1 (P Q : List Cl) (s : List UInt8) (y : Sty) : putR (P ++ bl :: Q) P.length s 1 y = P ++ ⟨s, 1, y⟩ :: Q := by
  unfold putR
  rw [if_neg (by omega)]
  have e : eraseM (P ++ bl :: Q) P.length 1 = P ++ bl :: Q := by
    show blankM _ _ = _
    exact pl_blank (by simp)
  rw [e, List.set_append_right _ _ (Nat.le_refl _), Nat.sub_self]
  rfl
theorem pl_put2 (P Q : List Cl) (s : List UInt8) (y : Sty) : putR (P ++ bl :: bl :: Q) P.length s 2 y = P ++ ⟨s, 2, y⟩ :: tail_ y :: Q := by
  unfold putR
  rw [if_pos rfl]
  have e : eraseM (P ++ bl :: bl :: Q) P.length 2 = P ++ bl :: bl :: Q := by
    have e1 : (P ++ bl :: bl :: Q)[P.length]? = some bl := by simp
    have e2 : (P ++ bl :: bl :: Q)[P.length + 1]? = some bl := by rw [List.getElem?_append_right (by omega), show P.length + 1 - P.length = 1 by omega]; rfl
    show blankM (blankM (P ++ bl :: bl :: Q) P.length) (P.length + 1) = _
    rw [pl_blank e1, pl_blank e2]
  rw [e, List.set_append_right _ _ (Nat.le_refl _), Nat.sub_self, List.set_append_right _ _ (by omega), show P.length + 1 - P.length = 1 by omega]
  rfl

/-- a terminal of two rows, the first of which bears cells and then blanks; the last one that was stored begins at lc -/
def plT (P : List Cl) (m lc : Nat) (j : Bool) : TS :=
  ⟨P.length + m, [P ++ List.replicate m bl, List.replicate (P.length + m) bl], 0, if m = 0 then P.length - 1 else P.length, Sty.zero, decide (m = 0), true, false, 0, 0, 0, lc, j⟩
theorem plT_new (m : Nat) (h : 0 < m) : tmNew m 2 = plT [] m 0 false := by
  unfold tmNew plT
  simp only [List.length_nil, Nat.zero_add, List.nil_append]
  rw [if_neg (by omega), decide_eq_false (by omega)]
  rfl
theorem pl_base (P : List Cl) (m lc : Nat) (j : Bool) {b : Int} (hr : isR b) (hb : isB b) (hm : ofI b ≤ m) :
    runeT (plT P m lc j) b = plT (P ++ plC [b]) (m - (ofI b).toNat) P.length true := by
  obtain ⟨h1, h2⟩ := ofI_base hr hb
  have hwc : wc [b] = ofI b := rfl
  have he := e4_le b
  have heb : eb [b] = e4 b := by rw [eb_cons, eb_nil, List.append_nil]
  unfold runeT
  rw [if_pos (by omega)]
  unfold printT
  have hW : (plT P m lc j).W = P.length + m := rfl
  rw [hW, if_neg (by omega)]
  have hm0 : m ≠ 0 := by omega
  have hcol : (plT P m lc j).col = P.length := if_neg hm0
  have hpend : (plT P m lc j).pend = false := decide_eq_false hm0
  rw [hcol, hpend, if_neg (by rintro (h | h); cases h; omega)]
  have hput : (putM (plT P m lc j).W (plT P m lc j).L (plT P m lc j).row (plT P m lc j).col (e4 b) ((ofI b).toNat : Nat) (plT P m lc j).y).1 =
      [P ++ plC [b] ++ List.replicate (m - (ofI b).toNat) bl, List.replicate (P.length + m) bl] := by
    rw [hW, hcol]
    show (putM (P.length + m) [P ++ List.replicate m bl, List.replicate (P.length + m) bl] (0 : Nat) P.length (e4 b) ((ofI b).toNat : Nat) Sty.zero).1 = _
    unfold putM
    rw [if_neg (by rintro (e | e | ⟨e, e'⟩); rw [e] at he; simp at he; omega; omega), if_neg (by
      rintro (e | e)
      · simp [inB] at e; omega
      · simp [inB] at e; omega)]
    simp only [Int.toNat_natCast, List.getD_cons_zero, List.set_cons_zero]
    congr 1
    unfold plC
    rw [hwc, heb]
    rcases (by omega : ofI b = 1 ∨ ofI b = 2) with e | e
    · rw [e, if_neg (by omega), show (1 : Int).toNat = 1 from rfl]
      obtain ⟨m', rfl⟩ : ∃ m', m = m' + 1 := ⟨m - 1, by omega⟩
      rw [List.replicate_succ, pl_put1, show m' + 1 - 1 = m' by omega, List.append_assoc]
      rfl
    · rw [e, if_pos rfl, show (2 : Int).toNat = 2 from rfl]
      obtain ⟨m', rfl⟩ : ∃ m', m = m' + 2 := ⟨m - 2, by omega⟩
      rw [show m' + 2 = (m' + 1) + 1 by omega, List.replicate_succ, List.replicate_succ, pl_put2, show m' + 1 + 1 - 2 = m' by omega, List.append_assoc]
      rfl
  have hlen : (plC [b]).length = (ofI b).toNat := by
    unfold plC
    rw [hwc]
    rcases (by omega : ofI b = 1 ∨ ofI b = 2) with e | e
    · rw [e, if_neg (by omega)]; rfl
    · rw [e, if_pos rfl]; rfl
  unfold storeT
  rw [show enc (rfix b) = e4 b from rfl, hput, hcol, hW, hpend]
  unfold plT
  have hPl : (P ++ plC [b]).length = P.length + (ofI b).toNat := by rw [List.length_append, hlen]
  have hsum : (P ++ plC [b]).length + (m - (ofI b).toNat) = P.length + m := by rw [hPl]; omega
  rw [hsum, hPl]
  by_cases hz : m - (ofI b).toNat = 0
  · have hk : (ofI b).toNat = m := by omega
    simp [hk]
  · have hk : ¬ (ofI b).toNat = m := by omega
    simp [hk, hz]
theorem pl_mark (P : List Cl) (m : Nat) {c : List Int} {r : Int} (hr : isR r) (hm : isM r) (hc : c ≠ []) (h64 : (eb (c ++ [r])).length ≤ 64) (hw : wc c = 1 ∨ wc c = 2) :
    runeT (plT (P ++ plC c) m P.length true) r = plT (P ++ plC (c ++ [r])) m P.length true := by
  have hwc : wc (c ++ [r]) = wc c := by
    obtain ⟨b, l, rfl⟩ := List.exists_cons_of_ne_nil hc
    rfl
  have hl : (plC (c ++ [r])).length = (plC c).length := by unfold plC; rw [hwc]; split <;> rfl
  have hl1 : 1 ≤ (plC c).length := by unfold plC; split <;> simp
  unfold runeT
  rw [ofI_mk hm.2, if_neg (by omega), if_pos hm.2]
  unfold markT
  rw [if_pos (show (plT (P ++ plC c) m P.length true).joins = true from rfl)]
  unfold plT
  simp only
  have hLn : (P ++ plC (c ++ [r])).length = (P ++ plC c).length := by rw [List.length_append, List.length_append, hl]
  rw [hLn]
  congr 1
  unfold joinM
  have hin : inB ((0 : Nat) : Int) (P.length : Nat) ((P ++ plC c).length + m) 2 = true := by simp [inB]; omega
  simp only [List.length_cons, List.length_nil, Nat.zero_add]
  rw [if_neg (by rw [hin]; decide)]
  simp only [Int.toNat_natCast, List.getD_cons_zero, List.set_cons_zero]
  congr 1
  rw [eb_snoc] at h64
  have hll : (eb c).length + (e4 r).length ≤ 64 := by rw [← List.length_append]; exact h64
  unfold plC
  rw [hwc]
  have hgo : ∀ (x : Cl) (Q : List Cl), x.w ≠ 0 → x.s = eb c → (joinR (P ++ x :: Q) P.length (enc (rfix r))).1 = P ++ { x with s := eb (c ++ [r]) } :: Q := fun x Q hx hs => by
    have hk : joinK (P ++ x :: Q) P.length = P.length := by
      unfold joinK
      simp [hx]
    unfold joinR
    rw [hk, show (P ++ x :: Q)[P.length]? = some x by simp]
    simp only
    rw [hs, show enc (rfix r) = e4 r from rfl, if_neg (by omega)]
    simp only
    rw [List.set_append_right _ _ (Nat.le_refl _), Nat.sub_self, eb_snoc]
    rfl
  split
  · rw [List.append_assoc, List.append_assoc]
    exact hgo ⟨eb c, 2, Sty.zero⟩ _ (by show (2 : Int) ≠ 0; omega) rfl
  · rw [List.append_assoc, List.append_assoc]
    exact hgo ⟨eb c, 1, Sty.zero⟩ _ (by show (1 : Int) ≠ 0; omega) rfl
theorem pl_marks (P : List Cl) (m : Nat) (ms : List Int) : ∀ c : List Int, c ≠ [] → (∀ r ∈ ms, isR r ∧ isM r) → (eb (c ++ ms)).length ≤ 64 → (wc c = 1 ∨ wc c = 2) →
    ms.foldl runeT (plT (P ++ plC c) m P.length true) = plT (P ++ plC (c ++ ms)) m P.length true := by
  induction ms with
  | nil => intro c _ _ _ _; rw [List.append_nil]; rfl
  | cons r ms ih =>
    intro c hc h h64 hw
    have e : c ++ r :: ms = (c ++ [r]) ++ ms := by simp
    rw [List.foldl_cons, pl_mark P m (h r (by simp)).1 (h r (by simp)).2 hc (by
      rw [e, eb_append, List.length_append] at h64; omega) hw, e]
    refine ih (c ++ [r]) (by simp) (fun x hx => h x (by simp [hx])) (by rw [← e]; exact h64) ?_
    obtain ⟨b, l, rfl⟩ := List.exists_cons_of_ne_nil hc
    exact hw
theorem pl_cluster (P : List Cl) (m lc : Nat) (j : Bool) {c : List Int} (h : wf c) (hm : wc c ≤ m) :
    c.foldl runeT (plT P m lc j) = plT (P ++ plC c) (m - (wc c).toNat) P.length true := by
  have hw := pl_wc h
  obtain ⟨b, ms, rfl, hb, hms, h64, hR⟩ := h
  rw [List.foldl_cons, pl_base P m lc j (hR b (by simp)) hb hm]
  have := pl_marks P (m - (ofI b).toNat) ms [b] (by simp) (fun r hr => ⟨hR r (by simp [hr]), hms r hr⟩) h64 hw
  exact this
theorem pl_all (ds : List (List Int)) : ∀ (P : List Cl) (m lc : Nat) (j : Bool), (∀ c ∈ ds, wf c) → sumC ds ≤ m →
    ∃ lc' j', ds.flatten.foldl runeT (plT P m lc j) = plT (P ++ plCells ds) (m - (sumC ds).toNat) lc' j' := by
  induction ds with
  | nil => intro P m lc j _ _; exact ⟨lc, j, by simp [plCells, sumC]⟩
  | cons c ds ih =>
    intro P m lc j h hs
    have hb := sumC_bd ds
    have hw := pl_wc (h c (by simp))
    rw [sumC_cons] at hs
    rw [List.flatten_cons, List.foldl_append, pl_cluster P m lc j (h c (by simp)) (by omega)]
    obtain ⟨lc', j', e⟩ := ih (P ++ plC c) (m - (wc c).toNat) P.length true (fun d hd => h d (by simp [hd])) (by omega)
    refine ⟨lc', j', ?_⟩
    rw [e, sumC_cons, show m - (wc c).toNat - (sumC ds).toNat = m - (wc c + sumC ds).toNat by omega, List.append_assoc]
    rfl
theorem pl_fit (m : Int) {cs : List (List Int)} (h : ∀ c ∈ cs, wf c) : FitR m (prs 0 cs) = (eb (fitC m 0 cs).flatten, sumC (fitC m 0 cs)) := by
  have hd : ∀ c ∈ fitC m 0 cs, wf c := fun c hc => h c ((fitC_pre m cs 0).subset hc)
  unfold FitR
  rw [fit_prs cs 0 h, txs_prs, last_prs hd, eb_flatten]
/-- the cell at which a cluster begins -/
theorem plCells_at {ds : List (List Int)} (h : ∀ c ∈ ds, wf c) {i : Nat} {c : List Int} (hc : ds[i]? = some c) (Q : List Cl) : (plCells ds ++ Q)[(sumC (ds.take i)).toNat]? = some ⟨eb c, wc c, Sty.zero⟩ := by
  have hi : i < ds.length := (List.getElem?_eq_some_iff.1 hc).1
  have e : ds = ds.take i ++ c :: ds.drop (i + 1) := by
    rw [List.getElem?_eq_getElem hi] at hc
    obtain rfl := Option.some.inj hc
    have h1 := (List.take_append_drop i ds).symm
    rwa [List.drop_eq_getElem_cons hi] at h1
  have hl := plCells_len (ds := ds.take i) (fun d hd => h d (List.mem_of_mem_take hd))
  have hw := pl_wc (h c (List.mem_of_getElem? hc))
  have e2 : plCells ds = plCells (ds.take i) ++ (plC c ++ plCells (ds.drop (i + 1))) := by
    conv => lhs; rw [e]
    simp [plCells]
  rw [e2, ← hl, Int.toNat_natCast, List.append_assoc, List.getElem?_append_right (Nat.le_refl _), Nat.sub_self]
  unfold plC
  rcases hw with h1 | h1
  · rw [h1, if_neg (by omega)]; rfl
  · rw [h1, if_pos rfl]; rfl
/-- what the law's text comes to -/
structure Pl (x : Nat) (t : List UInt8) (n : Nat) (ds : List (List Int)) : Prop where
  wfs : ∀ c ∈ ds, wf c
  sum : sumC ds = n
  le : n ≤ x
  text : t = eb ds.flatten
  cut : cls (rs t) = ds
  t64 : t.length ≤ 64 * n
  num : ds.length ≤ n
  shown : ∃ lc j, bytesT (tmNew x 2) t = (plT (plCells ds) (x - n) lc j, [])
theorem pl_sum {ds : List (List Int)} (h : ∀ c ∈ ds, wf c) : (ds.length : Int) ≤ sumC ds ∧ ((eb ds.flatten).length : Int) ≤ 64 * sumC ds := by
  induction ds with
  | nil => exact ⟨by simp [sumC], by simp [sumC, eb]⟩
  | cons c ds ih =>
    have h1 := ih (fun d hd => h d (by simp [hd]))
    have h2 := pl_wc (h c (by simp))
    have h3 : (eb c).length ≤ 64 := by obtain ⟨_, _, _, _, _, h64, _⟩ := h c (by simp); exact h64
    rw [sumC_cons, List.length_cons, List.flatten_cons, eb_append, List.length_append]
    omega
theorem pl_of {x : Nat} (l : List UInt8) (hx : 0 < x) : ∃ (t : List UInt8) (n : Nat) (ds : List (List Int)), FitR (x : Int) (prs 0 (cls (rs l))) = (t, (n : Int)) ∧ Pl x t n ds := by
  have hw := cls_wf (rs_isR l)
  generalize cls (rs l) = cs at hw
  have hd : ∀ c ∈ fitC (x : Int) 0 cs, wf c := fun c hc => hw c ((fitC_pre _ cs 0).subset hc)
  have hle : sumC (fitC (x : Int) 0 cs) ≤ x := by
    rcases fitC_le (x : Int) cs 0 with h | h
    · rw [h]; simp [sumC]
    · omega
  rw [pl_fit _ hw]
  generalize fitC (x : Int) 0 cs = ds at hd hle
  obtain ⟨n, hn⟩ : ∃ n : Nat, sumC ds = n := ⟨(sumC ds).toNat, by have := sumC_bd ds; omega⟩
  have hs := pl_sum hd
  refine ⟨eb ds.flatten, n, ds, by rw [hn], hd, hn, by omega, rfl, by rw [rs_eb (flat_isR hd), cls_flat hd], by omega, by omega, ?_⟩
  have hr : ∀ r ∈ ds.flatten, isR r ∧ ctB r = false := fun r hr => by
    obtain ⟨c, hc, hrc⟩ := List.mem_flatten.1 hr
    exact pl_ct (hd c hc) r hrc
  obtain ⟨lc, j, e⟩ := pl_all ds [] x 0 false hd hle
  refine ⟨lc, j, ?_⟩
  rw [pl_runes _ _ hr, plT_new x hx, e, hn]
  rfl
end Go.Proofs.YtcgjanjllfcnoaaGreatDoor
