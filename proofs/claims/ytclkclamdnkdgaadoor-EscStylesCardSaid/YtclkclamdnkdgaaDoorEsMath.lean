/-
  Control sequences as plain mathematics: lists of bytes, numbers in decimal, what is left behind them, and what the numbers of a style change do.
-/
import Derived.Test.YtclkclamdnkdgaaDoorGrMath
import Derived.Lib.ItoaLen
namespace Go.Proofs.YtclkclamdnkdgaaDoor
open Go.RowKit
set_option linter.unusedVariables false
set_option linter.unusedSimpArgs false

/-- the numbers, a semicolon ahead of each but the first -/
def joinG : Bool → List Int → List UInt8
  | _, [] => []
  | b, n :: t => (if b = true then [] else [59]) ++ (Lib.itoa n ++ joinG false t)
theorem joinG_snoc (b : Bool) (l : List Int) (n : Int) : joinG b (l ++ [n]) = joinG b l ++ ((if b = true ∧ l = [] then [] else [59]) ++ Lib.itoa n) := by
  induction l generalizing b with
  | nil => simp [joinG]
  | cons m t ih =>
    rw [List.cons_append, joinG, ih, joinG]
    simp
theorem joinG_one (n : Int) : joinG true [n] = Lib.itoa n := by simp [joinG]
theorem joinG_take (l : List Int) (k : Nat) (h : k < l.length) : joinG true (l.take (k + 1)) = joinG true (l.take k) ++ ((if k = 0 then [] else [59]) ++ Lib.itoa l[k]) := by
  rw [List.take_add_one, List.getElem?_eq_getElem h, Option.toList_some, joinG_snoc]
  congr 2
  by_cases hk : k = 0
  · subst hk; simp
  · have : l.take k ≠ [] := by
      intro e
      have := congrArg List.length e
      rw [List.length_take, List.length_nil] at this
      omega
    simp [hk, this]
def i64s (l : List Int) : Prop := ∀ n ∈ l, -9223372036854775808 ≤ n ∧ n ≤ 9223372036854775807
theorem joinG_len (b : Bool) (l : List Int) (h : i64s l) : (joinG b l).length ≤ 22 * l.length := by
  induction l generalizing b with
  | nil => simp [joinG]
  | cons n t ih =>
    rw [joinG, List.length_append, List.length_append, List.length_cons]
    have h1 := ih false (fun m hm => h m (List.mem_cons_of_mem _ hm))
    have h2 := Lib.itoa_length_le n (h n List.mem_cons_self).1 (h n List.mem_cons_self).2
    cases b <;> simp <;> omega

def seqB (l : List Int) (c : UInt8) : List UInt8 := 27 :: 91 :: (joinG true l ++ [c])
def stepB (n : Int) (c : UInt8) : List UInt8 := if n < 1 then [] else seqB [min n 9999] c
def colB (n : Int) : List UInt8 := if n < 0 then [] else seqB [min n 9998 + 1] 71
def plc (n : Int) : Int := min (max n 0) 9998
def alongC (r t : Int) : List UInt8 := stepB (r - t) 65 ++ stepB (t - r) 66
def relR (c t : Int) : List UInt8 := stepB (t - c) 67 ++ stepB (c - t) 68
def alongR (c t : Int) : List UInt8 :=
  if c = t then [] else if t = 0 then [13] else if (colB t).length < (relR c t).length then colB t else relR c t
def moveB (r c t u : Int) : List UInt8 := alongC (plc r) (plc t) ++ alongR (plc c) (plc u)
theorem plc_ref (n : Int) : max 0 (min n 9998) = plc n := by unfold plc; omega
theorem plc_le (n : Int) : 0 ≤ plc n ∧ plc n ≤ 9998 := by unfold plc; omega

/-- the letters of the orders -/
def finB (o : Int) : UInt8 :=
  if o = 0 then 65 else if o = 1 then 66 else if o = 2 then 67 else if o = 3 then 68 else if o = 4 then 71 else if o = 5 then 74
  else if o = 6 then 75 else if o = 7 then 104 else if o = 8 then 108 else 109

def modeB (n : Int) (on : Bool) : List UInt8 := 27 :: 91 :: 63 :: (Lib.itoa n ++ [if on = true then 104 else 108])

/-! ### What is left behind the sequences -/
def isF (c : UInt8) : Prop := 64 ≤ c ∧ c ≤ 126
instance (c : UInt8) : Decidable (isF c) := inferInstanceAs (Decidable (_ ∧ _))
def skipB : List UInt8 → List UInt8
  | [] => []
  | c :: t => if isF c then t else skipB t
theorem skipB_le (l : List UInt8) : (skipB l).length ≤ l.length := by
  induction l with
  | nil => simp [skipB]
  | cons c t ih =>
    rw [skipB]
    split
    · simp
    · simp; omega
def stripB (l : List UInt8) : List UInt8 :=
  match l with
  | [] => []
  | c :: t => if c = 27 ∧ t.head? = some 91 then stripB (skipB t.tail) else (if 32 ≤ c then [c] else []) ++ stripB t
termination_by l.length
decreasing_by
  · have := skipB_le t.tail
    rw [List.length_tail] at this
    simp; omega
  · simp
theorem stripB_nil : stripB [] = [] := by rw [stripB]
theorem stripB_seq (t : List UInt8) : stripB (27 :: 91 :: t) = stripB (skipB t) := by rw [stripB]; simp
theorem stripB_one (c : UInt8) (t : List UInt8) (h : ¬ (c = 27 ∧ t.head? = some 91)) : stripB (c :: t) = (if 32 ≤ c then [c] else []) ++ stripB t := by rw [stripB, if_neg h]
theorem stripB_le (l : List UInt8) : (stripB l).length ≤ l.length := by
  induction hn : l.length using Nat.strongRecOn generalizing l with
  | _ n ih =>
    match l, hn with
    | [], _ => rw [stripB_nil]; simp
    | c :: t, hn =>
      rw [stripB]
      split
      · have h1 := skipB_le t.tail
        rw [List.length_tail] at h1
        simp at hn
        have := ih (skipB t.tail).length (by omega) _ rfl
        omega
      · simp at hn
        have := ih t.length (by omega) t rfl
        rw [List.length_append]
        split <;> simp <;> omega
theorem skipB_in (p : List UInt8) (hp : ∀ c ∈ p, ¬ isF c) (f : UInt8) (hf : isF f) (r : List UInt8) : skipB (p ++ f :: r) = r := by
  induction p with
  | nil => rw [List.nil_append, skipB, if_pos hf]
  | cons c t ih => rw [List.cons_append, skipB, if_neg (hp c List.mem_cons_self), ih (fun d hd => hp d (List.mem_cons_of_mem _ hd))]
theorem strip_in (p : List UInt8) (hp : ∀ c ∈ p, ¬ isF c) (f : UInt8) (hf : isF f) (r : List UInt8) : stripB (27 :: 91 :: (p ++ f :: r)) = stripB r := by
  rw [stripB_seq, skipB_in p hp f hf r]
theorem strip_low (c : UInt8) (h : c < 32) (h1 : c ≠ 27) (r : List UInt8) : stripB (c :: r) = stripB r := by
  rw [stripB_one c r (fun e => h1 e.1), if_neg (by exact UInt8.not_le.2 h)]
  rfl

/-! ### Digits -/
theorem dig_lo (k : Nat) (h : k < 10) : ¬ isF (UInt8.ofNat (48 + k)) := by
  have : ∀ k : Fin 10, ¬ isF (UInt8.ofNat (48 + k.val)) := by decide
  exact this ⟨k, h⟩
theorem dec_lo (u : Nat) : ∀ c ∈ Lib.decDigits u, ¬ isF c := by
  induction u using Nat.strongRecOn with
  | _ u ih =>
    intro c hc
    by_cases h : u < 10
    · rw [Lib.decDigits, dif_pos h] at hc
      rw [List.mem_singleton.1 hc]
      exact dig_lo u h
    · rw [Lib.decDigits, dif_neg h] at hc
      rcases List.mem_append.1 hc with hc | hc
      · exact ih _ (by omega) c hc
      · rw [List.mem_singleton.1 hc]
        exact dig_lo _ (by omega)
theorem itoa_lo (n : Int) : ∀ c ∈ Lib.itoa n, ¬ isF c := by
  intro c hc
  unfold Lib.itoa at hc
  split at hc
  · rcases List.mem_cons.1 hc with rfl | hc
    · decide
    · exact dec_lo _ c hc
  · exact dec_lo _ c hc
theorem joinG_lo (b : Bool) (l : List Int) : ∀ c ∈ joinG b l, ¬ isF c := by
  induction l generalizing b with
  | nil => intro c hc; cases hc
  | cons n t ih =>
    intro c hc
    rw [joinG] at hc
    rcases List.mem_append.1 hc with hc | hc
    · cases b
      · rw [if_neg (by decide)] at hc
        rw [List.mem_singleton.1 hc]; decide
      · cases hc
    · rcases List.mem_append.1 hc with hc | hc
      · exact itoa_lo n c hc
      · exact ih false c hc
theorem strip_seqB (l : List Int) (f : UInt8) (hf : isF f) (r : List UInt8) : stripB (seqB l f ++ r) = stripB r := by
  unfold seqB
  have : (27 :: 91 :: (joinG true l ++ [f]) ++ r : List UInt8) = 27 :: 91 :: (joinG true l ++ f :: r) := by simp
  rw [this]
  exact strip_in _ (joinG_lo true l) f hf r
theorem strip_stepB (n : Int) (f : UInt8) (hf : isF f) (r : List UInt8) : stripB (stepB n f ++ r) = stripB r := by
  unfold stepB
  split
  · rfl
  · exact strip_seqB _ f hf r
theorem strip_colB (n : Int) (r : List UInt8) : stripB (colB n ++ r) = stripB r := by
  unfold colB
  split
  · rfl
  · exact strip_seqB _ 71 (by decide) r
theorem strip_modeB (n : Int) (on : Bool) (r : List UInt8) : stripB (modeB n on ++ r) = stripB r := by
  unfold modeB
  have : (27 :: 91 :: 63 :: (Lib.itoa n ++ [if on = true then 104 else 108]) ++ r : List UInt8) = 27 :: 91 :: ((63 :: Lib.itoa n) ++ (if on = true then 104 else 108) :: r) := by simp
  rw [this]
  refine strip_in _ (fun c hc => ?_) _ (by cases on <;> decide) r
  rcases List.mem_cons.1 hc with rfl | hc
  · decide
  · exact itoa_lo n c hc
theorem strip_alongC (r t : Int) (q : List UInt8) : stripB (alongC r t ++ q) = stripB q := by
  unfold alongC
  rw [List.append_assoc, strip_stepB _ _ (by decide), strip_stepB _ _ (by decide)]
theorem strip_relR (r t : Int) (q : List UInt8) : stripB (relR r t ++ q) = stripB q := by
  unfold relR
  rw [List.append_assoc, strip_stepB _ _ (by decide), strip_stepB _ _ (by decide)]
theorem strip_alongR (c t : Int) (q : List UInt8) : stripB (alongR c t ++ q) = stripB q := by
  unfold alongR
  split
  · rfl
  · split
    · exact strip_low 13 (by decide) (by decide) q
    · split
      · exact strip_colB t q
      · exact strip_relR c t q
theorem strip_moveB (r c t u : Int) (q : List UInt8) : stripB (moveB r c t u ++ q) = stripB q := by
  unfold moveB
  rw [List.append_assoc, strip_alongC, strip_alongR]
def fixB (on : Bool) : List UInt8 := [27, 91, 75] ++ ([27, 91, 74] ++ (modeB 25 on ++ (modeB 2004 on ++ [7])))
theorem strip_fixB (on : Bool) : stripB (fixB on) = [] := by
  unfold fixB
  have h1 : ([27, 91, 75] : List UInt8) = seqB [] 75 := by simp [seqB, joinG]
  have h2 : ([27, 91, 74] : List UInt8) = seqB [] 74 := by simp [seqB, joinG]
  rw [h1, h2, strip_seqB _ _ (by decide), strip_seqB _ _ (by decide), strip_modeB, strip_modeB, strip_low 7 (by decide) (by decide), stripB_nil]
theorem strip_moves (n : Int) (r c t u : Int) : stripB (stepB n 65 ++ (colB n ++ moveB r c t u)) = [] := by
  have := strip_moveB r c t u []
  rw [List.append_nil, stripB_nil] at this
  rw [strip_stepB _ _ (by decide), strip_colB, this]

/-! ### Styles -/
def okS (y : Sty) : Prop := 0 ≤ y.f ∧ y.f ≤ 8 ∧ 0 ≤ y.g ∧ y.g ≤ 8
instance (y : Sty) : Decidable (okS y) := inferInstanceAs (Decidable (_ ∧ _ ∧ _ ∧ _))
def losesS (a b : Sty) : Bool := (a.b && !b.b) || (a.u && !b.u) || (a.i && !b.i)
def colN (k n : Int) : Int := if n = 0 then k + 9 else k + n - 1
def baseS (a b : Sty) : Sty := if losesS a b = true then Sty.zero else a
def numsS (a b : Sty) : List Int :=
  (if losesS a b = true then [0] else []) ++ (if b.b = true ∧ (baseS a b).b = false then [1] else []) ++ (if b.u = true ∧ (baseS a b).u = false then [4] else []) ++
  (if b.i = true ∧ (baseS a b).i = false then [7] else []) ++ (if b.f ≠ (baseS a b).f then [colN 30 b.f] else []) ++ (if b.g ≠ (baseS a b).g then [colN 40 b.g] else [])
def styleB (a b : Sty) : List UInt8 := if a = b ∨ ¬ okS a ∨ ¬ okS b then [] else seqB (numsS a b) 109
def obey (y : Sty) (n : Int) : Sty :=
  if n = 0 then Sty.zero
  else if n = 1 then { y with b := true }
  else if n = 4 then { y with u := true }
  else if n = 7 then { y with i := true }
  else if 30 ≤ n ∧ n ≤ 37 then { y with f := n - 29 }
  else if n = 39 then { y with f := 0 }
  else if 40 ≤ n ∧ n ≤ 47 then { y with g := n - 39 }
  else if n = 49 then { y with g := 0 }
  else y
def turnF (n : Int) (y : Sty) : List UInt8 → Sty
  | [] => y
  | c :: t => if 48 ≤ c ∧ c ≤ 57 then turnF (min 9999 (10 * n + ((c.toNat : Int) - 48))) y t else turnF 0 (obey y n) t
theorem obey_f (y : Sty) (n : Int) (h0 : 0 ≤ n) (h8 : n ≤ 8) : obey y (colN 30 n) = { y with f := n } := by
  unfold colN
  by_cases h : n = 0
  · subst h; rfl
  · rw [if_neg h]
    unfold obey
    rw [if_neg (by omega), if_neg (by omega), if_neg (by omega), if_neg (by omega), if_pos (by omega)]
    congr 1; omega
theorem obey_g (y : Sty) (n : Int) (h0 : 0 ≤ n) (h8 : n ≤ 8) : obey y (colN 40 n) = { y with g := n } := by
  unfold colN
  by_cases h : n = 0
  · subst h; rfl
  · rw [if_neg h]
    unfold obey
    rw [if_neg (by omega), if_neg (by omega), if_neg (by omega), if_neg (by omega), if_neg (by omega), if_neg (by omega), if_pos (by omega)]
    congr 1; omega
theorem fold_ff {p : Prop} [Decidable p] {y : Sty} {n : Int} : (if p then [n] else []).foldl obey y = if p then obey y n else y := by split <;> rfl
/-- The numbers do what they are for. -/
theorem numsS_do (a b : Sty) (hb : okS b) : (numsS a b).foldl obey a = b := by
  obtain ⟨h1, h2, h3, h4⟩ := hb
  unfold numsS
  simp only [List.foldl_append, fold_ff]
  rw [show (if losesS a b = true then obey a 0 else a) = baseS a b from rfl]
  have hbase : ((baseS a b).b = true → b.b = true) ∧ ((baseS a b).u = true → b.u = true) ∧ ((baseS a b).i = true → b.i = true) := by
    unfold baseS
    split
    · exact ⟨fun h => absurd h (by decide), fun h => absurd h (by decide), fun h => absurd h (by decide)⟩
    · next h =>
      unfold losesS at h
      cases ha : a.b <;> cases hb' : a.u <;> cases hc : a.i <;> cases hd : b.b <;> cases he : b.u <;> cases hf : b.i <;> simp_all
  generalize baseS a b = c at hbase ⊢
  obtain ⟨hc1, hc2, hc3⟩ := hbase
  obtain ⟨c1, c2, c3, cf, cg⟩ := c
  obtain ⟨b1, b2, b3, bf, bg⟩ := b
  simp only at *
  have e1 : ∀ y : Sty, obey y 1 = { y with b := true } := fun y => rfl
  have e2 : ∀ y : Sty, obey y 4 = { y with u := true } := fun y => rfl
  have e3 : ∀ y : Sty, obey y 7 = { y with i := true } := fun y => rfl
  simp only [e1, e2, e3, obey_f _ bf h1 h2, obey_g _ bg h3 h4]
  by_cases hf : bf = cf <;> by_cases hg : bg = cg <;> cases c1 <;> cases c2 <;> cases c3 <;> cases b1 <;> cases b2 <;> cases b3 <;> simp_all
def smallN (n : Int) : Prop := 0 ≤ n ∧ n < 100
theorem numsS_small (a b : Sty) (hb : okS b) : ∀ n ∈ numsS a b, smallN n := by
  obtain ⟨h1, h2, h3, h4⟩ := hb
  intro n hn
  unfold numsS at hn
  simp only [List.mem_append] at hn
  have hcol : ∀ k m : Int, 0 ≤ m → m ≤ 8 → k = 30 ∨ k = 40 → smallN (colN k m) := by
    intro k m h5 h6 h7
    unfold colN smallN
    split <;> omega
  rcases hn with ((((hn | hn) | hn) | hn) | hn) | hn <;> split at hn <;> simp at hn <;> subst hn <;> first | exact hcol _ _ h1 h2 (.inl rfl) | exact hcol _ _ h3 h4 (.inr rfl) | (constructor <;> decide)
theorem turn_dig (y : Sty) (n : Int) (k : Nat) (hk : k < 10) (hn : 0 ≤ n) (hn9 : n < 100) (t : List UInt8) : turnF n y (UInt8.ofNat (48 + k) :: t) = turnF (10 * n + k) y t := by
  have h1 : ∀ k : Fin 10, (48 ≤ UInt8.ofNat (48 + k.val) ∧ UInt8.ofNat (48 + k.val) ≤ 57) ∧ (UInt8.ofNat (48 + k.val)).toNat = 48 + k.val := by decide
  obtain ⟨h2, h3⟩ := h1 ⟨k, hk⟩
  simp only at h2 h3
  rw [turnF, if_pos h2, h3]
  congr 1
  omega
theorem turn_num (y : Sty) (n : Int) (hn : smallN n) (c : UInt8) (hc : ¬ (48 ≤ c ∧ c ≤ 57)) (t : List UInt8) : turnF 0 y (Lib.itoa n ++ c :: t) = turnF 0 (obey y n) t := by
  obtain ⟨h0, h1⟩ := hn
  obtain ⟨u, rfl⟩ : ∃ u : Nat, n = u := ⟨n.toNat, by omega⟩
  unfold Lib.itoa
  rw [if_neg (by omega), Int.toNat_natCast]
  by_cases h10 : u < 10
  · rw [Lib.decDigits_one h10, List.singleton_append, turn_dig y 0 u h10 (by omega) (by omega), turnF, if_neg hc]
    congr 2
    omega
  · rw [Lib.decDigits_two h10 (by omega), List.cons_append, List.singleton_append, turn_dig y 0 (u / 10) (by omega) (by omega) (by omega), turn_dig y _ (u % 10) (by omega) (by omega) (by omega), turnF, if_neg hc]
    congr 2
    omega
theorem turn_join (l : List Int) (y : Sty) (b : Bool) (h : ∀ n ∈ l, smallN n) (hl : l ≠ []) : turnF 0 y (joinG true l ++ [109]) = l.foldl obey y := by
  induction l generalizing y with
  | nil => exact absurd rfl hl
  | cons n t ih =>
    have hn := h n List.mem_cons_self
    cases t with
    | nil =>
      rw [joinG_one, turn_num y n hn 109 (by decide) []]
      rfl
    | cons m t =>
      have e : joinG true (n :: m :: t) ++ [109] = Lib.itoa n ++ 59 :: (joinG true (m :: t) ++ [109]) := by simp [joinG]
      rw [e, turn_num y n hn 59 (by decide), ih _ (fun k hk => h k (List.mem_cons_of_mem _ hk)) (by simp)]
      rfl
theorem numsS_ne (a b : Sty) (hab : a ≠ b) : numsS a b ≠ [] := by
  intro e
  unfold numsS at e
  simp only [List.append_eq_nil_iff] at e
  obtain ⟨⟨⟨⟨⟨e1, e2⟩, e3⟩, e4⟩, e5⟩, e6⟩ := e
  have hz : losesS a b = false := by
    cases h : losesS a b
    · rfl
    · rw [h, if_pos rfl] at e1; cases e1
  have hb : baseS a b = a := by unfold baseS; rw [hz]; rfl
  rw [hb] at e2 e3 e4 e5 e6
  have h5 : b.f = a.f := by
    rcases Decidable.em (b.f = a.f) with h | h
    · exact h
    · rw [if_pos h] at e5; cases e5
  have h6 : b.g = a.g := by
    rcases Decidable.em (b.g = a.g) with h | h
    · exact h
    · rw [if_pos h] at e6; cases e6
  obtain ⟨a1, a2, a3, af, ag⟩ := a
  obtain ⟨b1, b2, b3, bf, bg⟩ := b
  simp only at *
  unfold losesS at hz
  cases a1 <;> cases a2 <;> cases a3 <;> cases b1 <;> cases b2 <;> cases b3 <;> simp_all
theorem styleB_turn (a b : Sty) (ha : okS a) (hb : okS b) : turnF 0 a ((styleB a b).drop 2) = b := by
  unfold styleB
  by_cases hab : a = b
  · rw [if_pos (.inl hab), hab]
    rfl
  · rw [if_neg (fun h => h.elim hab fun h => h.elim (fun k => k ha) (fun k => k hb))]
    unfold seqB
    rw [List.drop_succ_cons, List.drop_succ_cons, List.drop_zero, turn_join _ a true (numsS_small a b hb) (numsS_ne a b hab), numsS_do a b hb]
theorem styleB_strip (a b : Sty) : stripB (styleB a b) = [] := by
  unfold styleB
  split
  · exact stripB_nil
  · have := strip_seqB (numsS a b) 109 (by decide) []
    rw [List.append_nil, stripB_nil] at this
    exact this
theorem styleB_same (a : Sty) : styleB a a = [] := by unfold styleB; rw [if_pos (.inl rfl)]
theorem styleB_not (a b : Sty) (h : ¬ (okS a ∧ okS b)) : styleB a b = [] := by
  unfold styleB
  rw [if_pos]
  by_cases ha : okS a
  · exact .inr (.inr fun hb => h ⟨ha, hb⟩)
  · exact .inr (.inl ha)
end Go.Proofs.YtclkclamdnkdgaaDoor
