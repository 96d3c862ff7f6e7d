/-
  A terminal as plain mathematics: what bytes do to it, at once and one by one. Imports the grids' lists and the runes' lists.
  A terminal in memory; walks: made, shown, now, Size, Cursor, within.
  Walks: Cursor, moveTo, feed.
  Walk: put.
  Walks: join, takeControl, takeRune.
-/
import Derived.Test.YtfmkeeaenjeneaaGreatDoorGfG
import Derived.Test.YtfmkeeaenjeneaaGreatDoorGfA
import Derived.Test.YtfmkeeaenjeneaaGreatDoorGfW
import Derived.Deep.RegionHeld3
import Derived.Deep.DeepCutAuto
import Derived.BigRegion
import Derived.BigQuiet
import Derived.Deep.QuietTactic
namespace Go.Proofs.YtfmkeeaenjeneaaGreatDoor
open Go.RowKit
set_option linter.unusedVariables false

/-- what a terminal keeps beside its unprocessed bytes -/
structure TS where
  W : Nat
  L : List (List Cl)
  row : Nat
  col : Nat
  y : Sty
  pend : Bool
  seen : Bool
  mark : Bool
  scr : Int
  bells : Int
  lr : Nat
  lc : Nat
  joins : Bool
  deriving DecidableEq

def tmNew (W H : Nat) : TS := ⟨W, List.replicate H (List.replicate W bl), 0, 0, Sty.zero, false, true, false, 0, 0, 0, 0, false⟩
def wi (i : Int) (n : Nat) : Nat := (min (max i 0) ((n : Int) - 1)).toNat
def moveT (t : TS) (row col : Int) : TS := { t with row := wi row t.L.length, col := wi col t.W, pend := false }
def feedT (t : TS) : TS :=
  if t.row + 1 < t.L.length then { t with pend := false, row := t.row + 1 }
  else { t with pend := false, L := scrollM t.W t.L 1, scr := IntKind.i64.wrap (t.scr + 1) }
/-- a rune of k columns, where there is room for it -/
def storeT (t : TS) (b : List UInt8) (k : Nat) : TS :=
  { t with L := (putM t.W t.L t.row t.col b k t.y).1, lr := t.row, lc := t.col, joins := true,
           col := if t.col + k = t.W then t.W - 1 else t.col + k, pend := if t.col + k = t.W then true else t.pend }
def printT (t : TS) (b : List UInt8) (k : Nat) : TS :=
  if t.W < k then { t with joins := false }
  else storeT (if t.pend = true ∨ t.W < t.col + k then feedT { t with col := 0 } else t) b k
def markT (t : TS) (b : List UInt8) : TS := if t.joins = true then { t with L := (joinM t.W t.L t.lr t.lc b).1 } else t
def runeT (t : TS) (r : Int) : TS :=
  if 0 < ofI r then printT t (enc (rfix r)) (ofI r).toNat
  else if mkB r = true then markT t (enc (rfix r))
  else { t with joins := false }
def ctlT (t : TS) (c : UInt8) : TS :=
  let t := { t with joins := false }
  if c = 7 then { t with bells := IntKind.i64.wrap (t.bells + 1) }
  else if c = 8 then moveT t t.row ((t.col : Int) - 1)
  else if c = 9 then moveT t t.row (((t.col / 8 + 1) * 8 : Nat) : Int)
  else if c = 10 then feedT t
  else if c = 13 then moveT t t.row 0
  else t

/-- the numbers that semicolons separate; n: the one that is being read -/
def numsF (n : Int) : List UInt8 → List Int
  | [] => [n]
  | c :: t => if c = 59 then n :: numsF 0 t else numsF (min (n * 10 + ((c.toNat : Int) - 48)) 9999) t
def numsT (l : List UInt8) : List Int := numsF 0 l
def areN (l : List UInt8) : Bool := l.all fun c => c == 59 || (48 ≤ c && c ≤ 57)
def styT (y : Sty) (n : Int) : Sty :=
  if n = 0 then Sty.zero
  else if n = 1 ∨ n = 22 then { y with b := decide (n = 1) }
  else if n = 4 ∨ n = 24 then { y with u := decide (n = 4) }
  else if n = 7 ∨ n = 27 then { y with i := decide (n = 7) }
  else if 30 ≤ n ∧ n ≤ 37 then { y with f := n - 29 }
  else if n = 39 then { y with f := 0 }
  else if 40 ≤ n ∧ n ≤ 47 then { y with g := n - 39 }
  else if n = 49 then { y with g := 0 }
  else y
def modesT (t : TS) (l : List Int) (f : UInt8) : TS :=
  if f ≠ 104 ∧ f ≠ 108 then t
  else l.foldl (fun t n => if n = 25 then { t with seen := decide (f = 104) } else if n = 2004 then { t with mark := decide (f = 104) } else t) t
/-- rows from one to another one are blanked: the first from a column, the last to a column -/
def eraseRows (t : TS) (fr fc tr tc : Nat) : Nat → TS
  | 0 => t
  | n + 1 =>
    let row := tr + 1 - (n + 1)
    eraseRows { t with L := (eraseG t.W t.L row (if row = fr then fc else 0) ((if row = tr then (tc : Int) else (t.W : Int) - 1) + 1)).1 } fr fc tr tc n
def eraseT (t : TS) (what : Int) (first last : Nat) : TS :=
  if what = 0 then eraseRows t t.row t.col last (t.W - 1) (last + 1 - t.row)
  else if what = 1 then eraseRows t first 0 t.row t.col (t.row + 1 - first)
  else if what = 2 then eraseRows t first 0 last (t.W - 1) (last + 1 - first)
  else t
def plainT (t : TS) (n m : Int) (f : UInt8) : TS :=
  if f = 65 then moveT t (t.row - max n 1) t.col
  else if f = 66 then moveT t (t.row + max n 1) t.col
  else if f = 67 then moveT t t.row (t.col + max n 1)
  else if f = 68 then moveT t t.row (t.col - max n 1)
  else if f = 71 then moveT t t.row (n - 1)
  else if f = 72 then moveT t (n - 1) (m - 1)
  else if f = 74 then eraseT t n 0 (t.L.length - 1)
  else if f = 75 then eraseT t n t.row t.row
  else t
def execT (t : TS) (ps : List UInt8) (f : UInt8) : TS :=
  let pr := ps.head? = some 63
  let qs := if pr then ps.tail else ps
  if areN qs = false then t
  else if pr then modesT t (numsT qs) f
  else if f = 109 then { t with y := (numsT qs).foldl styT t.y }
  else plainT t ((numsT qs).getD 0 0) ((numsT qs).getD 1 0) f

/-- how many bytes lie ahead of the first that is none of a class -/
def spanN (p : UInt8 → Bool) (l : List UInt8) : Nat := (l.takeWhile p).length
def isPar (c : UInt8) : Bool := 48 ≤ c && c ≤ 63
def isMid (c : UInt8) : Bool := 32 ≤ c && c ≤ 47
def isFin (c : UInt8) : Bool := 64 ≤ c && c ≤ 126
/-- where the parameters end, and where what may stand behind them ends -/
def parN (b : List UInt8) : Nat := 2 + spanN isPar (b.drop 2)
def midN (b : List UInt8) : Nat := parN b + spanN isMid (b.drop (parN b))
/-- what begins with ESC and a bracket: how many bytes are taken (0: it waits), and whether they are a complete sequence -/
def cutS (b : List UInt8) : Nat × Bool :=
  if 32 ≤ midN b then (32, false)
  else match b[midN b]? with
    | none => (0, false)
    | some c => if isFin c then (midN b + 1, true) else (midN b, false)
def cutE (b : List UInt8) : Nat × Bool :=
  match b[1]? with
  | none => (0, false)
  | some c => if c = 91 then cutS b else if 32 ≤ c ∧ c ≤ 126 then (2, false) else (1, false)
/-- what the bytes begin with is processed: how many bytes that are (0: it waits) -/
def stepT (t : TS) (b : List UInt8) : TS × Nat :=
  match b[0]? with
  | none => (t, 0)
  | some c =>
    if c = 27 then
      let (n, full) := cutE b
      if n = 0 then (t, 0)
      else
        let t := { t with joins := false }
        (if full then execT t ((b.take (n - 1)).drop 2) (b.getD (n - 1) 0) else t, n)
    else if c < 32 ∨ c = 127 then (ctlT t c, 1)
    else if (nx b).2.2 = true then (t, 0)
    else (runeT t (nx b).1, (nx b).2.1.toNat)

theorem takeWhile_append {p : UInt8 → Bool} (a c : List UInt8) (h : (a.takeWhile p).length < a.length) : (a ++ c).takeWhile p = a.takeWhile p := by
  induction a with
  | nil => simp at h
  | cons x a ih =>
    rw [List.cons_append, List.takeWhile_cons, List.takeWhile_cons]
    by_cases hx : p x = true
    · rw [if_pos hx, if_pos hx]
      rw [List.takeWhile_cons, if_pos hx] at h
      rw [ih (by simpa using h)]
    · rw [if_neg hx, if_neg hx]
theorem takeWhile_append_le {p : UInt8 → Bool} (a c : List UInt8) : (a.takeWhile p).length ≤ ((a ++ c).takeWhile p).length := by
  induction a with
  | nil => simp
  | cons x a ih =>
    rw [List.cons_append, List.takeWhile_cons, List.takeWhile_cons]
    by_cases hx : p x = true
    · rw [if_pos hx, if_pos hx]; simpa using ih
    · rw [if_neg hx, if_neg hx]; simp
theorem spanN_le (p : UInt8 → Bool) (l : List UInt8) : spanN p l ≤ l.length := by
  unfold spanN
  exact (List.takeWhile_sublist p).length_le
theorem spanN_append (p : UInt8 → Bool) (a c : List UInt8) (h : spanN p a < a.length) : spanN p (a ++ c) = spanN p a := by
  unfold spanN at *
  rw [takeWhile_append a c h]
theorem spanN_append_le (p : UInt8 → Bool) (a c : List UInt8) : spanN p a ≤ spanN p (a ++ c) := takeWhile_append_le a c
theorem parN_le {b : List UInt8} (h : 2 ≤ b.length) : parN b ≤ b.length := by
  unfold parN
  have := spanN_le isPar (b.drop 2)
  rw [List.length_drop] at this
  omega
theorem midN_le {b : List UInt8} (h : 2 ≤ b.length) : midN b ≤ b.length := by
  unfold midN
  have := spanN_le isMid (b.drop (parN b))
  rw [List.length_drop] at this
  have := parN_le h
  omega
theorem parN_append (b c : List UInt8) (h : 2 ≤ b.length) (hp : parN b < b.length) : parN (b ++ c) = parN b := by
  unfold parN at *
  rw [List.drop_append_of_le_length h, spanN_append]
  rw [List.length_drop]
  omega
theorem midN_append (b c : List UInt8) (h : 2 ≤ b.length) (hp : midN b < b.length) : midN (b ++ c) = midN b := by
  have h1 : parN b ≤ midN b := by unfold midN; omega
  have h2 := parN_append b c h (by omega)
  unfold midN at *
  rw [h2, List.drop_append_of_le_length (by omega), spanN_append]
  rw [List.length_drop]
  omega
theorem midN_append_le (b c : List UInt8) (h : 2 ≤ b.length) : midN b ≤ midN (b ++ c) := by
  have hp := parN_le h
  by_cases h1 : parN b < b.length
  · have h2 := parN_append b c h h1
    unfold midN
    rw [h2, List.drop_append_of_le_length hp]
    have := spanN_append_le isMid (b.drop (parN b)) c
    omega
  · have e : parN b = b.length := by omega
    have hm : midN b = b.length := by
      have := midN_le h
      have : parN b ≤ midN b := by unfold midN; omega
      omega
    have h3 : parN b ≤ parN (b ++ c) := by
      unfold parN
      rw [List.drop_append_of_le_length h]
      have := spanN_append_le isPar (b.drop 2) c
      omega
    have h4 : parN (b ++ c) ≤ midN (b ++ c) := by unfold midN; omega
    omega
theorem cutS_append (b c : List UInt8) (h : 2 ≤ b.length) (hn : (cutS b).1 ≠ 0) : cutS (b ++ c) = cutS b := by
  unfold cutS at *
  by_cases h32 : 32 ≤ midN b
  · rw [if_pos h32, if_pos (Nat.le_trans h32 (midN_append_le b c h))]
  · rw [if_neg h32] at hn ⊢
    by_cases hl : midN b < b.length
    · rw [midN_append b c h hl, if_neg h32, List.getElem?_append_left hl]
    · rw [List.getElem?_eq_none (by omega)] at hn
      exact absurd rfl hn
theorem cutE_append (b c : List UInt8) (hn : (cutE b).1 ≠ 0) : cutE (b ++ c) = cutE b := by
  unfold cutE at *
  by_cases hl : 1 < b.length
  · rw [List.getElem?_append_left hl]
    cases hb : b[1]? with
    | none => rfl
    | some x =>
      rw [hb] at hn
      simp only at hn ⊢
      by_cases hx : x = 91
      · rw [if_pos hx] at hn ⊢
        rw [if_pos hx]
        exact cutS_append b c (by omega) hn
      · rw [if_neg hx, if_neg hx]
  · rw [List.getElem?_eq_none (by omega)] at hn
    exact absurd rfl hn
theorem cutS_le (b : List UInt8) (h : 2 ≤ b.length) : (cutS b).1 ≤ b.length ∧ (cutS b).1 ≤ 32 := by
  have hm := midN_le h
  unfold cutS
  by_cases h32 : 32 ≤ midN b
  · rw [if_pos h32]; simp; omega
  · rw [if_neg h32]
    cases hb : b[midN b]? with
    | none => simp
    | some x =>
      have := (List.getElem?_eq_some_iff.1 hb).1
      simp only
      split <;> simp <;> omega
theorem cutE_le (b : List UInt8) : (cutE b).1 ≤ b.length ∧ (cutE b).1 ≤ 32 := by
  unfold cutE
  cases hb : b[1]? with
  | none => simp
  | some x =>
    have := (List.getElem?_eq_some_iff.1 hb).1
    simp only
    split
    · exact cutS_le b (by omega)
    · split <;> simp <;> omega
theorem cutS_full (b : List UInt8) (h : 2 ≤ b.length) (hf : (cutS b).2 = true) : 3 ≤ (cutS b).1 ∧ midN b + 1 = (cutS b).1 := by
  have : 2 ≤ midN b := by unfold midN parN; omega
  unfold cutS at *
  by_cases h32 : 32 ≤ midN b
  · rw [if_pos h32] at hf; cases hf
  · rw [if_neg h32] at hf ⊢
    cases hb : b[midN b]? with
    | none => rw [hb] at hf; cases hf
    | some x =>
      rw [hb] at hf
      simp only at hf ⊢
      split
      · simp; omega
      · next hx => rw [if_neg hx] at hf; cases hf
/-- What was taken does not depend on what comes behind it. -/
theorem stepT_append (t : TS) (b c : List UInt8) (hn : (stepT t b).2 ≠ 0) : stepT t (b ++ c) = stepT t b := by
  unfold stepT at *
  by_cases hl : 0 < b.length
  · rw [List.getElem?_append_left hl]
    cases hb : b[0]? with
    | none => rfl
    | some x =>
      rw [hb] at hn
      simp only at hn ⊢
      by_cases hx : x = 27
      · rw [if_pos hx] at hn ⊢
        rw [if_pos hx]
        by_cases h0 : (cutE b).1 = 0
        · rw [if_pos h0] at hn; exact absurd rfl hn
        · have e := cutE_append b c h0
          have hle := (cutE_le b).1
          rw [e]
          rw [if_neg h0, if_neg h0]
          have e1 : (b ++ c).take ((cutE b).1 - 1) = b.take ((cutE b).1 - 1) := List.take_append_of_le_length (by omega)
          have e2 : (b ++ c).getD ((cutE b).1 - 1) 0 = b.getD ((cutE b).1 - 1) 0 := by
            rw [List.getD_eq_getElem?_getD, List.getD_eq_getElem?_getD, List.getElem?_append_left (by omega)]
          rw [e1, e2]
      · rw [if_neg hx] at hn ⊢
        rw [if_neg hx]
        by_cases h2 : x < 32 ∨ x = 127
        · rw [if_pos h2, if_pos h2]
        · rw [if_neg h2] at hn ⊢
          rw [if_neg h2]
          by_cases hm : (nx b).2.2 = true
          · rw [if_pos hm] at hn; exact absurd rfl hn
          · rw [nx_pre b c (by simpa using hm)]
  · rw [List.getElem?_eq_none (by omega)] at hn
    exact absurd rfl hn
theorem stepT_le (t : TS) (b : List UInt8) : (stepT t b).2 ≤ b.length := by
  unfold stepT
  cases hb : b[0]? with
  | none => simp
  | some x =>
    have hl := (List.getElem?_eq_some_iff.1 hb).1
    simp only
    split
    · split
      · simp
      · exact (cutE_le b).1
    · split
      · simp; omega
      · split
        · simp
        · next h3 =>
          have := nx_len (l := b) (by intro e; subst e; simp at hl) (by simpa using h3)
          simp only
          omega
/-- all that the bytes begin with is processed, as long as possible -/
def runT : Nat → TS → List UInt8 → TS × List UInt8
  | 0, t, b => (t, b)
  | f + 1, t, b => if (stepT t b).2 = 0 then (t, b) else runT f (stepT t b).1 (b.drop (stepT t b).2)
def bytesT (t : TS) (b : List UInt8) : TS × List UInt8 := runT b.length t b
theorem runT_enough : ∀ (f g : Nat) (t : TS) (b : List UInt8), b.length ≤ f → b.length ≤ g → runT f t b = runT g t b := by
  intro f
  induction f with
  | zero =>
    intro g t b hf hg
    have hb : b = [] := List.eq_nil_of_length_eq_zero (by omega)
    subst hb
    cases g with
    | zero => rfl
    | succ g => simp [runT, stepT]
  | succ f ih =>
    intro g t b hf hg
    cases g with
    | zero =>
      have hb : b = [] := List.eq_nil_of_length_eq_zero (by omega)
      subst hb
      simp [runT, stepT]
    | succ g =>
      rw [runT, runT]
      by_cases h0 : (stepT t b).2 = 0
      · rw [if_pos h0, if_pos h0]
      · rw [if_neg h0, if_neg h0]
        have := stepT_le t b
        exact ih g _ _ (by rw [List.length_drop]; omega) (by rw [List.length_drop]; omega)
/-- Bytes in pieces make the same as at once. -/
theorem runT_append : ∀ (f : Nat) (t : TS) (b c : List UInt8), b.length ≤ f → bytesT t (b ++ c) = bytesT (runT f t b).1 ((runT f t b).2 ++ c) := by
  intro f
  induction f with
  | zero =>
    intro t b c hf
    rfl
  | succ f ih =>
    intro t b c hf
    rw [runT]
    by_cases h0 : (stepT t b).2 = 0
    · rw [if_pos h0]
    · rw [if_neg h0]
      have hle := stepT_le t b
      have hs := stepT_append t b c h0
      rw [← ih _ _ c (by rw [List.length_drop]; omega)]
      unfold bytesT
      have hpos : 0 < (b ++ c).length := by rw [List.length_append]; omega
      obtain ⟨g, hg⟩ : ∃ g, (b ++ c).length = g + 1 := ⟨(b ++ c).length - 1, by omega⟩
      rw [hg, runT, hs, if_neg h0, List.drop_append_of_le_length hle]
      apply runT_enough
      · have := congrArg List.length (List.take_append_drop (stepT t b).2 b)
        rw [List.length_append] at hg ⊢
        rw [List.length_drop]
        omega
      · rw [List.length_append, List.length_drop]
        omega
theorem bytesT_append (t : TS) (b c : List UInt8) : bytesT t (b ++ c) = bytesT (bytesT t b).1 ((bytesT t b).2 ++ c) := runT_append _ t b c (Nat.le_refl _)
/-- bytes come to a terminal where others wait -/
def writeT (t : TS) (B b : List UInt8) : TS × List UInt8 := bytesT t (B ++ b)
end Go.Proofs.YtfmkeeaenjeneaaGreatDoor

namespace Go.Proofs.YtfmkeeaenjeneaaGreatDoor
open Go.RowKit
set_option linter.unusedVariables false
set_option linter.unusedSimpArgs false

/-- the state's cells -/
def stc (T : TS) : List Value := [.int .i64 T.row, .int .i64 T.col, .bool T.y.b, .bool T.y.u, .bool T.y.i, .int .i64 T.y.f, .int .i64 T.y.g, .bool T.pend, .bool T.seen, .bool T.mark, .int .i64 T.scr, .int .i64 T.bells, .int .i64 T.lr, .int .i64 T.lc, .bool T.joins]
def szero : List Value := [.int .i64 0, .int .i64 0, .bool false, .bool false, .bool false, .int .i64 0, .int .i64 0, .bool false, .bool false, .bool false, .int .i64 0, .int .i64 0, .int .i64 0, .int .i64 0, .bool false]
/-- a terminal's cells -/
def tmc (t g : Nat) (T : TS) (xs : List Value) (n : Nat) : List Value := .pointer (some ⟨t, 0, none⟩) :: .pointer (some ⟨g, 0, none⟩) :: (stc T ++ (xs ++ [.int .i64 n]))
theorem st_size : (Tryz.prog.info? 58).map (·.size) = some 15 := by kernel_rfl
theorem st_one (T : TS) : ∀ v ∈ stc T, v.oneCell' = true := by
  intro v hv
  simp [stc] at hv
  rcases hv with rfl | rfl | rfl | rfl | rfl | rfl | rfl | rfl | rfl | rfl | rfl | rfl | rfl | rfl | rfl <;> rfl

/-- A terminal at block t over the grid at g, in the state T; the bytes B wait. -/
structure TmAt (w : World) (lo t g rb : Nat) (bs : List Nat) (T : TS) (B : List UInt8) : Prop where
  blk : ∃ xs, xs.length = 32 ∧ xs.take B.length = bv B ∧ Blk w t 63 (tmc t g T xs B.length)
  grid : GrAt w lo g rb bs T.W T.L
  lot : lo ≤ t
  row : T.row < T.L.length
  col : T.col < T.W
  b32 : B.length ≤ 32

/-- the blocks that are the terminal's own -/
def TmOwn (t g rb : Nat) (bs : List Nat) (k : Nat) : Prop := k = t ∨ GrOwn g rb bs k
namespace TmAt
variable {w w' : World} {lo t g rb : Nat} {bs : List Nat} {T : TS} {B : List UInt8}
theorem own_lo (h : TmAt w lo t g rb bs T B) {k : Nat} (hk : TmOwn t g rb bs k) : lo ≤ k := by
  rcases hk with rfl | hk
  · exact h.lot
  · exact h.grid.lo k hk
theorem cell (h : TmAt w lo t g rb bs T B) (i : Nat) (hi : i < 17) : w.cell? ⟨t, i, none⟩ = (tmc t g T [] 0)[i]? := by
  obtain ⟨xs, _, _, hb⟩ := h.blk
  rw [hb.cell i]
  rw [show tmc t g T xs B.length = (.pointer (some ⟨t, 0, none⟩) :: .pointer (some ⟨g, 0, none⟩) :: stc T) ++ (xs ++ [.int .i64 B.length]) from rfl, List.getElem?_append_left (by simp [stc]; omega)]
  rw [show tmc t g T [] 0 = (.pointer (some ⟨t, 0, none⟩) :: .pointer (some ⟨g, 0, none⟩) :: stc T) ++ ([] ++ [.int .i64 0]) from rfl, List.getElem?_append_left (by simp [stc]; omega)]
theorem lt (h : TmAt w lo t g rb bs T B) : t < w.heap.size := by
  obtain ⟨xs, _, _, hb⟩ := h.blk
  exact hb.lt
theorem frozen (h : TmAt w lo t g rb bs T B) (i : Nat) : w.frozen? ⟨t, i, none⟩ = false := by
  obtain ⟨xs, _, _, hb⟩ := h.blk
  exact hb.frozen i
theorem ne_g (h : TmAt w lo t g rb bs T B) {k : Nat} (hk : GrOwn g rb bs k) : t ≠ k := by
  obtain ⟨xs, _, _, hb⟩ := h.blk
  rcases hk with rfl | rfl | hk
  · exact hb.ne_ h.grid.head (by decide)
  · exact hb.ne_ h.grid.rows (by decide)
  · obtain ⟨i, hi⟩ := List.getElem?_of_mem hk
    obtain ⟨l, _, _, _, h4⟩ := h.grid.row i k hi
    exact hb.ne_ h4 (by decide)
theorem below (h : TmAt w lo t g rb bs T B) (hb : Below w.heap.size w w') : TmAt w' lo t g rb bs T B := by
  obtain ⟨xs, h1, h2, h3⟩ := h.blk
  exact ⟨⟨xs, h1, h2, h3.below hb h3.lt⟩, h.grid.below hb, h.lot, h.row, h.col, h.b32⟩
theorem state (h : TmAt w lo t g rb bs T B) : w.rangeAt t 2 (stc T) := by
  obtain ⟨xs, _, _, hb⟩ := h.blk
  refine hb.range 2 (stc T) fun j v hv => ?_
  have hj : j < (stc T).length := (List.getElem?_eq_some_iff.1 hv).1
  unfold tmc
  rw [show 2 + j = j + 1 + 1 by omega, List.getElem?_cons_succ, List.getElem?_cons_succ, List.getElem?_append_left hj]
  exact hv
end TmAt

/-- what the walks read of the program's own variables -/
structure Base (w : World) (lo : Nat) : Prop where
  bl : BlankT w
  tb : Tabs w
  b1 : 0 < lo
  b2 : 2 < lo
  b3 : 1 < lo
  b4 : lo ≤ w.heap.size
theorem Base.below {w w' : World} {lo : Nat} (h : Base w lo) (hb : Below w.heap.size w w') : Base w' lo := ⟨h.bl.bel hb, h.tb.below hb, h.b1, h.b2, h.b3, Nat.le_trans h.b4 hb.size⟩
theorem Base.chg {w w' : World} {lo : Nat} {S : Nat → Prop} (h : Base w lo) (hc : Chg S w w') (hs : ∀ k, S k → lo ≤ k) : Base w' lo := by
  have hb : Below lo w w' := hc.below h.b4 hs
  exact ⟨h.bl.below hb h.b1, ⟨h.tb.mt.below hb h.b2, h.tb.wt.below hb h.b3, Nat.lt_of_lt_of_le h.tb.mg hc.size, Nat.lt_of_lt_of_le h.tb.wg hc.size⟩, h.b1, h.b2, h.b3, Nat.le_trans h.b4 hc.size⟩

theorem tm_info : (Tryz.prog.info? 63).isSome = true := by kernel_rfl
theorem trun_self (a : Addr) (w : World) : Sem.run Tryz.prog (binOp .eql 23 (.pointer (some a)) (.pointer (some a))) w = .ok (.bool true) w := by
  obtain ⟨j, hj⟩ := Option.isSome_iff_exists.1 tm_info
  have h : ∀ d : Nat, (Op.equalIn (d + 1) 23 (.pointer (some a)) (.pointer (some a))).run Tryz.prog w = .ok true w := fun d => by
    simp [Op.equalIn, run_underlying Tryz.underlying23, sizeOf, typeInfo, hj, run_sameAddr_same]
  simp only [binOp]
  simp [Op.equal, Op.maxDepth, h 9999]
theorem trun_none (a : Addr) (w : World) : Sem.run Tryz.prog (binOp .eql 23 (.pointer none) (.pointer (some a))) w = .ok (.bool false) w := by
  have h : ∀ d : Nat, (Op.equalIn (d + 1) 23 (.pointer none) (.pointer (some a))).run Tryz.prog w = .ok false w := fun d => by
    simp [Op.equalIn, run_underlying Tryz.underlying23]
  simp only [binOp]
  simp [Op.equal, Op.maxDepth, h 9999]

set_option maxHeartbeats 400000 in
theorem tmade_yes (t : Nat) (w : World) (hp : w.cell? ⟨t, 0, none⟩ = some (.pointer (some ⟨t, 0, none⟩))) :
    Calls Tryz.prog 24 #[.pointer (some ⟨t, 0, none⟩)] w fun e w' => e = .returned (.bool true) ∧ w = w' := by
  have he := trun_self ⟨t, 0, none⟩
  go_enter Tryz.func24, Tryz.ntmps24
  go_wp2
  go_ret
  exact ⟨rfl, rfl⟩
/-- no terminal: nil, or one that nobody made -/
def TmNo (w : World) (p : Option Addr) : Prop := p = none ∨ ∃ t, p = some ⟨t, 0, none⟩ ∧ w.cell? ⟨t, 0, none⟩ = some (.pointer none)
set_option maxHeartbeats 400000 in
theorem tmade_not {w : World} {p : Option Addr} (h : TmNo w p) : Calls Tryz.prog 24 #[.pointer p] w fun e w' => e = .returned (.bool false) ∧ w = w' := by
  rcases h with rfl | ⟨t, rfl, hp⟩
  · go_enter Tryz.func24, Tryz.ntmps24
    go_wp2
    go_ret
    exact ⟨rfl, rfl⟩
  · have he := trun_none ⟨t, 0, none⟩
    go_enter Tryz.func24, Tryz.ntmps24
    go_wp2
    go_ret
    exact ⟨rfl, rfl⟩

section
variable {w : World} {lo t g rb : Nat} {bs : List Nat} {T : TS} {B : List UInt8}
set_option maxHeartbeats 400000 in
theorem shown_yes (h : TmAt w lo t g rb bs T B) :
    Calls Tryz.prog 32 #[.pointer (some ⟨t, 0, none⟩)] w fun e w' => e = .returned (.pointer (some ⟨g, 0, none⟩)) ∧ w = w' := by
  have c0 := h.cell 0 (by omega)
  have c1 := h.cell 1 (by omega)
  simp only [tmc, List.getElem?_cons_zero, List.getElem?_cons_succ] at c0 c1
  clear h
  go_enter Tryz.func32, Tryz.ntmps32
  go_wp2_with (go_at_call 24; refine (tmade_yes t w c0).mono ?_; rintro e w' ⟨rfl, rfl⟩)
  go_ret
  exact ⟨rfl, rfl⟩
set_option maxHeartbeats 400000 in
theorem shown_not {p : Option Addr} (h : TmNo w p) :
    Calls Tryz.prog 32 #[.pointer p] w fun e w' => e = .returned (.pointer none) ∧ w = w' := by
  have H := Lib.hid h
  clear h
  go_enter Tryz.func32, Tryz.ntmps32
  go_wp2_with (go_at_call 24; refine (tmade_not H.out).mono ?_; rintro e w' ⟨rfl, rfl⟩)
  go_ret
  exact ⟨rfl, rfl⟩
set_option maxHeartbeats 400000 in
theorem tsize_yes (h : TmAt w lo t g rb bs T B) :
    Calls Tryz.prog 15 #[.pointer (some ⟨t, 0, none⟩)] w fun e w' => e = .returned (.tuple #[.int .i64 T.W, .int .i64 T.L.length]) ∧ Below w.heap.size w w' := by
  have HS := Lib.hid (shown_yes h)
  have HG := Lib.hid (size_any h.grid)
  clear h
  go_enter Tryz.func15, Tryz.ntmps15
  go_wp2_with (first
    | (go_at_call 32; refine HS.out.mono ?_; rintro e w' ⟨rfl, rfl⟩)
    | (go_at_call 33; refine HG.out.mono ?_; rintro e w' ⟨rfl, n, rfl⟩))
  go_ret2
  exact ⟨rfl, below_drewN w n⟩
set_option maxHeartbeats 400000 in
theorem tsize_not {p : Option Addr} (h : TmNo w p) :
    Calls Tryz.prog 15 #[.pointer p] w fun e w' => e = .returned (.tuple #[.int .i64 0, .int .i64 0]) ∧ w = w' := by
  have HS := Lib.hid (shown_not h)
  clear h
  go_enter Tryz.func15, Tryz.ntmps15
  go_wp2_with (first
    | (go_at_call 32; refine HS.out.mono ?_; rintro e w' ⟨rfl, rfl⟩)
    | (go_at_call 33; refine (size_not (.inl rfl)).mono ?_; rintro e w' ⟨rfl, rfl⟩))
  go_ret2
  exact ⟨rfl, rfl⟩

set_option maxRecDepth 100000 in
set_option maxHeartbeats 1000000 in
theorem now_yes (h : TmAt w lo t g rb bs T B) :
    Calls Tryz.prog 31 #[.pointer (some ⟨t, 0, none⟩)] w fun e w' => e = .returned (.agg (stc T).toArray) ∧ Below w.heap.size w w' := by
  have c0 := h.cell 0 (by omega)
  simp only [tmc, List.getElem?_cons_zero] at c0
  have H := Lib.hid h
  obtain ⟨W0, hW0⟩ : ∃ W, W = w.alloc (.cells #[.int .i64 0, .int .i64 0, .bool false, .bool false, .bool false, .int .i64 0, .int .i64 0, .bool false, .bool false, .bool false, .int .i64 0, .int .i64 0, .int .i64 0, .int .i64 0, .bool false] 58) := ⟨_, rfl⟩
  have HN : Hid (Blk W0 w.heap.size 58 szero) := Lib.hid (by rw [hW0]; exact Blk.new w 58 szero)
  have HB0 : Hid (Below w.heap.size w W0) := Lib.hid (by rw [hW0]; exact (Below.refl w.heap.size w).alloc (Nat.le_refl _) _)
  have HS0 : Hid (W0.heap.size = w.heap.size + 1) := Lib.hid (by rw [hW0]; simp)
  have HW0 := Lib.hid hW0
  have d0 : W0.cell? ⟨t, 0, none⟩ = some (.pointer (some ⟨t, 0, none⟩)) := (HB0.out.cell (p := ⟨t, 0, none⟩) H.out.lt).trans c0
  clear h c0 hW0
  go_enter Tryz.func31, Tryz.ntmps31
  go_upto_region 1 with fail
  rw [← HW0.out]
  clear HW0
  go_wp2_with (first
    | (go_at_call 24; refine (tmade_yes t _ d0).mono ?_; rintro e w' ⟨rfl, rfl⟩)
    | ((with_reducible refine at_dst 10 ?_); refine wpList_load_mid rfl _ _ rfl t 2 rfl (stc T) _ (H.out.below HB0.out).state Tryz.underlying58 rfl st_size ?_)
    | ((with_reducible refine at_store 2 ?_); refine wpList_store_blk rfl _ _ _ rfl rfl w.heap.size 0 _ szero (stc T) rfl rfl HN.out (by simp [szero, stc]) st_size (st_one T) ?_; intro w9 hn9 hg9))
  have hw : w9.rangeAt w.heap.size 0 (stc T) := by
    have h9 : Blk w9 w.heap.size 58 (stc T) := hn9
    exact h9.range 0 (stc T) (fun j v hv => by simpa using hv)
  exact bodyPost_ret (results_c rfl rfl hw Tryz.underlying58 rfl st_size) rfl ⟨rfl, HB0.out.grown hg9 (by have := HS0.out; omega) (fun j hj => by injection hj with hj; omega)⟩
end

theorem twithin_any (i : Int) (n : Nat) (h0 : -9223372036854775808 ≤ i) (h1 : i ≤ 9223372036854775807) (hn0 : 1 ≤ n) (hn : n ≤ 500) (w : World) :
    Calls Tryz.prog 103 #[.int .i64 i, .int .i64 n] w fun e w' => e = .returned (.int .i64 (wi i n)) ∧ w = w' := by
  have HE : Hid ((wi i n : Int) = min (max i 0) ((n : Int) - 1)) := Lib.hid (by unfold wi; omega)
  go_enter Tryz.func103, Tryz.ntmps103
  go_wp2
  go_ret
  exact ⟨ret_int (by rw [HE.out]), rfl⟩
end Go.Proofs.YtfmkeeaenjeneaaGreatDoor

namespace Go.Proofs.YtfmkeeaenjeneaaGreatDoor
open Go.RowKit
set_option linter.unusedVariables false
set_option linter.unusedSimpArgs false

/-- the terminal's block is none of the grid's -/
theorem TmAt.ne_g' {w w' : World} {lo t g rb : Nat} {bs bs' : List Nat} {T : TS} {B : List UInt8} (h : TmAt w lo t g rb bs T B) {cs : List Value} {W' : Nat} {L' : List (List Cl)} {k : Nat} (hk : GrOwn g rb bs' k) (hg : GrAt w' lo g rb bs' W' L') (hb : Blk w' t 63 cs) : t ≠ k := by
  rcases hk with rfl | rfl | hk
  · exact hb.ne_ hg.head (by decide)
  · exact hb.ne_ hg.rows (by decide)
  · obtain ⟨i, hi⟩ := List.getElem?_of_mem hk
    obtain ⟨l, _, _, _, h4⟩ := hg.row i k hi
    exact hb.ne_ h4 (by decide)
/-- what a method that turns the terminal leaves -/
def TmStep (w : World) (lo t g rb : Nat) (bs : List Nat) (T : TS) (B : List UInt8) (w' : World) : Prop :=
  ∃ bs', TmAt w' lo t g rb bs' T B ∧ (∀ k, GrOwn g rb bs' k → GrOwn g rb bs k ∨ w.heap.size ≤ k) ∧ Chg (TmOwn t g rb bs) w w'
theorem TmStep.refl {w : World} {lo t g rb : Nat} {bs : List Nat} {T : TS} {B : List UInt8} (h : TmAt w lo t g rb bs T B) : TmStep w lo t g rb bs T B w := ⟨bs, h, fun _ h => .inl h, Chg.refl _ _⟩
theorem TmStep.bel {w w' : World} {lo t g rb : Nat} {bs : List Nat} {T : TS} {B : List UInt8} (h : TmAt w lo t g rb bs T B) (hb : Below w.heap.size w w') : TmStep w lo t g rb bs T B w' := ⟨bs, h.below hb, fun _ h => .inl h, Chg.of_below hb⟩
theorem TmStep.trans {w w1 w2 : World} {lo t g rb : Nat} {bs bs1 : List Nat} {T : TS} {B : List UInt8} (h1 : ∀ k, GrOwn g rb bs1 k → GrOwn g rb bs k ∨ w.heap.size ≤ k) (hc : Chg (TmOwn t g rb bs) w w1) (h2 : TmStep w1 lo t g rb bs1 T B w2) : TmStep w lo t g rb bs T B w2 := by
  obtain ⟨bs2, ha, ho, hc2⟩ := h2
  refine ⟨bs2, ha, fun k hk => ?_, hc.trans hc2 (fun k hk => ?_)⟩
  · rcases ho k hk with h | h
    · exact h1 k h
    · exact .inr (Nat.le_trans hc.size h)
  · rcases hk with rfl | hk
    · exact .inl (.inl rfl)
    · rcases h1 k hk with h | h
      · exact .inl (.inr h)
      · exact .inr h
theorem TmStep.bel_then {w w1 w2 : World} {lo t g rb : Nat} {bs : List Nat} {T : TS} {B : List UInt8} (hb : Below w.heap.size w w1) (h2 : TmStep w1 lo t g rb bs T B w2) : TmStep w lo t g rb bs T B w2 :=
  TmStep.trans (fun _ h => .inl h) (Chg.of_below hb) h2
theorem Base.step {w w' : World} {lo t g rb : Nat} {bs : List Nat} {T T' : TS} {B B' : List UInt8} (h : Base w lo) (ht : TmAt w lo t g rb bs T B) (hs : TmStep w lo t g rb bs T' B' w') : Base w' lo := by
  obtain ⟨_, _, _, hc⟩ := hs
  exact h.chg hc (fun k hk => ht.own_lo hk)

theorem chg_one {w w' : World} {t : Nat} (hg : w.grownBy w' (some t)) : Chg (one t) w w' := chg_of_grown hg
/-- The terminal's block is written anew. -/
theorem TmAt.put {w w' : World} {lo t g rb : Nat} {bs : List Nat} {T T' : TS} {B B' : List UInt8} {xs : List Value} (h : TmAt w lo t g rb bs T B) (hch : Chg (one t) w w') (h32 : xs.length = 32) (hB : xs.take B'.length = bv B') (hb32 : B'.length ≤ 32)
    (hb : Blk w' t 63 (tmc t g T' xs B'.length)) (hW : T'.W = T.W) (hL : T'.L = T.L) (hr : T'.row < T'.L.length) (hc : T'.col < T'.W) : TmAt w' lo t g rb bs T' B' := by
  refine ⟨⟨xs, h32, hB, hb⟩, ?_, h.lot, hr, hc, hb32⟩
  rw [hW, hL]
  exact h.grid.keep hch (fun k hk e => h.ne_g hk (by have e' : k = t := e; exact e'.symm))
theorem TmAt.wrote {w w' : World} {lo t g rb : Nat} {bs : List Nat} {T T' : TS} {B B' : List UInt8} {xs : List Value} (h : TmAt w lo t g rb bs T B) (hch : Chg (one t) w w') (h32 : xs.length = 32) (hB : xs.take B'.length = bv B') (hb32 : B'.length ≤ 32)
    (hb : Blk w' t 63 (tmc t g T' xs B'.length)) (hW : T'.W = T.W) (hL : T'.L = T.L) (hr : T'.row < T'.L.length) (hc : T'.col < T'.W) : TmStep w lo t g rb bs T' B' w' :=
  ⟨bs, h.put hch h32 hB hb32 hb hW hL hr hc, fun _ h => .inl h, (Chg.refl _ w).trans hch (fun k hk => .inl (.inl hk))⟩
theorem own_t {w w' : World} {t g rb : Nat} {bs : List Nat} (h : Chg (one t) w w') : Chg (TmOwn t g rb bs) w w' := (Chg.refl _ w).trans h (fun k hk => .inl (.inl hk))
theorem pl_size : (Tryz.prog.info? 56).map (·.size) = some 2 := by kernel_rfl

section
variable {w : World} {lo t g rb : Nat} {bs : List Nat} {T : TS} {B : List UInt8}
theorem field_pl (a0 a1 a7 a8 a9 a12 a13 : Value) (a2 a3 a4 a5 a6 a10 a11 a14 : Value) (w : World) : Sem.run Tryz.prog (Instr.field 58 (.agg #[a0, a1, a2, a3, a4, a5, a6, a7, a8, a9, a10, a11, a12, a13, a14]) 0) w = .ok (.agg #[a0, a1]) w := by
  kernel_rfl

set_option maxRecDepth 100000 in
set_option maxHeartbeats 1000000 in
theorem cursor_yes (h : TmAt w lo t g rb bs T B) :
    Calls Tryz.prog 14 #[.pointer (some ⟨t, 0, none⟩)] w fun e w' => e = .returned (.tuple #[.int .i64 T.row, .int .i64 T.col]) ∧ Below w.heap.size w w' := by
  have HN := Lib.hid (now_yes h)
  clear h
  unfold stc at HN
  have hfl := field_pl (.int .i64 T.row) (.int .i64 T.col) (.bool T.pend) (.bool T.seen) (.bool T.mark) (.int .i64 T.lr) (.int .i64 T.lc) (.bool T.y.b) (.bool T.y.u) (.bool T.y.i) (.int .i64 T.y.f) (.int .i64 T.y.g) (.int .i64 T.scr) (.int .i64 T.bells) (.bool T.joins)
  go_enter Tryz.func14, Tryz.ntmps14
  go_wp2_with (go_at_call 31; refine HN.out.mono ?_; rintro e w1 ⟨rfl, hb1⟩; have HB1 := Lib.hid hb1; clear hb1)
  go_quiet (fail)
  go_wp2
  go_ret2
  have hx := HB1.out.alloc HB1.out.size (.cells #[.int .i64 T.row, .int .i64 T.col] 56)
  exact ⟨rfl, hx.trans ((below_drewN _ nq).mono hx.size)⟩

set_option maxRecDepth 100000 in
set_option maxHeartbeats 2000000 in
theorem move_any (h : TmAt w lo t g rb bs T B) (row col : Int) (r0 : -9223372036854775808 ≤ row) (r1 : row ≤ 9223372036854775807) (c0 : -9223372036854775808 ≤ col) (c1 : col ≤ 9223372036854775807) :
    Calls Tryz.prog 71 #[.pointer (some ⟨t, 0, none⟩), .int .i64 row, .int .i64 col] w fun e w' => e = .returned (.tuple #[]) ∧ TmStep w lo t g rb bs (moveT T row col) B w' := by
  have HS := Lib.hid (tsize_yes h)
  have hw1 := h.grid.w1
  have hw5 := h.grid.w5
  have hh1 := h.grid.h1
  have hh5 := h.grid.h5
  have P1 := Lib.hid (twithin_any row T.L.length r0 r1 hh1 hh5)
  have P2 := Lib.hid (twithin_any col T.W c0 c1 hw1 hw5)
  have q1 : wi row T.L.length < T.L.length := by unfold wi; omega
  have q2 : wi col T.W < T.W := by unfold wi; omega
  have H := Lib.hid h
  clear h
  go_enter Tryz.func71, Tryz.ntmps71
  go_wp2_with (fail)
  refine HS.out.mono ?_
  rintro e w1 ⟨rfl, hb1⟩
  have H1 := Lib.hid (H.out.below hb1)
  have HB1 := Lib.hid hb1
  clear hb1
  obtain ⟨xs, hx1, hx2, hx3⟩ := H1.out.blk
  have HX1 := Lib.hid hx1
  have HX2 := Lib.hid hx2
  have HX3 := Lib.hid hx3
  clear hx1 hx2 hx3
  go_wp2_with (fail)
  refine (P1.out _).mono ?_
  rintro e w' ⟨rfl, rfl⟩
  go_wp2_with (fail)
  refine (P2.out _).mono ?_
  rintro e w' ⟨rfl, rfl⟩
  go_wp2_with (first
    | ((with_reducible refine at_store 23 ?_); refine wpList_store_blk rfl _ _ _ rfl rfl t 2 _ (tmc t g T xs B.length) [.int .i64 (wi row T.L.length), .int .i64 (wi col T.W)] rfl rfl HX3.out (by simp [tmc, stc]) pl_size (by intro v hv; simp at hv; rcases hv with rfl | rfl <;> rfl) ?_; intro w2 hn2 hg2; have HN2 := Lib.hid hn2; have HG2 := Lib.hid hg2; clear hn2 hg2)
    | ((with_reducible refine at_store 27 ?_); refine wpList_store_cell rfl _ _ _ rfl rfl t 9 _ (splice (tmc t g T xs B.length) 2 [.int .i64 (wi row T.L.length), .int .i64 (wi col T.W)]) (.bool false) rfl rfl HN2.out (by simp [splice, tmc, stc]) (by kernel_rfl) rfl ?_; intro w3 hn3 hg3; have HN3 := Lib.hid hn3; have HG3 := Lib.hid hg3; clear hn3 hg3))
  go_end0
  refine ⟨rfl, TmStep.bel_then HB1.out (H1.out.wrote (xs := xs) (chg_one (HG2.out.trans HG3.out)) HX1.out HX2.out H1.out.b32 HN3.out rfl rfl q1 q2)⟩

set_option maxRecDepth 100000 in
set_option maxHeartbeats 2000000 in
theorem feed_any (h : TmAt w lo t g rb bs T B) (hbase : Base w lo) :
    Calls Tryz.prog 72 #[.pointer (some ⟨t, 0, none⟩)] w fun e w' => e = .returned (.tuple #[]) ∧ TmStep w lo t g rb bs (feedT T) B w' := by
  have hh1 := h.grid.h1
  have hh5 := h.grid.h5
  have hrow := h.row
  have hcol := h.col
  obtain ⟨xs, hx1, hx2, hx3⟩ := h.blk
  have HX1 := Lib.hid hx1
  have HX2 := Lib.hid hx2
  have HX3 := Lib.hid hx3
  have H := Lib.hid h
  have HBS := Lib.hid hbase
  clear h hx1 hx2 hx3 hbase
  by_cases hr : T.row + 1 < T.L.length
  · have HE := Lib.hid (show feedT T = { T with pend := false, row := T.row + 1 } from if_pos hr)
    have hri : (T.row : Int) < (T.L.length : Int) - 1 := by omega
    go_enter Tryz.func72, Tryz.ntmps72
    go_wp2_with ((with_reducible refine at_store 7 ?_); refine wpList_store_cell rfl _ _ _ rfl rfl t 9 _ (tmc t g T xs B.length) (.bool false) rfl rfl HX3.out (by simp [tmc, stc]) (by kernel_rfl) rfl ?_; intro w1 hn1 hg1; have HN1 : Hid (Blk w1 t 63 (tmc t g { T with pend := false } xs B.length)) := Lib.hid hn1; have HG1 := Lib.hid hg1; clear hn1 hg1)
    have H1 := Lib.hid (H.out.put (T' := { T with pend := false }) (chg_one HG1.out) HX1.out HX2.out H.out.b32 HN1.out rfl rfl hrow hcol)
    refine (tsize_yes H1.out).mono ?_
    rintro e w2 ⟨rfl, hb2⟩
    have H2 := Lib.hid (H1.out.below hb2)
    have HB2 := Lib.hid hb2
    have HN2 := Lib.hid (HN1.out.below hb2 HN1.out.lt)
    clear hb2
    have k2 := H2.out.cell 2 (by omega)
    simp only [tmc, stc, List.getElem?_cons_zero, List.getElem?_cons_succ, List.cons_append] at k2
    go_wp2_with ((with_reducible refine at_store 32 ?_); refine wpList_store_cell rfl _ _ _ rfl rfl t 2 _ (tmc t g { T with pend := false } xs B.length) (.int .i64 ((T.row : Int) + 1)) rfl rfl HN2.out (by simp [tmc, stc]) (by kernel_rfl) rfl ?_; intro w3 hn3 hg3; have HN3 : Hid (Blk w3 t 63 (tmc t g { T with pend := false, row := T.row + 1 } xs B.length)) := Lib.hid hn3; have HG3 := Lib.hid hg3; clear hn3 hg3)
    rw [HE.out]
    refine bodyPost_ret (results_none rfl _ _ _) rfl ?_
    exact ⟨rfl, TmStep.trans (fun _ h => .inl h) (own_t (chg_one HG1.out)) (TmStep.bel_then HB2.out (H2.out.wrote (chg_one HG3.out) HX1.out HX2.out H.out.b32 HN3.out rfl rfl hr hcol))⟩
  · have HE := Lib.hid (show feedT T = { T with pend := false, L := scrollM T.W T.L 1, scr := IntKind.i64.wrap (T.scr + 1) } from if_neg hr)
    have hri : ¬ (T.row : Int) < (T.L.length : Int) - 1 := by omega
    go_enter Tryz.func72, Tryz.ntmps72
    go_wp2_with ((with_reducible refine at_store 7 ?_); refine wpList_store_cell rfl _ _ _ rfl rfl t 9 _ (tmc t g T xs B.length) (.bool false) rfl rfl HX3.out (by simp [tmc, stc]) (by kernel_rfl) rfl ?_; intro w1 hn1 hg1; have HN1 : Hid (Blk w1 t 63 (tmc t g { T with pend := false } xs B.length)) := Lib.hid hn1; have HG1 := Lib.hid hg1; clear hn1 hg1)
    have H1 := Lib.hid (H.out.put (T' := { T with pend := false }) (chg_one HG1.out) HX1.out HX2.out H.out.b32 HN1.out rfl rfl hrow hcol)
    refine (tsize_yes H1.out).mono ?_
    rintro e w2 ⟨rfl, hb2⟩
    have H2 := Lib.hid (H1.out.below hb2)
    have HBS2 := Lib.hid ((HBS.out.chg (chg_one HG1.out) (fun k hk => by have e' : k = t := hk; rw [e']; exact H.out.lot)).below hb2)
    have HB2 := Lib.hid hb2
    have HN2 := Lib.hid (HN1.out.below hb2 HN1.out.lt)
    clear hb2
    have k2 := H2.out.cell 2 (by omega)
    have k1 := H2.out.cell 1 (by omega)
    have k12 := H2.out.cell 12 (by omega)
    simp only [tmc, stc, List.getElem?_cons_zero, List.getElem?_cons_succ, List.cons_append] at k2 k1 k12
    have hsn : scrollN T.L.length 1 = 1 := by unfold scrollN; omega
    have HD := Lib.hid (H2.out.below (Below.refl w2.heap.size w2).drew)
    have HBD := Lib.hid (HBS2.out.below (Below.refl w2.heap.size w2).drew)
    have HSC := Lib.hid (scroll_ok HD.out.grid HBD.out.bl HBD.out.b1 HBD.out.b4 1 (by omega) (by omega))
    go_wp2_with (fail)
    go_region_with (go_at_call 104; refine HSC.out.mono ?_; rintro e w4 ⟨rfl, bs4, hg4, ho4, hc4⟩; have f12 : w4.frozen? ⟨t, 12, none⟩ = false := ((HN2.out.drew).chg hc4 (fun hk => H2.out.ne_g hk rfl)).frozen 12; have k12' : w4.cell? ⟨t, 12, none⟩ = some (.int .i64 T.scr) := ((HN2.out.drew).chg hc4 (fun hk => H2.out.ne_g hk rfl)).cell 12; have HG4 := Lib.hid hg4; have HO4 := Lib.hid ho4; have HC4 := Lib.hid hc4; clear hg4 ho4 hc4)
    all_goals
      go_end0
      rw [HE.out]
      refine ⟨rfl, TmStep.trans (fun _ h => .inl h) (own_t (chg_one HG1.out)) (TmStep.bel_then HB2.out ?_)⟩
      have hn4 := (HN2.out.drew).chg HC4.out (fun hk => H2.out.ne_g hk rfl)
      have hn5 : Blk (w4.setCell ⟨t, 12, none⟩ (.int .i64 (IntKind.i64.wrap (T.scr + 1)))) t 63 (tmc t g { T with pend := false, L := scrollM T.W T.L 1, scr := IntKind.i64.wrap (T.scr + 1) } xs B.length) := hn4.set_ 12 _
      have hc5 : Chg (one t) w4 (w4.setCell ⟨t, 12, none⟩ (.int .i64 (IntKind.i64.wrap (T.scr + 1)))) := (Chg.refl (one t) w4).setCell (.inl (by show t = t; rfl)) _
      exact ⟨bs4, ⟨⟨xs, HX1.out, HX2.out, hn5⟩, HG4.out.keep hc5 (fun k hk e => (H2.out.ne_g' hk HG4.out hn4) e.symm), H.out.lot, by rw [show (({ T with pend := false, L := scrollM T.W T.L 1, scr := IntKind.i64.wrap (T.scr + 1) } : TS).L) = scrollM T.W T.L 1 from rfl, scrollM_length]; exact hrow, hcol, H.out.b32⟩, HO4.out, ((Chg.refl _ w2).drewN 1).trans (((Chg.refl _ _).trans HC4.out (fun k hk => .inl (.inr hk))).trans hc5 (fun k hk => .inl (.inl hk))) (fun _ h => .inl h)⟩
end
end Go.Proofs.YtfmkeeaenjeneaaGreatDoor

namespace Go.Proofs.YtfmkeeaenjeneaaGreatDoor
open Go.RowKit
set_option linter.unusedVariables false
set_option linter.unusedSimpArgs false

theorem tconv_new (w : World) (l : List UInt8) (b : Nat) (hb : w.heap.size = b) (n c : Nat) (hn : n = l.length) : Sem.run Tryz.prog (Go.convert 32 9 (.slice (some ⟨b, 0, none⟩) n c)) (w.alloc (.cells (bv l).toArray 5)) = .ok (.string ⟨l.toArray⟩) (w.alloc (.cells (bv l).toArray 5)) := by
  subst hb
  exact run_str_sl _ (w.heap.size + 1) _ n c l (by have := Sl.new w (bv l).toArray 5; simpa using this) hn
theorem tconv_drew (w : World) (l : List UInt8) (b : Nat) (hb : w.heap.size = b) (n c : Nat) (hn : n = l.length) : Sem.run Tryz.prog (Go.convert 32 9 (.slice (some ⟨b, 0, none⟩) n c)) (w.alloc (.cells (bv l).toArray 5)).drew = .ok (.string ⟨l.toArray⟩) (w.alloc (.cells (bv l).toArray 5)).drew := by
  subst hb
  exact run_str_sl _ (w.heap.size + 1) _ n c l (by have := (Sl.new w (bv l).toArray 5).drew; simpa using this) hn

theorem tputM_length (W : Nat) (L : List (List Cl)) (row col : Int) (s : List UInt8) (m : Int) (y : Sty) : (putM W L row col s m y).1.length = L.length := by
  unfold putM
  split
  · rfl
  · split
    · rfl
    · simp
/-- after the line feed that may come first -/
def fedT (T : TS) (k : Nat) : TS := if T.pend = true ∨ T.W < T.col + k then feedT { T with col := 0 } else T
theorem feedT_W (T : TS) : (feedT T).W = T.W ∧ (feedT T).L.length = T.L.length ∧ (feedT T).col = T.col ∧ (feedT T).joins = T.joins ∧ (feedT T).pend = false := by
  unfold feedT
  split
  · exact ⟨rfl, rfl, rfl, rfl, rfl⟩
  · exact ⟨rfl, scrollM_length _ _ _, rfl, rfl, rfl⟩
/-- put, whether it says that there is room or not -/
def putU (T : TS) (b : List UInt8) (k : Nat) : TS := if T.W < k then T else { storeT (fedT T k) b k with joins := T.joins }
theorem putU_print (T : TS) (b : List UInt8) (k : Nat) : { putU T b k with joins := decide (k ≤ T.W) } = printT T b k := by
  unfold putU printT
  by_cases h : T.W < k
  · rw [if_pos h, if_pos h, decide_eq_false (by omega)]
  · rw [if_neg h, if_neg h, decide_eq_true (by omega)]
    rfl

section
variable {w : World} {lo t g rb : Nat} {bs : List Nat} {T : TS} {B : List UInt8}
theorem enters_tbytes : ∀ args w, (callFunc 111 args).run Tryz.prog w = .ok (.enter 111 args) w := enters_of Tryz.func111 (by kernel_rfl) rfl
theorem enters_tput : ∀ args w, (callFunc 110 args).run Tryz.prog w = .ok (.enter 110 args) w := enters_of Tryz.func110 (by kernel_rfl) rfl
/-- the grid's part of put -/
def PutP (w : World) (lo t g rb : Nat) (bs : List Nat) (T : TS) (B : List UInt8) (L' : List (List Cl)) (w' : World) : Prop := TmStep w lo t g rb bs { T with L := L' } B w'

def TCells (w : World) (t g : Nat) (T : TS) : Prop := w.cell? ⟨t, 1, none⟩ = some (.pointer (some ⟨g, 0, none⟩)) ∧ w.cell? ⟨t, 2, none⟩ = some (.int .i64 T.row) ∧ w.cell? ⟨t, 3, none⟩ = some (.int .i64 T.col) ∧ w.cell? ⟨t, 4, none⟩ = some (.bool T.y.b) ∧ w.cell? ⟨t, 5, none⟩ = some (.bool T.y.u) ∧ w.cell? ⟨t, 6, none⟩ = some (.bool T.y.i) ∧ w.cell? ⟨t, 7, none⟩ = some (.int .i64 T.y.f) ∧ w.cell? ⟨t, 8, none⟩ = some (.int .i64 T.y.g)
theorem tm_cells (h : TmAt w lo t g rb bs T B) : TCells w t g T :=
  ⟨h.cell 1 (by omega), h.cell 2 (by omega), h.cell 3 (by omega), h.cell 4 (by omega), h.cell 5 (by omega), h.cell 6 (by omega), h.cell 7 (by omega), h.cell 8 (by omega)⟩
/-- The grid under a terminal is written by a method of its own. -/
theorem put_fin {W w' : World} {L' : List (List Cl)} (h : TmAt w lo t g rb bs T B) (hW : Below w.heap.size w W) (hg : GrAt w' lo g rb bs T.W L') (hc : Chg (GrOwn g rb bs) W w') (hl : L'.length = T.L.length := by first | rfl | exact tputM_length _ _ _ _ _ _ _) : TmStep w lo t g rb bs { T with L := L' } B w' := by
  obtain ⟨xs, h1, h2, h3⟩ := (h.below hW).blk
  refine ⟨bs, ⟨⟨xs, h1, h2, h3.chg hc (fun hk => (h.below hW).ne_g hk rfl)⟩, hg, h.lot, by show T.row < L'.length; rw [hl]; exact h.row, h.col, h.b32⟩, fun _ h => .inl h, (Chg.of_below hW).trans hc (fun k hk => .inl (.inr hk))⟩

set_option maxRecDepth 100000 in
set_option maxHeartbeats 8000000 in
theorem put_term (h : TmAt w lo t g rb bs T B) (hbase : Base w lo) (r : Int) (k : Nat) (hk : ofI r = k) (hk1 : 1 ≤ k) (hk2 : k ≤ 2) :
    Calls Tryz.prog 75 #[.pointer (some ⟨t, 0, none⟩), .int .i32 r] w fun e w' => e = .returned (.bool (decide (k ≤ T.W))) ∧ TmStep w lo t g rb bs (putU T (enc (rfix r)) k) B w' := by
  have HS := Lib.hid (tsize_yes h)
  have hw1 := h.grid.w1
  have hw5 := h.grid.w5
  have hrow := h.row
  have hcol := h.col
  have H := Lib.hid h
  have HBS := Lib.hid hbase
  have HOF := Lib.hid (fun w hT => hk ▸ of_any r w hT)
  have HBY2 : Hid (∀ W, Calls Tryz.prog 111 #[.int .i32 r] W fun e w' => ∃ A, e = .returned (.slice A (enc (rfix r)).length (enc (rfix r)).length) ∧ Below W.heap.size W w' ∧ Sl w' w'.heap.size A (bv (enc (rfix r)))) := Lib.hid (fun W => (bytes_any r W).mono fun e w' ⟨he, hw⟩ => ⟨_, he, by rw [hw]; exact (Below.refl _ _).alloc (Nat.le_refl _) _, by have := Sl.new W (bv (enc (rfix r))).toArray 5; rw [hw]; simpa using this⟩)
  obtain ⟨eb, heb⟩ : ∃ e, e = enc (rfix r) := ⟨_, rfl⟩
  have hel : eb.length ≤ 4 := by rw [heb]; exact (enc_le (rfix r)).1
  rw [← heb] at HBY2 ⊢
  clear h hbase hk heb
  by_cases hwk : T.W < k
  · have HE := Lib.hid (show putU T eb k = T from if_pos hwk)
    have HD := Lib.hid (show decide (k ≤ T.W) = false from decide_eq_false (by omega))
    have hki : (T.W : Int) < (k : Int) := by omega
    go_enter Tryz.func75, Tryz.ntmps75
    go_wp2_with (fail)
    refine HS.out.mono ?_
    rintro e w1 ⟨rfl, hb1⟩
    have HB1 := Lib.hid hb1
    have HBS1 := Lib.hid (HBS.out.below hb1)
    clear hb1
    go_wp2_with (fail)
    refine (HOF.out _ HBS1.out.tb).mono ?_
    rintro e w2 ⟨rfl, hb2⟩
    have HB2 := Lib.hid (HB1.out.trans (hb2.mono HB1.out.size))
    clear hb2
    go_wp2_with (fail)
    go_ret
    exact ⟨ret_bool HD.out.symm, by rw [HE.out]; exact TmStep.bel H.out HB2.out⟩
  · have HD := Lib.hid (show decide (k ≤ T.W) = true from decide_eq_true (by omega))
    have hki : ¬ (T.W : Int) < (k : Int) := by omega
    have HEP := Lib.hid (show putU T eb k = { storeT (fedT T k) eb k with joins := T.joins } from if_neg hwk)
    by_cases hf : T.pend = true ∨ T.W < T.col + k
    · obtain ⟨T3, hT3⟩ : ∃ T3, T3 = fedT T k := ⟨_, rfl⟩
      have HT3 := Lib.hid hT3.symm
      have hT3' : T3 = feedT { T with col := 0 } := hT3.trans (if_pos hf)
      obtain ⟨e1, e2, e3, e4, e5⟩ := feedT_W { T with col := 0 }
      rw [← hT3'] at e1 e2 e3 e4 e5
      have e1' : T3.W = T.W := e1
      have e3' : T3.col = 0 := e3
      have HJ : Hid (T3.joins = T.joins) := Lib.hid e4
      have HFE := Lib.hid hT3'.symm
      have HW3 := Lib.hid e1'
      have hdis : T.pend = true ∨ (T.pend = false ∧ T.W < T.col + k) := by
        cases h : T.pend
        · exact .inr ⟨rfl, hf.elim (fun h' => absurd (h.symm.trans h') (by decide)) (fun h' => h')⟩
        · exact .inl rfl
      have hk3 : k ≤ T.W := by omega
      have hf3 : T3.col + k ≤ T3.W := by omega
      have hw13 : 1 ≤ T3.W := by omega
      have HF3 := Lib.hid hf3
      have HC3 := Lib.hid e3'
      clear hT3 hT3' e1 e2 e3 e4 e5 e1' e3' hf hf3
      rcases hdis with hpd | ⟨hpd, hwd⟩
      all_goals
        go_enter Tryz.func75, Tryz.ntmps75
        go_wp2_with (fail)
        refine HS.out.mono ?_
        rintro e w1 ⟨rfl, hb1⟩
        have HB1 := Lib.hid hb1
        have HBS1 := Lib.hid (HBS.out.below hb1)
        clear hb1
        go_wp2_with (fail)
        refine (HOF.out _ HBS1.out.tb).mono ?_
        rintro e w2 ⟨rfl, hb2⟩
        have HB2 := Lib.hid (HB1.out.trans (hb2.mono HB1.out.size))
        have HBS2 := Lib.hid (HBS1.out.below hb2)
        clear hb2 HB1 HBS1
        have H2 := Lib.hid (H.out.below HB2.out)
        have c9 := H2.out.cell 9 (by omega)
        have c3 := H2.out.cell 3 (by omega)
        simp only [tmc, stc, List.getElem?_cons_zero, List.getElem?_cons_succ, List.cons_append, hpd] at c9 c3
        obtain ⟨xs, hx1, hx2, hx3⟩ := H2.out.blk
        have HX1 := Lib.hid hx1
        have HX2 := Lib.hid hx2
        have HX3 := Lib.hid hx3
        clear hx1 hx2 hx3
        have hwd2 : (T.W : Int) < (T.col : Int) + (k : Int) ∨ True := .inr trivial
        clear hwd2
        try have hwd3 : (T.W : Int) < (T.col : Int) + (k : Int) := by omega
        go_wp2_with ((with_reducible refine at_store 39 ?_); refine wpList_store_cell rfl _ _ _ rfl rfl t 3 _ (tmc t g T xs B.length) (.int .i64 0) rfl rfl HX3.out (by simp [tmc, stc]) (by kernel_rfl) rfl ?_; intro wa hna hga; have HNa : Hid (Blk wa t 63 (tmc t g { T with col := 0 } xs B.length)) := Lib.hid hna; have HGa := Lib.hid hga; clear hna hga)
        have HA := Lib.hid (H2.out.put (T' := { T with col := 0 }) (chg_one HGa.out) HX1.out HX2.out H.out.b32 HNa.out rfl rfl hrow (by show 0 < T.W; omega))
        have HBA := Lib.hid (HBS2.out.chg (chg_one HGa.out) (fun k hk => by have e' : k = t := hk; rw [e']; exact H.out.lot))
        refine (feed_any HA.out HBA.out).mono ?_
        rintro e w3 ⟨rfl, bs3, h3, ho3, hc3⟩
        rw [HFE.out] at h3
        have H3 := Lib.hid h3
        have HBS3 := Lib.hid (HBA.out.chg hc3 (fun k hk => HA.out.own_lo hk))
        have HPRE : Hid (∀ {T' : TS} {w' : World}, TmStep w3 lo t g rb bs3 T' B w' → TmStep w lo t g rb bs T' B w') := Lib.hid (fun hst => TmStep.bel_then HB2.out (TmStep.trans (fun _ h => .inl h) (own_t (chg_one HGa.out)) (TmStep.trans ho3 hc3 hst)))
        have hfit3 := HF3.out
        clear h3 ho3 hc3 HNa HGa HX1 HX2 HX3 c9 c3
        clear xs
        have hrow3 := H3.out.row
        have hcol3 := H3.out.col
        go_upto_region 8 with (fail)
        go_cut [67] (fun s wx => PutP w3 lo t g rb bs3 T3 B (putM T3.W T3.L T3.row T3.col eb k T3.y).1 wx)
        case first =>
          have hlt := H3.out.lt
          obtain ⟨k1, k2, k3, k4, k5, k6, k7, k8⟩ := tm_cells H3.out
          have HPUT : Hid (∀ W, Below w3.heap.size w3 W → Calls Tryz.prog 110 #[.pointer (some ⟨g, 0, none⟩), .int .i64 T3.row, .int .i64 T3.col, .string ⟨eb.toArray⟩, .int .i64 k, .agg #[.bool T3.y.b, .bool T3.y.u, .bool T3.y.i, .int .i64 T3.y.f, .int .i64 T3.y.g]] W fun e w' => e = .returned (.int .i64 (putM T3.W T3.L T3.row T3.col eb k T3.y).2) ∧ PutP w3 lo t g rb bs3 T3 B (putM T3.W T3.L T3.row T3.col eb k T3.y).1 w') := Lib.hid (fun W hW => by
            have hb := HBS3.out.below hW
            have ht := H3.out.below hW
            refine (put_any ht.grid hb.bl hb.b1 T3.row T3.col eb k T3.y (by omega)).mono ?_
            rintro e w' ⟨rfl, hg, hc⟩
            exact ⟨rfl, put_fin H3.out hW hg hc⟩)
          have HBY3 : Hid (∀ W, Below w3.heap.size w3 W → Calls Tryz.prog 111 #[.int .i32 r] W fun e w' => ∃ A, e = .returned (.slice A eb.length eb.length) ∧ Sem.run Tryz.prog (Go.convert 32 9 (.slice A eb.length eb.length)) w' = .ok (.string ⟨eb.toArray⟩) w' ∧ Sem.run Tryz.prog (Go.convert 32 9 (.slice A eb.length eb.length)) w'.drew = .ok (.string ⟨eb.toArray⟩) w'.drew ∧ Below w3.heap.size w3 w') := Lib.hid (fun W hW => (HBY2.out W).mono fun e w' ⟨A, he, hb, hs⟩ => ⟨A, he, run_str_sl w' w'.heap.size A eb.length eb.length eb hs rfl, run_str_sl w'.drew w'.heap.size A eb.length eb.length eb hs.drew rfl, hW.trans (hb.mono hW.size)⟩)
          have HKC : Hid (∀ W, Below w3.heap.size w3 W → TCells W t g T3) := Lib.hid (fun W hW => tm_cells (H3.out.below hW))
          have HKP : Hid (∀ W, PutP w3 lo t g rb bs3 T3 B (putM T3.W T3.L T3.row T3.col eb k T3.y).1 W → TCells W t g T3) := Lib.hid (fun W hW => by obtain ⟨_, h, _, _⟩ := hW; have hc := tm_cells h; exact hc)
          have HDR : Hid (Below w3.heap.size w3 w3.drew) := Lib.hid (Below.refl _ _).drew
          go_region_held (fun w' => w'.cell? ⟨t, 1, none⟩ = some (.pointer (some ⟨g, 0, none⟩)) ∧ w'.cell? ⟨t, 2, none⟩ = some (.int .i64 T3.row) ∧ w'.cell? ⟨t, 3, none⟩ = some (.int .i64 T3.col) ∧ w'.cell? ⟨t, 4, none⟩ = some (.bool T3.y.b) ∧ w'.cell? ⟨t, 5, none⟩ = some (.bool T3.y.u) ∧ w'.cell? ⟨t, 6, none⟩ = some (.bool T3.y.i) ∧ w'.cell? ⟨t, 7, none⟩ = some (.int .i64 T3.y.f) ∧ w'.cell? ⟨t, 8, none⟩ = some (.int .i64 T3.y.g))
            (first | exact HKP.out _ hp5 | exact HKC.out _ hbx | exact HKC.out _ HDR.out | exact HKC.out _ (Below.refl _ _))
            (first
              | (go_at_call 111; refine (HBY3.out _ HDR.out).mono ?_; rintro e wx ⟨A4, rfl, hcv4, hcv4d, hbx⟩)
              | (go_at_call 110; refine (HPUT.out _ (by first | exact hbx | exact hbx.drew)).mono ?_; rintro e w5 ⟨rfl, hp5⟩))
          all_goals
            go_wp2_with fail
            go_meet
            exact hp5
        case rest =>
          obtain ⟨bs4, h4, ho4, hc4⟩ := hcut
          obtain ⟨P, hP⟩ : ∃ P, P = (putM T3.W T3.L T3.row T3.col eb k T3.y).1 := ⟨_, rfl⟩
          rw [← hP] at h4
          have HPE := Lib.hid hP
          have HO4 := Lib.hid ho4
          have HC4 := Lib.hid hc4
          have H4 := Lib.hid h4
          obtain ⟨xs, hx1, hx2, hx3⟩ := h4.blk
          have HX1 := Lib.hid hx1
          have HX2 := Lib.hid hx2
          have HX3 := Lib.hid hx3
          clear h4 ho4 hc4 hx1 hx2 hx3 hP
          have c2 : wc.cell? ⟨t, 2, none⟩ = some (.int .i64 T3.row) := H4.out.cell 2 (by omega)
          have c3 : wc.cell? ⟨t, 3, none⟩ = some (.int .i64 T3.col) := H4.out.cell 3 (by omega)
          have HROW : Hid (T3.row < P.length) := Lib.hid H4.out.row
          obtain ⟨m, hm⟩ : ∃ m : Nat, m = T.W - 1 := ⟨_, rfl⟩
          have hmW : m < T3.W := by have := HW3.out; omega
          have hwm : (T.W : Int) - 1 = (m : Int) := by omega
          have HM := Lib.hid (show T3.W - 1 = m by have := HW3.out; omega)
          clear hm
          by_cases hcw : T3.col + k = T.W
          · have hcwi : (T3.col : Int) + (k : Int) = (T.W : Int) := by omega
            have hcw' : T3.col + k = T3.W := hcw.trans HW3.out.symm
            have HEQ : Hid (putU T eb k = { T3 with L := P, lr := T3.row, lc := T3.col, col := m, pend := true }) := Lib.hid (by rw [HEP.out, HT3.out, HPE.out]; unfold storeT; rw [if_pos hcw', if_pos hcw', HM.out, ← HJ.out])
            clear hcw hcw'
            go_wp2_with (first
              | ((with_reducible refine at_dst 73 ?_); refine wpList_load_mid rfl _ _ rfl t 2 rfl [.int .i64 T3.row, .int .i64 T3.col] _ (HX3.out.range 2 _ (fun j v hv => by match j, hv with | 0, hv => exact hv | 1, hv => exact hv)) Tryz.underlying56 rfl pl_size ?_)
              | ((with_reducible refine at_store 76 ?_); refine wpList_store_blk rfl _ _ _ rfl rfl t 14 _ (tmc t g { T3 with L := P } xs B.length) [.int .i64 T3.row, .int .i64 T3.col] rfl rfl HX3.out (by simp [tmc, stc]) pl_size (by intro v hv; simp at hv; rcases hv with rfl | rfl <;> rfl) ?_; intro w6 hn6 hg6; have HN6 : Hid (Blk w6 t 63 (tmc t g { T3 with L := P, lr := T3.row, lc := T3.col } xs B.length)) := Lib.hid hn6; have HG6 := Lib.hid hg6; have d3 : w6.cell? ⟨t, 3, none⟩ = some (.int .i64 T3.col) := HN6.out.cell 3; clear hn6 hg6)
              | ((with_reducible refine at_store 88 ?_); refine wpList_store_cell rfl _ _ _ rfl rfl t 3 _ (tmc t g { T3 with L := P, lr := T3.row, lc := T3.col } xs B.length) (.int .i64 T.W) rfl rfl HN6.out (by simp [tmc, stc]) (by kernel_rfl) rfl ?_; intro w7 hn7 hg7; have HN7 : Hid (Blk w7 t 63 (tmc t g { T3 with L := P, lr := T3.row, lc := T3.col, col := T.W } xs B.length)) := Lib.hid hn7; have HG7 := Lib.hid hg7; have f3 : w7.cell? ⟨t, 3, none⟩ = some (.int .i64 T.W) := HN7.out.cell 3; clear hn7 hg7)
              | ((with_reducible refine at_store 104 ?_); refine wpList_store_cell rfl _ _ _ rfl rfl t 3 _ (tmc t g { T3 with L := P, lr := T3.row, lc := T3.col, col := T.W } xs B.length) (.int .i64 m) rfl rfl HN7.out (by simp [tmc, stc]) (by kernel_rfl) rfl ?_; intro w8 hn8 hg8; have HN8 : Hid (Blk w8 t 63 (tmc t g { T3 with L := P, lr := T3.row, lc := T3.col, col := m } xs B.length)) := Lib.hid hn8; have HG8 := Lib.hid hg8; clear hn8 hg8)
              | ((with_reducible refine at_store 107 ?_); refine wpList_store_cell rfl _ _ _ rfl rfl t 9 _ (tmc t g { T3 with L := P, lr := T3.row, lc := T3.col, col := m } xs B.length) (.bool true) rfl rfl HN8.out (by simp [tmc, stc]) (by kernel_rfl) rfl ?_; intro w9 hn9 hg9; have HN9 : Hid (Blk w9 t 63 (tmc t g { T3 with L := P, lr := T3.row, lc := T3.col, col := m, pend := true } xs B.length)) := Lib.hid hn9; have HG9 := Lib.hid hg9; clear hn9 hg9))
            go_ret
            refine ⟨ret_bool HD.out.symm, ?_⟩
            rw [HEQ.out]
            exact HPRE.out (TmStep.trans HO4.out HC4.out (H4.out.wrote (xs := xs) (chg_one (((HG6.out.trans HG7.out).trans HG8.out).trans HG9.out)) HX1.out HX2.out H4.out.b32 HN9.out rfl rfl HROW.out hmW))
          · have hcwi : ¬ (T3.col : Int) + (k : Int) = (T.W : Int) := by omega
            have hcwb : ((T3.col : Int) + (k : Int) == (T.W : Int)) = false := by simpa using hcwi
            have hcw' : ¬ T3.col + k = T3.W := fun h => hcw (h.trans HW3.out)
            have hcl : T3.col + k < T3.W := by have := HW3.out; omega
            have hub : (T3.col : Int) + (k : Int) ≤ 1000 := by have := HW3.out; omega
            have hub3 : (T3.col : Int) ≤ 1000 := by have := HW3.out; omega
            have HEQ : Hid (putU T eb k = { T3 with L := P, lr := T3.row, lc := T3.col, col := T3.col + k }) := Lib.hid (by rw [HEP.out, HT3.out, HPE.out]; unfold storeT; rw [if_neg hcw', if_neg hcw', ← HJ.out])
            clear hcw hcw'
            go_wp2_with (first
              | ((with_reducible refine at_dst 73 ?_); refine wpList_load_mid rfl _ _ rfl t 2 rfl [.int .i64 T3.row, .int .i64 T3.col] _ (HX3.out.range 2 _ (fun j v hv => by match j, hv with | 0, hv => exact hv | 1, hv => exact hv)) Tryz.underlying56 rfl pl_size ?_)
              | ((with_reducible refine at_store 76 ?_); refine wpList_store_blk rfl _ _ _ rfl rfl t 14 _ (tmc t g { T3 with L := P } xs B.length) [.int .i64 T3.row, .int .i64 T3.col] rfl rfl HX3.out (by simp [tmc, stc]) pl_size (by intro v hv; simp at hv; rcases hv with rfl | rfl <;> rfl) ?_; intro w6 hn6 hg6; have HN6 : Hid (Blk w6 t 63 (tmc t g { T3 with L := P, lr := T3.row, lc := T3.col } xs B.length)) := Lib.hid hn6; have HG6 := Lib.hid hg6; have d3 : w6.cell? ⟨t, 3, none⟩ = some (.int .i64 T3.col) := HN6.out.cell 3; clear hn6 hg6)
              | ((with_reducible refine at_store 88 ?_); refine wpList_store_cell rfl _ _ _ rfl rfl t 3 _ (tmc t g { T3 with L := P, lr := T3.row, lc := T3.col } xs B.length) (.int .i64 ((T3.col : Int) + (k : Int))) rfl rfl HN6.out (by simp [tmc, stc]) (by kernel_rfl) rfl ?_; intro w7 hn7 hg7; have HN7 : Hid (Blk w7 t 63 (tmc t g { T3 with L := P, lr := T3.row, lc := T3.col, col := T3.col + k } xs B.length)) := Lib.hid hn7; have HG7 := Lib.hid hg7; have f3 : w7.cell? ⟨t, 3, none⟩ = some (.int .i64 ((T3.col : Int) + (k : Int))) := HN7.out.cell 3; clear hn7 hg7))
            go_ret
            refine ⟨ret_bool HD.out.symm, ?_⟩
            rw [HEQ.out]
            exact HPRE.out (TmStep.trans HO4.out HC4.out (H4.out.wrote (xs := xs) (chg_one (HG6.out.trans HG7.out)) HX1.out HX2.out H4.out.b32 HN7.out rfl rfl HROW.out hcl))
    · have hf' : T.pend = false ∧ T.col + k ≤ T.W := by
        refine ⟨?_, by omega⟩
        cases h : T.pend
        · rfl
        · exact absurd (.inl h) hf
      have HT3 := Lib.hid (show fedT T k = T from if_neg hf)
      obtain ⟨hpf, hfit⟩ := hf'
      clear hf
      go_enter Tryz.func75, Tryz.ntmps75
      go_wp2_with (fail)
      refine HS.out.mono ?_
      rintro e w1 ⟨rfl, hb1⟩
      have HB1 := Lib.hid hb1
      have HBS1 := Lib.hid (HBS.out.below hb1)
      clear hb1
      go_wp2_with (fail)
      refine (HOF.out _ HBS1.out.tb).mono ?_
      rintro e w3 ⟨rfl, hb2⟩
      have HB3 := Lib.hid (HB1.out.trans (hb2.mono HB1.out.size))
      have HBS3 := Lib.hid (HBS1.out.below hb2)
      clear hb2 HB1 HBS1
      have H3 := Lib.hid (H.out.below HB3.out)
      have c9 := H3.out.cell 9 (by omega)
      have c3 := H3.out.cell 3 (by omega)
      simp only [tmc, stc, List.getElem?_cons_zero, List.getElem?_cons_succ, List.cons_append, hpf] at c9 c3
      have hki2 : ¬ (T.W : Int) < (T.col : Int) + (k : Int) := by omega
      obtain ⟨T3, hT3e⟩ : ∃ T3, T3 = T := ⟨_, rfl⟩
      have H3 : Hid (TmAt w3 lo t g rb bs T3 B) := Lib.hid (by rw [hT3e]; exact H3.out)
      have HT3 : Hid (fedT T k = T3) := Lib.hid (by rw [hT3e]; exact HT3.out)
      have hfit3 : T3.col + k ≤ T3.W := by rw [hT3e]; exact hfit
      have hw13 : 1 ≤ T3.W := by rw [hT3e]; exact hw1
      have HJ : Hid (T3.joins = T.joins) := Lib.hid (by rw [hT3e])
      have HW3 : Hid (T3.W = T.W) := Lib.hid (by rw [hT3e])
      clear hT3e
      have hrow3 := H3.out.row
      have hcol3 := H3.out.col
      go_upto_region 8 with (fail)
      go_cut [67] (fun s wx => PutP w3 lo t g rb bs T3 B (putM T3.W T3.L T3.row T3.col eb k T3.y).1 wx)
      case first =>
        have hlt := H3.out.lt
        obtain ⟨k1, k2, k3, k4, k5, k6, k7, k8⟩ := tm_cells H3.out
        have HPUT : Hid (∀ W, Below w3.heap.size w3 W → Calls Tryz.prog 110 #[.pointer (some ⟨g, 0, none⟩), .int .i64 T3.row, .int .i64 T3.col, .string ⟨eb.toArray⟩, .int .i64 k, .agg #[.bool T3.y.b, .bool T3.y.u, .bool T3.y.i, .int .i64 T3.y.f, .int .i64 T3.y.g]] W fun e w' => e = .returned (.int .i64 (putM T3.W T3.L T3.row T3.col eb k T3.y).2) ∧ PutP w3 lo t g rb bs T3 B (putM T3.W T3.L T3.row T3.col eb k T3.y).1 w') := Lib.hid (fun W hW => by
          have hb := HBS3.out.below hW
          have ht := H3.out.below hW
          refine (put_any ht.grid hb.bl hb.b1 T3.row T3.col eb k T3.y (by omega)).mono ?_
          rintro e w' ⟨rfl, hg, hc⟩
          exact ⟨rfl, put_fin H3.out hW hg hc⟩)
        have HBY3 : Hid (∀ W, Below w3.heap.size w3 W → Calls Tryz.prog 111 #[.int .i32 r] W fun e w' => ∃ A, e = .returned (.slice A eb.length eb.length) ∧ Sem.run Tryz.prog (Go.convert 32 9 (.slice A eb.length eb.length)) w' = .ok (.string ⟨eb.toArray⟩) w' ∧ Sem.run Tryz.prog (Go.convert 32 9 (.slice A eb.length eb.length)) w'.drew = .ok (.string ⟨eb.toArray⟩) w'.drew ∧ Below w3.heap.size w3 w') := Lib.hid (fun W hW => (HBY2.out W).mono fun e w' ⟨A, he, hb, hs⟩ => ⟨A, he, run_str_sl w' w'.heap.size A eb.length eb.length eb hs rfl, run_str_sl w'.drew w'.heap.size A eb.length eb.length eb hs.drew rfl, hW.trans (hb.mono hW.size)⟩)
        have HKC : Hid (∀ W, Below w3.heap.size w3 W → TCells W t g T3) := Lib.hid (fun W hW => tm_cells (H3.out.below hW))
        have HKP : Hid (∀ W, PutP w3 lo t g rb bs T3 B (putM T3.W T3.L T3.row T3.col eb k T3.y).1 W → TCells W t g T3) := Lib.hid (fun W hW => by obtain ⟨_, h, _, _⟩ := hW; have hc := tm_cells h; exact hc)
        have HDR : Hid (Below w3.heap.size w3 w3.drew) := Lib.hid (Below.refl _ _).drew
        go_region_held (fun w' => w'.cell? ⟨t, 1, none⟩ = some (.pointer (some ⟨g, 0, none⟩)) ∧ w'.cell? ⟨t, 2, none⟩ = some (.int .i64 T3.row) ∧ w'.cell? ⟨t, 3, none⟩ = some (.int .i64 T3.col) ∧ w'.cell? ⟨t, 4, none⟩ = some (.bool T3.y.b) ∧ w'.cell? ⟨t, 5, none⟩ = some (.bool T3.y.u) ∧ w'.cell? ⟨t, 6, none⟩ = some (.bool T3.y.i) ∧ w'.cell? ⟨t, 7, none⟩ = some (.int .i64 T3.y.f) ∧ w'.cell? ⟨t, 8, none⟩ = some (.int .i64 T3.y.g))
          (first | exact HKP.out _ hp5 | exact HKC.out _ hbx | exact HKC.out _ HDR.out | exact HKC.out _ (Below.refl _ _))
          (first
            | (go_at_call 111; refine (HBY3.out _ HDR.out).mono ?_; rintro e wx ⟨A4, rfl, hcv4, hcv4d, hbx⟩)
            | (go_at_call 110; refine (HPUT.out _ (by first | exact hbx | exact hbx.drew)).mono ?_; rintro e w5 ⟨rfl, hp5⟩))
        all_goals
          go_wp2_with fail
          go_meet
          exact hp5
      case rest =>
        obtain ⟨bs4, h4, ho4, hc4⟩ := hcut
        obtain ⟨P, hP⟩ : ∃ P, P = (putM T3.W T3.L T3.row T3.col eb k T3.y).1 := ⟨_, rfl⟩
        rw [← hP] at h4
        have HPE := Lib.hid hP
        have HO4 := Lib.hid ho4
        have HC4 := Lib.hid hc4
        have H4 := Lib.hid h4
        obtain ⟨xs, hx1, hx2, hx3⟩ := h4.blk
        have HX1 := Lib.hid hx1
        have HX2 := Lib.hid hx2
        have HX3 := Lib.hid hx3
        clear h4 ho4 hc4 hx1 hx2 hx3 hP
        have c2 : wc.cell? ⟨t, 2, none⟩ = some (.int .i64 T3.row) := H4.out.cell 2 (by omega)
        have c3 : wc.cell? ⟨t, 3, none⟩ = some (.int .i64 T3.col) := H4.out.cell 3 (by omega)
        have HROW : Hid (T3.row < P.length) := Lib.hid H4.out.row
        obtain ⟨m, hm⟩ : ∃ m : Nat, m = T.W - 1 := ⟨_, rfl⟩
        have hmW : m < T3.W := by have := HW3.out; omega
        have hwm : (T.W : Int) - 1 = (m : Int) := by omega
        have HM := Lib.hid (show T3.W - 1 = m by have := HW3.out; omega)
        clear hm
        by_cases hcw : T3.col + k = T.W
        · have hcwi : (T3.col : Int) + (k : Int) = (T.W : Int) := by omega
          have hcw' : T3.col + k = T3.W := hcw.trans HW3.out.symm
          have HEQ : Hid (putU T eb k = { T3 with L := P, lr := T3.row, lc := T3.col, col := m, pend := true }) := Lib.hid (by rw [HEP.out, HT3.out, HPE.out]; unfold storeT; rw [if_pos hcw', if_pos hcw', HM.out, ← HJ.out])
          clear hcw hcw'
          go_wp2_with (first
            | ((with_reducible refine at_dst 73 ?_); refine wpList_load_mid rfl _ _ rfl t 2 rfl [.int .i64 T3.row, .int .i64 T3.col] _ (HX3.out.range 2 _ (fun j v hv => by match j, hv with | 0, hv => exact hv | 1, hv => exact hv)) Tryz.underlying56 rfl pl_size ?_)
            | ((with_reducible refine at_store 76 ?_); refine wpList_store_blk rfl _ _ _ rfl rfl t 14 _ (tmc t g { T3 with L := P } xs B.length) [.int .i64 T3.row, .int .i64 T3.col] rfl rfl HX3.out (by simp [tmc, stc]) pl_size (by intro v hv; simp at hv; rcases hv with rfl | rfl <;> rfl) ?_; intro w6 hn6 hg6; have HN6 : Hid (Blk w6 t 63 (tmc t g { T3 with L := P, lr := T3.row, lc := T3.col } xs B.length)) := Lib.hid hn6; have HG6 := Lib.hid hg6; have d3 : w6.cell? ⟨t, 3, none⟩ = some (.int .i64 T3.col) := HN6.out.cell 3; clear hn6 hg6)
            | ((with_reducible refine at_store 88 ?_); refine wpList_store_cell rfl _ _ _ rfl rfl t 3 _ (tmc t g { T3 with L := P, lr := T3.row, lc := T3.col } xs B.length) (.int .i64 T.W) rfl rfl HN6.out (by simp [tmc, stc]) (by kernel_rfl) rfl ?_; intro w7 hn7 hg7; have HN7 : Hid (Blk w7 t 63 (tmc t g { T3 with L := P, lr := T3.row, lc := T3.col, col := T.W } xs B.length)) := Lib.hid hn7; have HG7 := Lib.hid hg7; have f3 : w7.cell? ⟨t, 3, none⟩ = some (.int .i64 T.W) := HN7.out.cell 3; clear hn7 hg7)
            | ((with_reducible refine at_store 104 ?_); refine wpList_store_cell rfl _ _ _ rfl rfl t 3 _ (tmc t g { T3 with L := P, lr := T3.row, lc := T3.col, col := T.W } xs B.length) (.int .i64 m) rfl rfl HN7.out (by simp [tmc, stc]) (by kernel_rfl) rfl ?_; intro w8 hn8 hg8; have HN8 : Hid (Blk w8 t 63 (tmc t g { T3 with L := P, lr := T3.row, lc := T3.col, col := m } xs B.length)) := Lib.hid hn8; have HG8 := Lib.hid hg8; clear hn8 hg8)
            | ((with_reducible refine at_store 107 ?_); refine wpList_store_cell rfl _ _ _ rfl rfl t 9 _ (tmc t g { T3 with L := P, lr := T3.row, lc := T3.col, col := m } xs B.length) (.bool true) rfl rfl HN8.out (by simp [tmc, stc]) (by kernel_rfl) rfl ?_; intro w9 hn9 hg9; have HN9 : Hid (Blk w9 t 63 (tmc t g { T3 with L := P, lr := T3.row, lc := T3.col, col := m, pend := true } xs B.length)) := Lib.hid hn9; have HG9 := Lib.hid hg9; clear hn9 hg9))
          go_ret
          refine ⟨ret_bool HD.out.symm, ?_⟩
          rw [HEQ.out]
          exact TmStep.bel_then HB3.out (TmStep.trans HO4.out HC4.out (H4.out.wrote (xs := xs) (chg_one (((HG6.out.trans HG7.out).trans HG8.out).trans HG9.out)) HX1.out HX2.out H4.out.b32 HN9.out rfl rfl HROW.out hmW))
        · have hcwi : ¬ (T3.col : Int) + (k : Int) = (T.W : Int) := by omega
          have hcwb : ((T3.col : Int) + (k : Int) == (T.W : Int)) = false := by simpa using hcwi
          have hcw' : ¬ T3.col + k = T3.W := fun h => hcw (h.trans HW3.out)
          have hcl : T3.col + k < T3.W := by have := HW3.out; omega
          have hub : (T3.col : Int) + (k : Int) ≤ 1000 := by have := HW3.out; omega
          have hub3 : (T3.col : Int) ≤ 1000 := by have := HW3.out; omega
          have HEQ : Hid (putU T eb k = { T3 with L := P, lr := T3.row, lc := T3.col, col := T3.col + k }) := Lib.hid (by rw [HEP.out, HT3.out, HPE.out]; unfold storeT; rw [if_neg hcw', if_neg hcw', ← HJ.out])
          clear hcw hcw'
          go_wp2_with (first
            | ((with_reducible refine at_dst 73 ?_); refine wpList_load_mid rfl _ _ rfl t 2 rfl [.int .i64 T3.row, .int .i64 T3.col] _ (HX3.out.range 2 _ (fun j v hv => by match j, hv with | 0, hv => exact hv | 1, hv => exact hv)) Tryz.underlying56 rfl pl_size ?_)
            | ((with_reducible refine at_store 76 ?_); refine wpList_store_blk rfl _ _ _ rfl rfl t 14 _ (tmc t g { T3 with L := P } xs B.length) [.int .i64 T3.row, .int .i64 T3.col] rfl rfl HX3.out (by simp [tmc, stc]) pl_size (by intro v hv; simp at hv; rcases hv with rfl | rfl <;> rfl) ?_; intro w6 hn6 hg6; have HN6 : Hid (Blk w6 t 63 (tmc t g { T3 with L := P, lr := T3.row, lc := T3.col } xs B.length)) := Lib.hid hn6; have HG6 := Lib.hid hg6; have d3 : w6.cell? ⟨t, 3, none⟩ = some (.int .i64 T3.col) := HN6.out.cell 3; clear hn6 hg6)
            | ((with_reducible refine at_store 88 ?_); refine wpList_store_cell rfl _ _ _ rfl rfl t 3 _ (tmc t g { T3 with L := P, lr := T3.row, lc := T3.col } xs B.length) (.int .i64 ((T3.col : Int) + (k : Int))) rfl rfl HN6.out (by simp [tmc, stc]) (by kernel_rfl) rfl ?_; intro w7 hn7 hg7; have HN7 : Hid (Blk w7 t 63 (tmc t g { T3 with L := P, lr := T3.row, lc := T3.col, col := T3.col + k } xs B.length)) := Lib.hid hn7; have HG7 := Lib.hid hg7; have f3 : w7.cell? ⟨t, 3, none⟩ = some (.int .i64 ((T3.col : Int) + (k : Int))) := HN7.out.cell 3; clear hn7 hg7))
          go_ret
          refine ⟨ret_bool HD.out.symm, ?_⟩
          rw [HEQ.out]
          exact TmStep.bel_then HB3.out (TmStep.trans HO4.out HC4.out (H4.out.wrote (xs := xs) (chg_one (HG6.out.trans HG7.out)) HX1.out HX2.out H4.out.b32 HN7.out rfl rfl HROW.out hcl))
end
end Go.Proofs.YtfmkeeaenjeneaaGreatDoor

namespace Go.Proofs.YtfmkeeaenjeneaaGreatDoor
open Go.RowKit
set_option linter.unusedVariables false
set_option linter.unusedSimpArgs false

theorem tjoinM_length (W : Nat) (L : List (List Cl)) (row col : Int) (s : List UInt8) : (joinM W L row col s).1.length = L.length := by
  unfold joinM
  split <;> simp

section
variable {w : World} {lo t g rb : Nat} {bs : List Nat} {T : TS} {B : List UInt8}
set_option maxRecDepth 100000 in
set_option maxHeartbeats 4000000 in
theorem join_term (h : TmAt w lo t g rb bs T B) (hbase : Base w lo) (r : Int) :
    Calls Tryz.prog 77 #[.pointer (some ⟨t, 0, none⟩), .int .i32 r] w fun e w' => e = .returned (.tuple #[]) ∧ TmStep w lo t g rb bs (markT T (enc (rfix r))) B w' := by
  have H := Lib.hid h
  have HBS := Lib.hid hbase
  have c16 : w.cell? ⟨t, 16, none⟩ = some (.bool T.joins) := h.cell 16 (by omega)
  have HBY2 : Hid (∀ W, Calls Tryz.prog 111 #[.int .i32 r] W fun e w' => ∃ A, e = .returned (.slice A (enc (rfix r)).length (enc (rfix r)).length) ∧ Below W.heap.size W w' ∧ Sl w' w'.heap.size A (bv (enc (rfix r)))) := Lib.hid (fun W => (bytes_any r W).mono fun e w' ⟨he, hw⟩ => ⟨_, he, by rw [hw]; exact (Below.refl _ _).alloc (Nat.le_refl _) _, by have := Sl.new W (bv (enc (rfix r))).toArray 5; rw [hw]; simpa using this⟩)
  obtain ⟨eb, heb⟩ : ∃ e, e = enc (rfix r) := ⟨_, rfl⟩
  have hel : eb.length ≤ 4 := by rw [heb]; exact (enc_le (rfix r)).1
  rw [← heb] at HBY2 ⊢
  clear h hbase heb
  cases hj : T.joins
  · have HE := Lib.hid (show markT T eb = T from if_neg (by rw [hj]; decide))
    rw [hj] at c16
    clear hj
    go_enter Tryz.func77, Tryz.ntmps77
    go_wp2_with fail
    go_end0
    exact ⟨rfl, by rw [HE.out]; exact TmStep.refl H.out⟩
  · have HE := Lib.hid (show markT T eb = { T with L := (joinM T.W T.L T.lr T.lc eb).1 } from if_pos hj)
    rw [hj] at c16
    clear hj
    have hlt := H.out.lt
    have HCC : Hid (∀ W T', TmAt W lo t g rb bs T' B → T'.lr = T.lr → T'.lc = T.lc → W.cell? ⟨t, 1, none⟩ = some (.pointer (some ⟨g, 0, none⟩)) ∧ W.cell? ⟨t, 14, none⟩ = some (.int .i64 T.lr) ∧ W.cell? ⟨t, 15, none⟩ = some (.int .i64 T.lc)) := Lib.hid (fun W T' hW e1 e2 => ⟨hW.cell 1 (by omega), e1 ▸ hW.cell 14 (by omega), e2 ▸ hW.cell 15 (by omega)⟩)
    have HPUT : Hid (∀ W, Below w.heap.size w W → Calls Tryz.prog 113 #[.pointer (some ⟨g, 0, none⟩), .int .i64 T.lr, .int .i64 T.lc, .string ⟨eb.toArray⟩] W fun e w' => e = .returned (.tuple #[.bool (joinM T.W T.L T.lr T.lc eb).2.1, .int .i64 (joinM T.W T.L T.lr T.lc eb).2.2]) ∧ TmAt w' lo t g rb bs { T with L := (joinM T.W T.L T.lr T.lc eb).1 } B ∧ Chg (TmOwn t g rb bs) w w') := Lib.hid (fun W hW => by
      have ht := H.out.below hW
      refine (join_any ht.grid T.lr T.lc eb (by omega)).mono ?_
      rintro e w' ⟨rfl, hg, hc⟩
      obtain ⟨xs, h1, h2, h3⟩ := ht.blk
      exact ⟨rfl, ⟨⟨xs, h1, h2, h3.chg hc (fun hk => ht.ne_g hk rfl)⟩, hg, H.out.lot, by show T.row < _; rw [tjoinM_length]; exact H.out.row, H.out.col, H.out.b32⟩, (Chg.of_below hW).trans hc (fun k hk => .inl (.inr hk))⟩)
    have HBY3 : Hid (∀ W, Below w.heap.size w W → Calls Tryz.prog 111 #[.int .i32 r] W fun e w' => ∃ A, e = .returned (.slice A eb.length eb.length) ∧ Sem.run Tryz.prog (Go.convert 32 9 (.slice A eb.length eb.length)) w' = .ok (.string ⟨eb.toArray⟩) w' ∧ Sem.run Tryz.prog (Go.convert 32 9 (.slice A eb.length eb.length)) w'.drew = .ok (.string ⟨eb.toArray⟩) w'.drew ∧ Below w.heap.size w w') := Lib.hid (fun W hW => (HBY2.out W).mono fun e w' ⟨A, he, hb, hs⟩ => ⟨A, he, run_str_sl w' w'.heap.size A eb.length eb.length eb hs rfl, run_str_sl w'.drew w'.heap.size A eb.length eb.length eb hs.drew rfl, hW.trans (hb.mono hW.size)⟩)
    have HKC : Hid (∀ W, Below w.heap.size w W → W.cell? ⟨t, 1, none⟩ = some (.pointer (some ⟨g, 0, none⟩)) ∧ W.cell? ⟨t, 14, none⟩ = some (.int .i64 T.lr) ∧ W.cell? ⟨t, 15, none⟩ = some (.int .i64 T.lc)) := Lib.hid (fun W hW => HCC.out W T (H.out.below hW) rfl rfl)
    have HKP : Hid (∀ W, TmAt W lo t g rb bs { T with L := (joinM T.W T.L T.lr T.lc eb).1 } B → W.cell? ⟨t, 1, none⟩ = some (.pointer (some ⟨g, 0, none⟩)) ∧ W.cell? ⟨t, 14, none⟩ = some (.int .i64 T.lr) ∧ W.cell? ⟨t, 15, none⟩ = some (.int .i64 T.lc)) := Lib.hid (fun W hW => HCC.out W _ hW rfl rfl)
    have HDR : Hid (Below w.heap.size w w.drew) := Lib.hid (Below.refl _ _).drew
    obtain ⟨k1, k14, k15⟩ := HKC.out w (Below.refl _ _)
    go_enter Tryz.func77, Tryz.ntmps77
    go_wp2_with fail
    go_region_held (fun w' => w'.cell? ⟨t, 1, none⟩ = some (.pointer (some ⟨g, 0, none⟩)) ∧ w'.cell? ⟨t, 14, none⟩ = some (.int .i64 T.lr) ∧ w'.cell? ⟨t, 15, none⟩ = some (.int .i64 T.lc))
      (first | exact HKP.out _ hp5 | exact HKC.out _ hbx | exact HKC.out _ HDR.out | exact HKC.out _ (Below.refl _ _))
      (first
        | (go_at_call 111; refine (HBY3.out _ HDR.out).mono ?_; rintro e wx ⟨A4, rfl, hcv4, hcv4d, hbx⟩)
        | (go_at_call 113; refine (HPUT.out _ (by first | exact hbx | exact hbx.drew)).mono ?_; rintro e w5 ⟨rfl, hp5, hc5⟩))
    all_goals
      go_wp2_with fail
      go_end0
      rw [HE.out]
      exact ⟨rfl, bs, hp5, fun _ h => .inl h, hc5⟩

set_option maxRecDepth 100000 in
set_option maxHeartbeats 8000000 in
theorem control_term (h : TmAt w lo t g rb bs T B) (hbase : Base w lo) (c : UInt8) :
    Calls Tryz.prog 51 #[.pointer (some ⟨t, 0, none⟩), .int .u8 c.toNat] w fun e w' => e = .returned (.int .i64 1) ∧ TmStep w lo t g rb bs (ctlT T c) B w' := by
  have hw5 := h.grid.w5
  have hh5 := h.grid.h5
  have hrow := h.row
  have hcol := h.col
  have hcb := c.toNat_lt
  have hr5 : (T.row : Int) ≤ 500 := by omega
  have hc5 : (T.col : Int) ≤ 500 := by omega
  obtain ⟨xs, hx1, hx2, hx3⟩ := h.blk
  have HX1 := Lib.hid hx1
  have HX2 := Lib.hid hx2
  have HX3 := Lib.hid hx3
  have H := Lib.hid h
  have HBS := Lib.hid hbase
  have HN : ∀ n : Nat, n < 256 → ((c.toNat : Int) = n ↔ c = UInt8.ofNat n) := by
    intro n hn
    constructor
    · intro e
      apply UInt8.toNat_inj.1
      rw [UInt8.toNat_ofNat']
      omega
    · rintro rfl
      rw [UInt8.toNat_ofNat']
      omega
  have n7 := HN 7 (by omega)
  have n8 := HN 8 (by omega)
  have n9 := HN 9 (by omega)
  have n10 := HN 10 (by omega)
  have n13 := HN 13 (by omega)
  obtain ⟨T1, hT1⟩ : ∃ T1 : TS, T1 = { T with joins := false } := ⟨_, rfl⟩
  have hcases : (c.toNat : Int) = 7 ∧ ctlT T c = { T1 with bells := IntKind.i64.wrap (T1.bells + 1) } ∨ (c.toNat : Int) = 8 ∧ ctlT T c = moveT T1 T1.row ((T1.col : Int) - 1) ∨ (c.toNat : Int) = 9 ∧ ctlT T c = moveT T1 T1.row (((T1.col : Int) / 8 + 1) * 8) ∨ (c.toNat : Int) = 10 ∧ ctlT T c = feedT T1 ∨ (c.toNat : Int) = 13 ∧ ctlT T c = moveT T1 T1.row 0 ∨ ((c.toNat : Int) ≠ 7 ∧ (c.toNat : Int) ≠ 8 ∧ (c.toNat : Int) ≠ 9 ∧ (c.toNat : Int) ≠ 10 ∧ (c.toNat : Int) ≠ 13) ∧ ctlT T c = T1 := by
    by_cases a7 : c = UInt8.ofNat 7
    · exact .inl ⟨n7.2 a7, by rw [hT1, a7]; rfl⟩
    · by_cases a8 : c = UInt8.ofNat 8
      · exact .inr (.inl ⟨n8.2 a8, by rw [hT1, a8]; rfl⟩)
      · by_cases a9 : c = UInt8.ofNat 9
        · exact .inr (.inr (.inl ⟨n9.2 a9, by rw [hT1, a9]; exact congrArg (moveT _ _) (by show (((T.col / 8 + 1) * 8 : Nat) : Int) = ((T.col : Int) / 8 + 1) * 8; omega)⟩))
        · by_cases a10 : c = UInt8.ofNat 10
          · exact .inr (.inr (.inr (.inl ⟨n10.2 a10, by rw [hT1, a10]; rfl⟩)))
          · by_cases a13 : c = UInt8.ofNat 13
            · exact .inr (.inr (.inr (.inr (.inl ⟨n13.2 a13, by rw [hT1, a13]; rfl⟩))))
            · refine .inr (.inr (.inr (.inr (.inr ⟨⟨fun e => a7 (n7.1 e), fun e => a8 (n8.1 e), fun e => a9 (n9.1 e), fun e => a10 (n10.1 e), fun e => a13 (n13.1 e)⟩, ?_⟩))))
              rw [hT1]
              unfold ctlT
              dsimp only
              rw [if_neg (show ¬ c = 7 from a7), if_neg (show ¬ c = 8 from a8), if_neg (show ¬ c = 9 from a9), if_neg (show ¬ c = 10 from a10), if_neg (show ¬ c = 13 from a13)]
  have e1 : T1.row = T.row := by rw [hT1]
  have e2 : T1.col = T.col := by rw [hT1]
  have e3 : T1.W = T.W := by rw [hT1]
  have e4 : T1.L = T.L := by rw [hT1]
  have hr51 : (T1.row : Int) ≤ 500 := by omega
  have hc51 : (T1.col : Int) ≤ 500 := by omega
  have HTM : Hid (∀ w1, w.grownBy w1 (some t) → Blk w1 t 63 ((tmc t g T xs B.length).set 16 (.bool false)) → TmAt w1 lo t g rb bs T1 B) := Lib.hid (fun w1 hg hb => by
    rw [hT1]
    exact H.out.put (T' := { T with joins := false }) (chg_one hg) HX1.out HX2.out H.out.b32 hb rfl rfl hrow hcol)
  have HROW1 : Hid (T1.row < T1.L.length) := Lib.hid (by rw [e1, e4]; exact hrow)
  have HCOL1 : Hid (T1.col < T1.W) := Lib.hid (by rw [e2, e3]; exact hcol)
  obtain ⟨R, hR⟩ : ∃ R, R = ctlT T c := ⟨_, rfl⟩
  rw [← hR] at hcases ⊢
  have HCS := Lib.hid hcases
  clear hT1 e1 e2 e3 e4 hR hcases n7 n8 n9 n10 n13 HN hr5 hc5
  rcases HCS.out with ⟨hc, hr⟩ | ⟨hc, hr⟩ | ⟨hc, hr⟩ | ⟨hc, hr⟩ | ⟨hc, hr⟩ | ⟨hc, hr⟩
  · have HR := Lib.hid hr
    clear hr HCS
    go_enter Tryz.func51, Tryz.ntmps51
    go_wp2_with ((with_reducible refine at_store 10 ?_); refine wpList_store_cell rfl _ _ _ rfl rfl t 16 _ (tmc t g T xs B.length) (.bool false) rfl rfl HX3.out (by simp [tmc, stc]) (by kernel_rfl) rfl ?_; intro w1 hn1 hg1; have H1 := Lib.hid (HTM.out w1 hg1 hn1); have HG1 := Lib.hid hg1; clear hn1 hg1)
    refine (cursor_yes H1.out).mono ?_
    rintro e w2 ⟨rfl, hb2⟩
    have H2 := Lib.hid (H1.out.below hb2)
    have HBS2 := Lib.hid ((HBS.out.chg (chg_one HG1.out) (fun k hk => by have e' : k = t := hk; rw [e']; exact H.out.lot)).below hb2)
    have HB2 := Lib.hid hb2
    have HPRE : Hid (∀ {T' : TS} {w' : World}, TmStep w2 lo t g rb bs T' B w' → TmStep w lo t g rb bs T' B w') := Lib.hid (fun hst => TmStep.trans (fun _ h => .inl h) (own_t (chg_one HG1.out)) (TmStep.bel_then HB2.out hst))
    clear hb2

    obtain ⟨ys, hy1, hy2, hy3⟩ := H2.out.blk
    have HY1 := Lib.hid hy1
    have HY2 := Lib.hid hy2
    have HY3 := Lib.hid hy3
    have c13 : w2.cell? ⟨t, 13, none⟩ = some (.int .i64 T1.bells) := H2.out.cell 13 (by omega)
    clear hy1 hy2 hy3
    go_wp2_with ((with_reducible refine at_store 27 ?_); refine wpList_store_cell rfl _ _ _ rfl rfl t 13 _ (tmc t g T1 ys B.length) (.int .i64 (wrap64 (T1.bells + 1))) rfl rfl HY3.out (by simp [tmc, stc]) (by kernel_rfl) rfl ?_; intro w3 hn3 hg3; have HN3 : Hid (Blk w3 t 63 (tmc t g { T1 with bells := wrap64 (T1.bells + 1) } ys B.length)) := Lib.hid hn3; have HG3 := Lib.hid hg3; clear hn3 hg3)
    go_ret
    refine ⟨rfl, ?_⟩
    rw [HR.out, show IntKind.i64.wrap (T1.bells + 1) = wrap64 (T1.bells + 1) from by rw [IntKind.wrap_i64]; unfold wrap64; omega]
    exact HPRE.out (H2.out.wrote (chg_one HG3.out) HY1.out HY2.out H.out.b32 HN3.out rfl rfl HROW1.out HCOL1.out)
  · have HR := Lib.hid hr
    clear hr HCS
    go_enter Tryz.func51, Tryz.ntmps51
    go_wp2_with ((with_reducible refine at_store 10 ?_); refine wpList_store_cell rfl _ _ _ rfl rfl t 16 _ (tmc t g T xs B.length) (.bool false) rfl rfl HX3.out (by simp [tmc, stc]) (by kernel_rfl) rfl ?_; intro w1 hn1 hg1; have H1 := Lib.hid (HTM.out w1 hg1 hn1); have HG1 := Lib.hid hg1; clear hn1 hg1)
    refine (cursor_yes H1.out).mono ?_
    rintro e w2 ⟨rfl, hb2⟩
    have H2 := Lib.hid (H1.out.below hb2)
    have HBS2 := Lib.hid ((HBS.out.chg (chg_one HG1.out) (fun k hk => by have e' : k = t := hk; rw [e']; exact H.out.lot)).below hb2)
    have HB2 := Lib.hid hb2
    have HPRE : Hid (∀ {T' : TS} {w' : World}, TmStep w2 lo t g rb bs T' B w' → TmStep w lo t g rb bs T' B w') := Lib.hid (fun hst => TmStep.trans (fun _ h => .inl h) (own_t (chg_one HG1.out)) (TmStep.bel_then HB2.out hst))
    clear hb2

    go_wp2_with (fail)
    refine (move_any H2.out T1.row ((T1.col : Int) - 1) (by omega) (by omega) (by omega) (by omega)).mono ?_
    rintro e w3 ⟨rfl, hst⟩
    have HST := Lib.hid hst
    clear hst
    go_wp2_with fail
    go_ret
    refine ⟨rfl, ?_⟩
    rw [HR.out]
    exact HPRE.out HST.out
  · have HR := Lib.hid hr
    clear hr HCS
    go_enter Tryz.func51, Tryz.ntmps51
    go_wp2_with ((with_reducible refine at_store 10 ?_); refine wpList_store_cell rfl _ _ _ rfl rfl t 16 _ (tmc t g T xs B.length) (.bool false) rfl rfl HX3.out (by simp [tmc, stc]) (by kernel_rfl) rfl ?_; intro w1 hn1 hg1; have H1 := Lib.hid (HTM.out w1 hg1 hn1); have HG1 := Lib.hid hg1; clear hn1 hg1)
    refine (cursor_yes H1.out).mono ?_
    rintro e w2 ⟨rfl, hb2⟩
    have H2 := Lib.hid (H1.out.below hb2)
    have HBS2 := Lib.hid ((HBS.out.chg (chg_one HG1.out) (fun k hk => by have e' : k = t := hk; rw [e']; exact H.out.lot)).below hb2)
    have HB2 := Lib.hid hb2
    have HPRE : Hid (∀ {T' : TS} {w' : World}, TmStep w2 lo t g rb bs T' B w' → TmStep w lo t g rb bs T' B w') := Lib.hid (fun hst => TmStep.trans (fun _ h => .inl h) (own_t (chg_one HG1.out)) (TmStep.bel_then HB2.out hst))
    clear hb2

    go_wp2_with (fail)
    refine (move_any H2.out T1.row (((T1.col : Int) / 8 + 1) * 8) (by omega) (by omega) (by omega) (by omega)).mono ?_
    rintro e w3 ⟨rfl, hst⟩
    have HST := Lib.hid hst
    clear hst
    go_wp2_with fail
    go_ret
    refine ⟨rfl, ?_⟩
    rw [HR.out]
    exact HPRE.out HST.out
  · have HR := Lib.hid hr
    clear hr HCS
    go_enter Tryz.func51, Tryz.ntmps51
    go_wp2_with ((with_reducible refine at_store 10 ?_); refine wpList_store_cell rfl _ _ _ rfl rfl t 16 _ (tmc t g T xs B.length) (.bool false) rfl rfl HX3.out (by simp [tmc, stc]) (by kernel_rfl) rfl ?_; intro w1 hn1 hg1; have H1 := Lib.hid (HTM.out w1 hg1 hn1); have HG1 := Lib.hid hg1; clear hn1 hg1)
    refine (cursor_yes H1.out).mono ?_
    rintro e w2 ⟨rfl, hb2⟩
    have H2 := Lib.hid (H1.out.below hb2)
    have HBS2 := Lib.hid ((HBS.out.chg (chg_one HG1.out) (fun k hk => by have e' : k = t := hk; rw [e']; exact H.out.lot)).below hb2)
    have HB2 := Lib.hid hb2
    have HPRE : Hid (∀ {T' : TS} {w' : World}, TmStep w2 lo t g rb bs T' B w' → TmStep w lo t g rb bs T' B w') := Lib.hid (fun hst => TmStep.trans (fun _ h => .inl h) (own_t (chg_one HG1.out)) (TmStep.bel_then HB2.out hst))
    clear hb2

    go_wp2_with (fail)
    refine (feed_any H2.out HBS2.out).mono ?_
    rintro e w3 ⟨rfl, hst⟩
    have HST := Lib.hid hst
    clear hst
    go_wp2_with fail
    go_ret
    refine ⟨rfl, ?_⟩
    rw [HR.out]
    exact HPRE.out HST.out
  · have HR := Lib.hid hr
    clear hr HCS
    go_enter Tryz.func51, Tryz.ntmps51
    go_wp2_with ((with_reducible refine at_store 10 ?_); refine wpList_store_cell rfl _ _ _ rfl rfl t 16 _ (tmc t g T xs B.length) (.bool false) rfl rfl HX3.out (by simp [tmc, stc]) (by kernel_rfl) rfl ?_; intro w1 hn1 hg1; have H1 := Lib.hid (HTM.out w1 hg1 hn1); have HG1 := Lib.hid hg1; clear hn1 hg1)
    refine (cursor_yes H1.out).mono ?_
    rintro e w2 ⟨rfl, hb2⟩
    have H2 := Lib.hid (H1.out.below hb2)
    have HBS2 := Lib.hid ((HBS.out.chg (chg_one HG1.out) (fun k hk => by have e' : k = t := hk; rw [e']; exact H.out.lot)).below hb2)
    have HB2 := Lib.hid hb2
    have HPRE : Hid (∀ {T' : TS} {w' : World}, TmStep w2 lo t g rb bs T' B w' → TmStep w lo t g rb bs T' B w') := Lib.hid (fun hst => TmStep.trans (fun _ h => .inl h) (own_t (chg_one HG1.out)) (TmStep.bel_then HB2.out hst))
    clear hb2

    go_wp2_with (fail)
    refine (move_any H2.out T1.row 0 (by omega) (by omega) (by omega) (by omega)).mono ?_
    rintro e w3 ⟨rfl, hst⟩
    have HST := Lib.hid hst
    clear hst
    go_wp2_with fail
    go_ret
    refine ⟨rfl, ?_⟩
    rw [HR.out]
    exact HPRE.out HST.out
  · have HR := Lib.hid hr
    clear hr HCS
    go_enter Tryz.func51, Tryz.ntmps51
    go_wp2_with ((with_reducible refine at_store 10 ?_); refine wpList_store_cell rfl _ _ _ rfl rfl t 16 _ (tmc t g T xs B.length) (.bool false) rfl rfl HX3.out (by simp [tmc, stc]) (by kernel_rfl) rfl ?_; intro w1 hn1 hg1; have H1 := Lib.hid (HTM.out w1 hg1 hn1); have HG1 := Lib.hid hg1; clear hn1 hg1)
    refine (cursor_yes H1.out).mono ?_
    rintro e w2 ⟨rfl, hb2⟩
    have H2 := Lib.hid (H1.out.below hb2)
    have HBS2 := Lib.hid ((HBS.out.chg (chg_one HG1.out) (fun k hk => by have e' : k = t := hk; rw [e']; exact H.out.lot)).below hb2)
    have HB2 := Lib.hid hb2
    have HPRE : Hid (∀ {T' : TS} {w' : World}, TmStep w2 lo t g rb bs T' B w' → TmStep w lo t g rb bs T' B w') := Lib.hid (fun hst => TmStep.trans (fun _ h => .inl h) (own_t (chg_one HG1.out)) (TmStep.bel_then HB2.out hst))
    clear hb2

    obtain ⟨m7, m8, m9, m10, m13⟩ := hc
    have q7 : ((c.toNat : Int) == 7) = false := by simpa using m7
    have q8 : ((c.toNat : Int) == 8) = false := by simpa using m8
    have q9 : ((c.toNat : Int) == 9) = false := by simpa using m9
    have q10 : ((c.toNat : Int) == 10) = false := by simpa using m10
    have q13 : ((c.toNat : Int) == 13) = false := by simpa using m13
    clear m7 m8 m9 m10 m13
    go_wp2_with fail
    go_ret
    refine ⟨rfl, ?_⟩
    rw [HR.out]
    exact HPRE.out (TmStep.refl H2.out)
end
end Go.Proofs.YtfmkeeaenjeneaaGreatDoor

