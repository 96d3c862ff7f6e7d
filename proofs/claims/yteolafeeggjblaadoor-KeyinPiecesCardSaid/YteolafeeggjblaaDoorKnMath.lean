/-
  Keys as plain mathematics: what bytes from a keyboard are. Imports the runes' lists.
-/
import Derived.Test.YteolafeeggjblaaDoorRnAllM
import Derived.Test.YteolafeeggjblaaDoorRnBytesM
import Derived.Test.YteolafeeggjblaaDoorRnCutM
namespace Go.Proofs.YteolafeeggjblaaDoor
open Go.RowKit
set_option linter.unusedVariables false

/-- a key: code, text, number, and whether Alt, Shift, Ctl are held -/
structure Kv where
  c : Int
  s : List UInt8
  n : Int
  a : Bool
  h : Bool
  t : Bool
  deriving DecidableEq
def Kv.no : Kv := ⟨0, [], 0, false, false, false⟩
def kc (c : Int) : Kv := { Kv.no with c := c }
def kfn (n : Int) : Kv := { Kv.no with c := 18, n := n }
def letK (b : UInt8) : Kv :=
  if b = 65 then kc 8 else if b = 66 then kc 9 else if b = 67 then kc 11 else if b = 68 then kc 10 else if b = 72 then kc 12 else if b = 70 then kc 13
  else if b = 80 then kfn 1 else if b = 81 then kfn 2 else if b = 82 then kfn 3 else if b = 83 then kfn 4 else Kv.no
def numK (n : Int) : Kv :=
  if n = 1 ∨ n = 7 then kc 12 else if n = 4 ∨ n = 8 then kc 13 else if n = 3 then kc 7 else if n = 5 then kc 14 else if n = 6 then kc 15
  else if 11 ≤ n ∧ n ≤ 15 then kfn (n - 10) else if 17 ≤ n ∧ n ≤ 21 then kfn (n - 11) else if n = 23 ∨ n = 24 then kfn (n - 12) else Kv.no
def modK (k : Kv) (n : Int) : Kv := if n < 1 ∨ 8 < n then Kv.no else { k with h := decide ((n - 1) % 2 = 1), a := decide ((n - 1) / 2 % 2 = 1), t := decide ((n - 1) / 4 = 1) }
def isDg (c : UInt8) : Bool := 48 ≤ c && c ≤ 57
def valD (n : Int) : List UInt8 → Int
  | [] => n
  | c :: t => valD (n * 10 + ((c.toNat : Int) - 48)) t
/-- one number of a sequence -/
def numD (d : List UInt8) : Option Int := if d = [] then some 1 else if 4 < d.length then none else if d.all isDg then some (valD 0 d) else none
/-- what semicolons separate; p: what is being read -/
def semi (p : List UInt8) : List UInt8 → List (List UInt8)
  | [] => [p]
  | c :: t => if c = 59 then p :: semi [] t else semi (p ++ [c]) t
def numsA (acc : List Int) : List (List UInt8) → List Int
  | [] => acc
  | d :: ds => match numD d with
    | none => []
    | some n => if acc.length = 2 then [] else numsA (acc ++ [n]) ds
def numsK (p : List UInt8) : List Int := numsA [] (semi [] p)
/-- the key of a complete sequence, ahead of its modifiers -/
def baseK (p : List UInt8) (l : List Int) (f : UInt8) : Kv :=
  if f = 80 ∨ f = 81 ∨ f = 82 ∨ f = 83 then (if l.length = 2 ∧ l.getD 0 0 = 1 then letK f else Kv.no)
  else if f = 65 ∨ f = 66 ∨ f = 67 ∨ f = 68 ∨ f = 72 ∨ f = 70 then (if l.getD 0 0 = 1 then letK f else Kv.no)
  else if f = 90 then (if p = [] then kc 4 else Kv.no)
  else if f = 126 then numK (l.getD 0 0)
  else Kv.no
def seqK (p : List UInt8) (f : UInt8) : Kv :=
  if numsK p = [] then Kv.no
  else if (numsK p).length = 2 then modK (baseK p (numsK p) f) ((numsK p).getD 1 0) else baseK p (numsK p) f
def ctlK (b : UInt8) : Kv :=
  if b = 13 ∨ b = 10 then kc 2 else if b = 9 then kc 3 else if b = 8 ∨ b = 127 then kc 6
  else { Kv.no with c := 17, s := [if 1 ≤ b ∧ b ≤ 26 then b + 96 else b + 64] }
/-- what begins with no ESC -/
def plainK (s : List UInt8) : Kv × Nat :=
  match s with
  | [] => (Kv.no, 0)
  | c :: t => if c < 32 ∨ c = 127 then (ctlK c, 1) else if (nx (c :: t)).2.2 = true then (Kv.no, 0) else ({ Kv.no with c := 1, s := enc (rfix (nx (c :: t)).1) }, (nx (c :: t)).2.1.toNat)
def spanK (p : UInt8 → Bool) (l : List UInt8) : Nat := (l.takeWhile p).length
def kPar (c : UInt8) : Bool := 48 ≤ c && c ≤ 63
def kMid (c : UInt8) : Bool := 32 ≤ c && c ≤ 47
def kFin (c : UInt8) : Bool := 64 ≤ c && c ≤ 126
/-- where, from a place on, the bytes of a class end -/
def behK (s : List UInt8) (at_ : Nat) (p : UInt8 → Bool) : Nat := at_ + spanK p (s.drop at_)
def midK (s : List UInt8) : Nat := behK s (behK s 2 kPar) kMid
def brK (s : List UInt8) : Kv × Nat :=
  match s[midK s]? with
  | none => if s.length < 32 then (Kv.no, 0) else (Kv.no, midK s)
  | some c => if kFin c then (seqK ((s.take (midK s)).drop 2) c, midK s + 1) else (Kv.no, midK s)
def leK (s : List UInt8) : Kv × Nat :=
  match s[2]? with
  | none => (Kv.no, 0)
  | some c => if kFin c then (letK c, 3) else (Kv.no, 2)
/-- what stands first: how many bytes that are (0: they wait), and the key -/
def firstK (s : List UInt8) : Kv × Nat :=
  match s with
  | [] => (Kv.no, 0)
  | c :: t => if c ≠ 27 then plainK s else match t with
    | [] => (Kv.no, 0)
    | d :: _ => if d = 27 then (kc 5, 1) else if d = 91 then brK s else if d = 79 then leK s else
        if (plainK t).2 = 0 then (Kv.no, 0) else ({ (plainK t).1 with a := true }, 1 + (plainK t).2)

/-- a decoder: its undecoded bytes; while something is pasted: the bytes that are kept, and how many bytes of the end the last ones are -/
structure KD where
  B : List UInt8
  P : Option (List UInt8 × Nat)
  deriving DecidableEq
def begP : List UInt8 := [27, 91, 50, 48, 48, 126]
def endP : List UInt8 := [27, 91, 50, 48, 49, 126]
/-- all that the undecoded bytes begin with is taken, as long as possible -/
def runK : Nat → KD → List Kv → KD × List Kv
  | 0, d, ks => (d, ks)
  | f + 1, d, ks =>
    if (firstK d.B).2 = 0 then (d, ks)
    else runK f ⟨d.B.drop (firstK d.B).2, if d.B.take (firstK d.B).2 = begP then some ([], 0) else d.P⟩ (if (firstK d.B).1.c = 0 then ks else ks ++ [(firstK d.B).1])
/-- how many bytes of the end of a paste the last bytes are behind one more -/
def matP (m : Nat) (b : UInt8) : Nat := if b = endP.getD m 0 then m + 1 else if b = 27 then 1 else 0
def textP (p : List UInt8) : List UInt8 := (decR (p.take (p.length - 5))).flatMap fun r => enc (rfix r)
def takeK (d : KD) (b : UInt8) : KD × List Kv :=
  match d.P with
  | some (p, m) =>
    if matP m b = 6 then (⟨d.B, none⟩, [{ Kv.no with c := 16, s := textP p }])
    else (⟨d.B, some (if p.length < 65541 then p ++ [b] else p, matP m b)⟩, [])
  | none => runK (d.B.length + 1) ⟨d.B ++ [b], none⟩ []
def feedK (d : KD) : List UInt8 → KD × List Kv
  | [] => (d, [])
  | b :: t => ((feedK (takeK d b).1 t).1, (takeK d b).2 ++ (feedK (takeK d b).1 t).2)
theorem feedK_append (d : KD) : ∀ (a b : List UInt8), feedK d (a ++ b) = ((feedK (feedK d a).1 b).1, (feedK d a).2 ++ (feedK (feedK d a).1 b).2) := by
  intro a
  induction a generalizing d with
  | nil => intro b; rfl
  | cons x a ih =>
    intro b
    rw [List.cons_append, feedK, feedK, ih]
    simp
def waitsK (d : KD) : Nat := match d.P with
  | some (p, _) => p.length
  | none => d.B.length
def tickK (d : KD) : KD × List Kv :=
  if d.P.isSome then (d, []) else (⟨[], none⟩,
    if d.B = [27] then [kc 5] else if d.B = [27, 91] then [{ Kv.no with c := 1, s := [91], a := true }] else if d.B = [27, 79] then [{ Kv.no with c := 1, s := [79], a := true }] else [])
end Go.Proofs.YteolafeeggjblaaDoor
