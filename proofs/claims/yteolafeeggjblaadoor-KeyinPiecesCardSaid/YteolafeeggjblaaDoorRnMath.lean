/-
  The plain mathematics of layer 1: what decoding one rune comes to, on lists of bytes. No program is named here.
-/
import Derived.WalkKit
namespace Go.Proofs.YteolafeeggjblaaDoor

/-- how many bytes an encoding has that begins with c (0: none), and the bounds of its second byte -/
def hsz (c : Int) : Int := if c < 128 then 1 else if c < 194 then 0 else if c < 224 then 2 else if c < 240 then 3 else if c < 245 then 4 else 0
def hlo (c : Int) : Int := if c < 194 then 0 else if c = 224 then 160 else if c = 240 then 144 else if c < 245 then 128 else 0
def hhi (c : Int) : Int := if c < 194 then 0 else if c = 237 then 159 else if c = 244 then 143 else if c < 245 then 191 else 0

/-- what the bytes behind the first come to: k more are wanted, r is what was told so far -/
def nxt (k : Nat) (s r lo hi : Int) (l : List UInt8) : Int × Int × Bool :=
  match k with
  | 0 => (r, s, false)
  | k + 1 => match l with
    | [] => (0, 0, true)
    | c :: t => if (c.toNat : Int) < lo ∨ hi < (c.toNat : Int) then (65533, 1, false) else nxt k s (r * 64 + (c.toNat : Int) % 64) 128 191 t
/-- the bits of the first byte -/
def fst (c : Int) : Int := if hsz c = 2 then c % 32 else if hsz c = 3 then c % 16 else c % 8
def nx (l : List UInt8) : Int × Int × Bool :=
  match l with
  | [] => (0, 0, true)
  | c :: t => if hsz c.toNat = 0 then (65533, 1, false) else if hsz c.toNat = 1 then (c.toNat, 1, false) else
      nxt (hsz c.toNat - 1).toNat (hsz c.toNat) (fst c.toNat) (hlo c.toNat) (hhi c.toNat) t
theorem u8lt (c : UInt8) : (c.toNat : Int) < 256 := by have := c.toNat_lt; omega
end Go.Proofs.YteolafeeggjblaaDoor
