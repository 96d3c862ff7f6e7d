/-
  The answers of the program and of the document in one form.
-/
import Derived.Test.YtdodogehlnchlaaLyRef6
namespace Go.Proofs.Ytdodogehlnchlaa
open Go.RowKit Go.Shelf Go.Sort
set_option linter.unusedVariables false
set_option linter.unusedSimpArgs false

/-- how many rows an answer has -/
def nR (room gap : Int) (n : Nat) (P : Nat → Pt) : Nat := if chkV room gap n P = 0 then n else 0
theorem nR_le {room gap : Int} {n : Nat} {P : Nat → Pt} (hn : n ≤ 65) : nR room gap n P ≤ 65 := by unfold nR; split <;> omega
def lR (gap : Int) (n : Nat) (P : Nat → Pt) : Int := if chkV 0 gap n P = 0 then leastV gap n P else 0
theorem pleastU (gap : Int) (A : Option Addr) (n c : Nat) (P : Nat → Pt) (w : World) (hn : n ≤ 65) (hS : Sl w w.heap.size A (ptB P n)) :
    Calls Try.prog 10 #[.int .i64 gap, .slice A n c] w fun e w' => e = .returned (.tuple #[.int .i64 (lR gap n P), .int .i64 (chkV 0 gap n P)]) ∧ Below w.heap.size w w' :=
  (pleast_any gap A n c P w hn hS).mono fun e w' ⟨h, hb⟩ => by
    refine ⟨?_, hb⟩
    rcases h with ⟨h0, he⟩ | ⟨h0, he⟩
    · rw [he]; unfold lR; rw [if_neg h0]
    · rw [he]; unfold lR; rw [if_pos h0, h0]
theorem rleastU (gap : Int) (A : Option Addr) (n c : Nat) (P : Nat → Pt) (w : World) (hn : n ≤ 65) (hS : Sl w w.heap.size A (ptB P n)) :
    Calls Try.prog 11 #[.int .i64 gap, .slice A n c] w fun e w' => e = .returned (.tuple #[.int .i64 (lR gap n P), .int .i64 (chkV 0 gap n P)]) ∧ Below w.heap.size w w' :=
  (rleast_any gap A n c P w hn hS).mono fun e w' ⟨h, hb⟩ => by
    refine ⟨?_, hb⟩
    rcases h with ⟨h0, he⟩ | ⟨h0, he⟩
    · rw [he]; unfold lR; rw [if_neg h0]
    · rw [he]; unfold lR; rw [if_pos h0, h0]
theorem pstayU (room gap : Int) (A : Option Addr) (n c : Nat) (P : Nat → Pt) (w : World) (hn : n ≤ 65) (hS : Sl w w.heap.size A (ptB P n)) :
    Calls Try.prog 12 #[.int .i64 room, .int .i64 gap, .slice A n c] w fun e w' => (∃ S q, e = .returned (.tuple #[.slice S (nR room gap n P) q, .int .i64 (chkV room gap n P)]) ∧ Sl w' w'.heap.size S (rw1 (fun i => .bool (kpR gap room P n i)) (nR room gap n P))) ∧ Below w.heap.size w w' :=
  (stay_any room gap A n c P w hn hS).mono fun e w' ⟨h, hb⟩ => by
    rcases h with ⟨h0, he⟩ | ⟨h0, S, hs, he, hbl⟩
    · refine ⟨⟨none, 0, ?_, ?_⟩, hb⟩
      · rw [he]; unfold nR; rw [if_neg h0]
      · unfold nR; rw [if_neg h0]; exact .inl rfl
    · refine ⟨⟨some ⟨S, 0, none⟩, n, ?_, ?_⟩, hb⟩
      · unfold nR; rw [if_pos h0, h0]; exact he
      · unfold nR; rw [if_pos h0]; first | exact hbl.sl | (rw [row_kp] at hbl; exact hbl.sl) | (rw [row_sz] at hbl; exact hbl.sl)
theorem rstayU (room gap : Int) (A : Option Addr) (n c : Nat) (P : Nat → Pt) (w : World) (hn : n ≤ 65) (hS : Sl w w.heap.size A (ptB P n)) :
    Calls Try.prog 13 #[.int .i64 room, .int .i64 gap, .slice A n c] w fun e w' => (∃ S q, e = .returned (.tuple #[.slice S (nR room gap n P) q, .int .i64 (chkV room gap n P)]) ∧ Sl w' w'.heap.size S (rw1 (fun i => .bool (kpR gap room P n i)) (nR room gap n P))) ∧ Below w.heap.size w w' :=
  (rstay_any room gap A n c P w hn hS).mono fun e w' ⟨h, hb⟩ => by
    rcases h with ⟨h0, he⟩ | ⟨h0, S, q, he, hor⟩
    · refine ⟨⟨none, 0, ?_, ?_⟩, hb⟩
      · rw [he]; unfold nR; rw [if_neg h0]
      · unfold nR; rw [if_neg h0]; exact .inl rfl
    · refine ⟨⟨S, q, ?_, ?_⟩, hb⟩
      · unfold nR; rw [if_pos h0, h0]; exact he
      · unfold nR; rw [if_pos h0]; exact hor.sl
theorem psizesU (room gap : Int) (A : Option Addr) (n c : Nat) (P : Nat → Pt) (w : World) (hn : n ≤ 65) (hS : Sl w w.heap.size A (ptB P n)) :
    Calls Try.prog 14 #[.int .i64 room, .int .i64 gap, .slice A n c] w fun e w' => (∃ S q, e = .returned (.tuple #[.slice S (nR room gap n P) q, .int .i64 (chkV room gap n P)]) ∧ Sl w' w'.heap.size S (rw1 (fun i => .int .i64 (szR gap room P n i)) (nR room gap n P))) ∧ Below w.heap.size w w' :=
  (sizes_any room gap A n c P w hn hS).mono fun e w' ⟨h, hb⟩ => by
    rcases h with ⟨h0, he⟩ | ⟨h0, S, hs, he, hbl⟩
    · refine ⟨⟨none, 0, ?_, ?_⟩, hb⟩
      · rw [he]; unfold nR; rw [if_neg h0]
      · unfold nR; rw [if_neg h0]; exact .inl rfl
    · refine ⟨⟨some ⟨S, 0, none⟩, n, ?_, ?_⟩, hb⟩
      · unfold nR; rw [if_pos h0, h0]; exact he
      · unfold nR; rw [if_pos h0]; first | exact hbl.sl | (rw [row_kp] at hbl; exact hbl.sl) | (rw [row_sz] at hbl; exact hbl.sl)
theorem rsizesU (room gap : Int) (A : Option Addr) (n c : Nat) (P : Nat → Pt) (w : World) (hn : n ≤ 65) (hS : Sl w w.heap.size A (ptB P n)) :
    Calls Try.prog 15 #[.int .i64 room, .int .i64 gap, .slice A n c] w fun e w' => (∃ S q, e = .returned (.tuple #[.slice S (nR room gap n P) q, .int .i64 (chkV room gap n P)]) ∧ Sl w' w'.heap.size S (rw1 (fun i => .int .i64 (szR gap room P n i)) (nR room gap n P))) ∧ Below w.heap.size w w' :=
  (rsizes_any room gap A n c P w hn hS).mono fun e w' ⟨h, hb⟩ => by
    rcases h with ⟨h0, he⟩ | ⟨h0, S, q, he, hor⟩
    · refine ⟨⟨none, 0, ?_, ?_⟩, hb⟩
      · rw [he]; unfold nR; rw [if_neg h0]
      · unfold nR; rw [if_neg h0]; exact .inl rfl
    · refine ⟨⟨S, q, ?_, ?_⟩, hb⟩
      · unfold nR; rw [if_pos h0, h0]; exact he
      · unfold nR; rw [if_pos h0]; exact hor.sl

/-- how many places an answer has, and its error -/
def mR (room gap al : Int) (n : Nat) (P : Nat → Pt) : Nat := if chkV room gap n P = 0 ∧ (0 ≤ al ∧ al ≤ 2) then n else 0
def eR (room gap al : Int) (n : Nat) (P : Nat → Pt) : Int := if chkV room gap n P = 0 then (if 0 ≤ al ∧ al ≤ 2 then 0 else 5) else chkV room gap n P
theorem mR_le {room gap al : Int} {n : Nat} {P : Nat → Pt} (hn : n ≤ 65) : mR room gap al n P ≤ 65 := by unfold mR; split <;> omega
theorem pplacesU (room gap al : Int) (A : Option Addr) (n c : Nat) (P : Nat → Pt) (w : World) (hn : n ≤ 65) (hS : Sl w w.heap.size A (ptB P n)) :
    Calls Try.prog 21 #[.int .i64 room, .int .i64 gap, .int .i64 al, .slice A n c] w fun e w' => (∃ S q, e = .returned (.tuple #[.slice S (mR room gap al n P) q, .int .i64 (eR room gap al n P)]) ∧ Sl w' w'.heap.size S (rw1 (fun i => .int .i64 (plR gap room al P n i)) (mR room gap al n P))) ∧ Below w.heap.size w w' :=
  (places_any room gap al A n c P w hn hS).mono fun e w' ⟨h, hb⟩ => by
    rcases h with ⟨h0, he⟩ | ⟨h0, h1, he⟩ | ⟨h0, h1, S, hs, he, hbl⟩
    · refine ⟨⟨none, 0, ?_, ?_⟩, hb⟩
      · rw [he]; unfold mR eR; rw [if_neg (fun h => h0 h.1), if_neg h0]
      · unfold mR; rw [if_neg (fun h => h0 h.1)]; exact .inl rfl
    · refine ⟨⟨none, 0, ?_, ?_⟩, hb⟩
      · rw [he]; unfold mR eR; rw [if_neg (fun h => h1 h.2), if_pos h0, if_neg h1]
      · unfold mR; rw [if_neg (fun h => h1 h.2)]; exact .inl rfl
    · refine ⟨⟨some ⟨S, 0, none⟩, n, ?_, ?_⟩, hb⟩
      · unfold mR eR; rw [if_pos ⟨h0, h1⟩, if_pos h0, if_pos h1]; exact he
      · unfold mR; rw [if_pos ⟨h0, h1⟩]; rw [row_a (chkV_ok h0).1.1 (chkV_ok h0).2.2] at hbl; exact hbl.sl
theorem rplacesU (room gap al : Int) (A : Option Addr) (n c : Nat) (P : Nat → Pt) (w : World) (hn : n ≤ 65) (hS : Sl w w.heap.size A (ptB P n)) :
    Calls Try.prog 22 #[.int .i64 room, .int .i64 gap, .int .i64 al, .slice A n c] w fun e w' => (∃ S q, e = .returned (.tuple #[.slice S (mR room gap al n P) q, .int .i64 (eR room gap al n P)]) ∧ Sl w' w'.heap.size S (rw1 (fun i => .int .i64 (plR gap room al P n i)) (mR room gap al n P))) ∧ Below w.heap.size w w' :=
  (rplaces_any room gap al A n c P w hn hS).mono fun e w' ⟨h, hb⟩ => by
    rcases h with ⟨h0, he⟩ | ⟨h0, h1, he⟩ | ⟨h0, h1, S, q, he, hor⟩
    · refine ⟨⟨none, 0, ?_, ?_⟩, hb⟩
      · rw [he]; unfold mR eR; rw [if_neg (fun h => h0 h.1), if_neg h0]
      · unfold mR; rw [if_neg (fun h => h0 h.1)]; exact .inl rfl
    · refine ⟨⟨none, 0, ?_, ?_⟩, hb⟩
      · rw [he]; unfold mR eR; rw [if_neg (fun h => h1 h.2), if_pos h0, if_neg h1]
      · unfold mR; rw [if_neg (fun h => h1 h.2)]; exact .inl rfl
    · refine ⟨⟨S, q, ?_, ?_⟩, hb⟩
      · unfold mR eR; rw [if_pos ⟨h0, h1⟩, if_pos h0, if_pos h1]; exact he
      · unfold mR; rw [if_pos ⟨h0, h1⟩]; exact hor.sl
end Go.Proofs.Ytdodogehlnchlaa
