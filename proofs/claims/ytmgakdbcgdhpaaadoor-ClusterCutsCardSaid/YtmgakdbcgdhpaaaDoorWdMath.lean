/-
  Plain mathematics of widths: the ranges, and what a rune is. No program is named here.
-/
namespace Go.Proofs.YtmgakdbcgdhpaaaDoor
set_option linter.unusedVariables false

/-- the ranges of marks -/
def mkT : List (Int × Int) := [(768, 879), (1155, 1161), (1425, 1469), (1471, 1471), (1473, 1474), (1476, 1477), (1479, 1479), (1552, 1562), (1611, 1631), (1648, 1648), (1750, 1756), (1759, 1764), (1767, 1768), (1770, 1773), (3633, 3633), (3636, 3642), (3655, 3662), (6832, 6911), (7616, 7679), (8203, 8207), (8288, 8292), (8400, 8432), (12330, 12333), (12441, 12442), (65024, 65039), (65056, 65071), (65279, 65279), (917760, 917999)]
/-- the ranges of wide runes -/
def wdT : List (Int × Int) := [(4352, 4447), (8986, 8987), (9001, 9002), (9193, 9196), (9200, 9200), (9203, 9203), (9725, 9726), (9748, 9749), (9800, 9811), (9855, 9855), (9875, 9875), (9889, 9889), (9898, 9899), (9917, 9918), (9924, 9925), (9934, 9934), (9940, 9940), (9962, 9962), (9970, 9971), (9973, 9973), (9978, 9978), (9981, 9981), (9989, 9989), (9994, 9995), (10024, 10024), (10060, 10060), (10062, 10062), (10067, 10069), (10071, 10071), (10133, 10135), (10160, 10160), (10175, 10175), (11035, 11036), (11088, 11088), (11093, 11093), (11904, 12350), (12353, 19903), (19968, 42191), (43360, 43391), (44032, 55203), (63744, 64255), (65040, 65049), (65072, 65135), (65281, 65376), (65504, 65510), (127744, 128591), (128640, 128767), (129280, 129535), (129648, 129791), (131072, 196605), (196608, 262141)]

/-- does it lie in one of the ranges? -/
def inT (l : List (Int × Int)) (r : Int) : Bool := l.any fun x => decide (x.1 ≤ r) && decide (r ≤ x.2)
/-- the first range that does not end ahead of it decides -/
def wit : List (Int × Int) → Int → Bool
  | [], _ => false
  | x :: l, r => if r ≤ x.2 then decide (x.1 ≤ r) else wit l r
/-- ranges that increase -/
def srt : List (Int × Int) → Bool
  | [] => true
  | x :: l => decide (x.1 ≤ x.2) && l.all (fun y => decide (x.2 < y.1)) && srt l

theorem inT_before (l : List (Int × Int)) (r a : Int) (h : r ≤ a) (hl : l.all (fun y => decide (a < y.1)) = true) : inT l r = false := by
  unfold inT
  rw [List.any_eq_false]
  intro x hx
  have := List.all_eq_true.1 hl x hx
  simp at this ⊢
  intro
  omega
theorem wit_eq (l : List (Int × Int)) (r : Int) (h : srt l = true) : wit l r = inT l r := by
  induction l with
  | nil => rfl
  | cons x l ih =>
    simp only [srt, Bool.and_eq_true] at h
    have e : inT (x :: l) r = ((decide (x.1 ≤ r) && decide (r ≤ x.2)) || inT l r) := rfl
    rw [e]
    simp only [wit]
    by_cases hr : r ≤ x.2
    · rw [if_pos hr, inT_before l r x.2 hr h.1.2]; simp [hr]
    · rw [if_neg hr, ih h.2]; simp [hr]
theorem mk_srt : srt mkT = true := by decide +kernel
theorem wd_srt : srt wdT = true := by decide +kernel

/-- what has come up before does not decide: what is left does -/
theorem wit_append (l m : List (Int × Int)) (r : Int) (h : ∀ x ∈ l, ¬ r ≤ x.2) : wit (l ++ m) r = wit m r := by
  induction l with
  | nil => rfl
  | cons x l ih =>
    simp only [List.cons_append, wit]
    rw [if_neg (h x (by simp)), ih (fun y hy => h y (by simp [hy]))]
theorem wit_none (l : List (Int × Int)) (r : Int) (h : ∀ x ∈ l, ¬ r ≤ x.2) : wit l r = false := by
  have := wit_append l [] r h
  simpa [wit] using this

def ctB (r : Int) : Bool := (decide (0 ≤ r) && decide (r ≤ 31)) || (decide (127 ≤ r) && decide (r ≤ 159))
def mkB (r : Int) : Bool := inT mkT r
def wdB (r : Int) : Bool := inT wdT r && !mkB r
def rnB (r : Int) : Bool := decide (0 ≤ r) && decide (r ≤ 1114111) && (decide (r < 55296) || decide (57343 < r))
def ofI (r : Int) : Int := if (!rnB r || ctB r || mkB r) = true then 0 else if inT wdT r = true then 2 else 1
theorem ofI_01 (r : Int) : 0 ≤ ofI r ∧ ofI r ≤ 2 := by unfold ofI; split <;> (try split) <;> omega
end Go.Proofs.YtmgakdbcgdhpaaaDoor
