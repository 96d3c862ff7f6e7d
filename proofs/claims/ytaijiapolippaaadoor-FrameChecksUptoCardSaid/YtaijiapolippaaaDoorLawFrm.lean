/-
  What arguments of type api.Frame show, and how much they hold.
-/
import Derived.Test.YtaijiapolippaaaDoorLaw
import Derived.Test.YtaijiapolippaaaDoorGfI
import Derived.Deep.Slices
namespace Go.Proofs.YtaijiapolippaaaDoor
open Go.ChangeShapes Go.WideShapes Go.ChangeAt Go.RowKit Go.Deep
set_option linter.unusedVariables false
set_option linter.unusedSimpArgs false

def cWt (c : Cl) : Nat := c.s.length + 1
def rowWt (l : List Cl) : Nat := (l.map cWt).sum
def frWt (L : List (List Cl)) : Nat := (L.map fun l => rowWt l + 1).sum
theorem sum_mem {α : Type} (f : α → Nat) {l : List α} {x : α} (h : x ∈ l) : f x ≤ (l.map f).sum := by
  induction l with
  | nil => cases h
  | cons y l ih =>
    simp only [List.map_cons, List.sum_cons]
    rcases List.mem_cons.1 h with rfl | h
    · omega
    · have := ih h; omega
theorem sum_len {α : Type} (f : α → Nat) {l : List α} (h : ∀ x ∈ l, 1 ≤ f x) : l.length ≤ (l.map f).sum := by
  induction l with
  | nil => simp
  | cons y l ih =>
    simp only [List.map_cons, List.sum_cons, List.length_cons]
    have := ih (fun x hx => h x (by simp [hx]))
    have := h y (by simp)
    omega
theorem rowWt_len (l : List Cl) : l.length ≤ rowWt l := sum_len cWt (fun x _ => by unfold cWt; omega)
theorem rowWt_str {l : List Cl} {c : Cl} (h : c ∈ l) : c.s.length ≤ rowWt l := by have := sum_mem cWt h; unfold cWt at this; unfold rowWt cWt; omega
theorem frWt_len (L : List (List Cl)) : L.length ≤ frWt L := sum_len (fun l => rowWt l + 1) (fun x _ => by show 1 ≤ rowWt x + 1; omega)
theorem frWt_row {L : List (List Cl)} {l : List Cl} (h : l ∈ L) : rowWt l ≤ frWt L := by have : rowWt l + 1 ≤ _ := sum_mem (fun l => rowWt l + 1) h; unfold frWt; omega
theorem flat_le_rowWt (l : List Cl) : (l.flatMap (·.s)).length ≤ rowWt l := by
  induction l with
  | nil => simp
  | cons c l ih =>
    simp only [List.flatMap_cons, List.length_append]
    simp only [rowWt, List.map_cons, List.sum_cons] at ih ⊢
    unfold cWt at *
    omega

section
variable {H : Type}
theorem bk_one (d : DataW H) : 1 ≤ Rows.uptoBulk d := by
  cases d with
  | lit l => cases l <;> simp [Rows.uptoBulk]
  | nil => simp [Rows.uptoBulk]
  | ptr d => simp [Rows.uptoBulk]
  | slice elems spare => simp [Rows.uptoBulk]
  | agg parts => simp [Rows.uptoBulk]
  | iface t d => simp [Rows.uptoBulk]
  | map entries => simp [Rows.uptoBulk]
  | held h => simp [Rows.uptoBulk]
theorem bk_append (l r : List (DataW H)) : Rows.uptoBulkAll (l ++ r) = Rows.uptoBulkAll l + Rows.uptoBulkAll r := by
  induction l with
  | nil => simp [Rows.uptoBulkAll]
  | cons x l ih => simp only [List.cons_append, Rows.uptoBulkAll, ih]; omega
theorem bk_range (D : Nat → DataW H) (k : Nat) : Rows.uptoBulkAll ((List.range (k + 1)).map D) = Rows.uptoBulkAll ((List.range k).map D) + Rows.uptoBulk (D k) := by
  rw [List.range_succ, List.map_append, bk_append]
  simp [Rows.uptoBulkAll]

variable {enc : TypeId × Value → H} {w : World} {base : Nat} {spare : Nat → Bool} {held : Bool}
theorem fmwf64 {n : Int} (h : (Lit.int .i64 n).wf = true) : -9223372036854775808 ≤ n ∧ n ≤ 9223372036854775807 := by
  simp only [Lit.wf, IntKind.min, IntKind.max, IntKind.signed, IntKind.bits] at h
  simp at h
  omega
set_option maxRecDepth 100000 in
theorem fmsty_of_trod {fuel : Nat} {cs : List Value} {x : DataW H × List MemPlace} (h : DataW.trod enc Tryd.prog w base spare held fuel 121 cs = some x) : ∃ y : Sty, cs = y.cells := by
  obtain ⟨xs, n, _, _, hlen, hxl, hf⟩ := DataW.trod_struct Tryd.underlying121 h
  rw [show Tryd.prog.cellsOf 121 = 5 by kernel_rfl] at hlen
  match cs, hlen with
  | [c0, c1, c2, c3, c4], _ =>
    have ex : ∀ i, i < xs.length → xs[i]? = some (xs[i]!) := fun i hi => by
      rw [List.getElem?_eq_getElem hi, List.getElem!_eq_getElem?_getD, List.getElem?_eq_getElem hi]; rfl
    have hx5 : xs.length = 5 := hxl
    have kb : Tryd.prog.cellsOf 4 = 1 := by kernel_rfl
    have ki : Tryd.prog.cellsOf 3 = 1 := by kernel_rfl
    have f0 := (hf 0 _ rfl).trans (ex 0 (by omega))
    have f1 := (hf 1 _ rfl).trans (ex 1 (by omega))
    have f2 := (hf 2 _ rfl).trans (ex 2 (by omega))
    have f3 := (hf 3 _ rfl).trans (ex 3 (by omega))
    have f4 := (hf 4 _ rfl).trans (ex 4 (by omega))
    obtain ⟨b0, e0, _⟩ := DataW.trod_bool Tryd.underlying4 f0
    obtain ⟨b1, e1, _⟩ := DataW.trod_bool Tryd.underlying4 f1
    obtain ⟨b2, e2, _⟩ := DataW.trod_bool Tryd.underlying4 f2
    obtain ⟨n3, e3, _⟩ := DataW.trod_int Tryd.underlying3 f3
    obtain ⟨n4, e4, _⟩ := DataW.trod_int Tryd.underlying3 f4
    simp [kb] at e0 e1 e2
    simp [ki] at e3 e4
    exact ⟨⟨b0, b1, b2, n3, n4⟩, by rw [e0, e1, e2, e3, e4]; rfl⟩
theorem fmcell_lt {w : World} {b o : Nat} {v : Value} (h : w.cell? ⟨b, o, none⟩ = some v) : b < w.heap.size := World.block_lt_of_cell? w ⟨b, o, none⟩ h
theorem str_two (s : ByteArray) : s = ⟨s.data.toList.toArray⟩ := by cases s; simp
set_option maxRecDepth 100000 in
theorem fmcell_of_trod {fuel : Nat} {cs : List Value} {x : DataW H × List MemPlace} (h : DataW.trod enc Tryd.prog w base spare held fuel 123 cs = some x) : ∃ c : Cl, cs = c.cells ∧ cWt c ≤ Rows.uptoBulk x.1 := by
  obtain ⟨xs, n, _, hx, hlen, hxl, hf⟩ := DataW.trod_struct Tryd.underlying123 h
  rw [show Tryd.prog.cellsOf 123 = 7 by kernel_rfl] at hlen
  match cs, hlen, xs, hxl, hx, hf with
  | [c0, c1, c2, c3, c4, c5, c6], _, [y0, y1, y2], _, hx, hf =>
    have ki : Tryd.prog.cellsOf 3 = 1 := by kernel_rfl
    have ks : Tryd.prog.cellsOf 9 = 1 := by kernel_rfl
    have ky : Tryd.prog.cellsOf 121 = 5 := by kernel_rfl
    have f0 := hf 0 _ rfl
    have f1 := hf 1 _ rfl
    have f2 := hf 2 _ rfl
    simp only [List.getElem?_cons_zero, List.getElem?_cons_succ] at f0 f1 f2
    obtain ⟨s0, e0, z0, _⟩ := DataW.trod_string Tryd.underlying9 f0
    obtain ⟨n1, e1, _, _⟩ := DataW.trod_int Tryd.underlying3 f1
    obtain ⟨y, e2⟩ := fmsty_of_trod f2
    simp [ks] at e0
    simp [ki] at e1
    simp [ky, Sty.cells] at e2
    refine ⟨⟨s0.data.toList, n1, y⟩, ?_, ?_⟩
    · simp only [Cl.cells]
      rw [e0, e1, e2.1, e2.2.1, e2.2.2.1, e2.2.2.2.1, e2.2.2.2.2]
    · rw [hx]
      simp only [List.map_cons, List.map_nil, Rows.uptoBulk, Rows.uptoBulkAll, z0, cWt]
      omega
set_option maxRecDepth 100000 in
theorem fmrow_of_trod {fuel : Nat} {cs : List Value} {x : DataW H × List MemPlace} (h : DataW.trod enc Tryd.prog w base (fun _ => true) held fuel 79 cs = some x) : ∃ v l, cs = [v] ∧ RowD w (fun _ => True) v l ∧ rowWt l + 1 ≤ Rows.uptoBulk x.1 := by
  rcases open_slice Tryd.underlying79 h with ⟨rfl, hx⟩ | ⟨a, len, cap, m, n', D, Pl, rfl, hb, hl, hm, hmm, hx, hi⟩
  · refine ⟨_, [], rfl, ⟨none, 0, rfl, ⟨fun _ => rfl, by simp⟩, .inl rfl⟩, ?_⟩
    rw [hx]
    simp [rowWt, Rows.uptoBulk]
  · simp at hmm
    subst hmm
    rw [show Tryd.prog.cellsOf 123 = 7 by kernel_rfl] at hi
    have key : ∀ k, k ≤ len → ∃ l : List Cl, l.length = k ∧ rowWt l ≤ Rows.uptoBulkAll ((List.range k).map D) ∧ ∀ j u, (rc l)[j]? = some u → w.cell? (a.add j) = some u := by
      intro k
      induction k with
      | zero => intro _; exact ⟨[], rfl, by simp [rowWt], by simp [rc]⟩
      | succ k ih =>
        intro hk
        obtain ⟨l, h1, h2, h3⟩ := ih (by omega)
        obtain ⟨cs', hc, ht⟩ := hi k (by omega)
        obtain ⟨_, hcl, hat⟩ := World.cells?_some hc
        obtain ⟨o, rfl, ho⟩ := fmcell_of_trod ht
        refine ⟨l ++ [o], by simp [h1], ?_, fun j u hu => ?_⟩
        · rw [bk_range]
          have e : rowWt (l ++ [o]) = rowWt l + cWt o := by simp [rowWt]
          rw [e]
          have ho' : cWt o ≤ Rows.uptoBulk (D k) := ho
          omega
        · have e : rc (l ++ [o]) = rc l ++ o.cells := by simp [rc]
          rw [e] at hu
          have hol := rc_length l
          by_cases hj : j < (rc l).length
          · rw [List.getElem?_append_left hj] at hu
            exact h3 j u hu
          · rw [List.getElem?_append_right (by omega)] at hu
            have hjl := (List.getElem?_eq_some_iff.1 hu).1
            rw [Cl.len] at hjl
            have := hat (j - (rc l).length) hjl
            rw [hu, add_add, hol, h1] at this
            rw [show k * 7 + (j - k * 7) = j by omega] at this
            exact this
    obtain ⟨l, h1, h2, h3⟩ := key len (Nat.le_refl _)
    refine ⟨_, l, rfl, ⟨some a, m, by rw [h1], ⟨fun e => (by cases e), by omega⟩, ?_⟩, ?_⟩
    · rcases Nat.eq_zero_or_pos len with h0 | h0
      · subst h0
        have : l = [] := List.eq_nil_of_length_eq_zero h1
        subst this
        exact .inl rfl
      · obtain ⟨b, off, spot⟩ := a
        have hlen : 0 < (rc l).length := by rw [rc_length]; omega
        have hc0 := h3 0 _ (List.getElem?_eq_getElem hlen)
        have hspot : spot = none := by simpa [Addr.add] using World.cell?_spot hc0
        subst hspot
        have hc : ∀ j u, (rc l)[j]? = some u → w.cell? ⟨b, off + j, none⟩ = some u := fun j u hu => by
          have := h3 j u hu
          rwa [Addr.add_mid] at this
        exact .inr ⟨b, off, rfl, fmcell_lt (hc 0 _ (List.getElem?_eq_getElem hlen)), trivial, hc⟩
    · rw [hx]
      simp only [Rows.uptoBulk]
      omega
set_option maxRecDepth 100000 in
theorem fmrows_of_trod {fuel : Nat} {cs : List Value} {x : DataW H × List MemPlace} (h : DataW.trod enc Tryd.prog w base (fun _ => true) held fuel 72 cs = some x) : ∃ A c L, cs = [.slice A (L : List (List Cl)).length c] ∧ RfAt w (fun _ => True) A c L ∧ c ≤ maxLen ∧ frWt L ≤ Rows.uptoBulk x.1 := by
  rcases open_slice Tryd.underlying72 h with ⟨rfl, hx⟩ | ⟨a, len, cap, m, n', D, Pl, rfl, hb, hl, hm, hmm, hx, hi⟩
  · refine ⟨none, 0, [], rfl, ⟨fun _ => rfl, by simp, [], .inl rfl, .nil⟩, by simp [maxLen], ?_⟩
    simp [frWt]
  · simp at hmm
    subst hmm
    rw [show Tryd.prog.cellsOf 79 = 1 by kernel_rfl] at hi
    have key : ∀ k, k ≤ len → ∃ (vs : List Value) (L : List (List Cl)), L.length = k ∧ frWt L ≤ Rows.uptoBulkAll ((List.range k).map D) ∧ RowsD w (fun _ => True) vs L ∧ ∀ j u, vs[j]? = some u → w.cell? (a.add j) = some u := by
      intro k
      induction k with
      | zero => intro _; exact ⟨[], [], rfl, by simp [frWt], .nil, by simp⟩
      | succ k ih =>
        intro hk
        obtain ⟨vs, L, h1, h2, h4, h3⟩ := ih (by omega)
        obtain ⟨cs', hc, ht⟩ := hi k (by omega)
        obtain ⟨_, hcl, hat⟩ := World.cells?_some hc
        obtain ⟨v, l, rfl, hr, ho⟩ := fmrow_of_trod ht
        have hvl : vs.length = k := by rw [h4.1, h1]
        refine ⟨vs ++ [v], L ++ [l], by simp [h1], ?_, h4.snoc hr, fun j u hu => ?_⟩
        · rw [bk_range]
          have e : frWt (L ++ [l]) = frWt L + (rowWt l + 1) := by simp [frWt]
          rw [e]
          have ho' : rowWt l + 1 ≤ Rows.uptoBulk (D k) := ho
          omega
        · by_cases hj : j < vs.length
          · rw [List.getElem?_append_left hj] at hu
            exact h3 j u hu
          · rw [List.getElem?_append_right (by omega)] at hu
            have hjl := (List.getElem?_eq_some_iff.1 hu).1
            simp at hjl
            have hj2 : j = k := by omega
            subst hj2
            have := hat 0 (by simp)
            rw [hvl, Nat.sub_self] at hu
            rw [hu, add_add, Nat.mul_one, Nat.add_zero] at this
            exact this
    obtain ⟨vs, L, h1, h2, h4, h3⟩ := key len (Nat.le_refl _)
    refine ⟨some a, m, L, by rw [h1], ⟨fun e => (by cases e), by omega, vs, ?_, h4⟩, hm, ?_⟩
    · rcases Nat.eq_zero_or_pos len with h0 | h0
      · subst h0
        have : vs = [] := List.eq_nil_of_length_eq_zero (by rw [h4.1]; exact h1)
        subst this
        exact .inl rfl
      · obtain ⟨b, off, spot⟩ := a
        have hlen : 0 < vs.length := by rw [h4.1]; omega
        have hc0 := h3 0 _ (List.getElem?_eq_getElem hlen)
        have hspot : spot = none := by simpa [Addr.add] using World.cell?_spot hc0
        subst hspot
        have hc : ∀ j u, vs[j]? = some u → w.cell? ⟨b, off + j, none⟩ = some u := fun j u hu => by
          have := h3 j u hu
          rwa [Addr.add_mid] at this
        exact .inr ⟨b, off, rfl, fmcell_lt (hc 0 _ (List.getElem?_eq_getElem hlen)), trivial, hc⟩
    · rw [hx]
      simp only [Rows.uptoBulk]
      omega

set_option maxRecDepth 100000 in
theorem open_frm {W : World} {v : Value} {d : DataW H} {p : List MemPlace} (hok : Value.okWide Tryd.prog W .any base 74 v)
    (h : DataW.Trod enc Tryd.prog W 0 (fun _ => true) true 74 v d p) :
    ∃ A c L row col sn, v = .agg #[.slice A (L : List (List Cl)).length c, .int .i64 row, .int .i64 col, .bool sn] ∧ RfAt W (fun _ => True) A c L ∧ c ≤ maxLen ∧ frWt L ≤ Rows.uptoBulk d ∧
      (-9223372036854775808 ≤ row ∧ row ≤ 9223372036854775807) ∧ (-9223372036854775808 ≤ col ∧ col ≤ 9223372036854775807) := by
  obtain ⟨cs, rfl, hsz⟩ := okWide_struct Tryd.underlying74 hok
  obtain ⟨fuel, hf⟩ := h
  obtain ⟨xs, n, _, hx, hlen, hxl, hf⟩ := DataW.trod_struct Tryd.underlying74 hf
  rw [show Tryd.prog.cellsOf 74 = 4 by kernel_rfl] at hlen
  generalize hcs : (Value.agg cs).cells.toList = cl at hlen hf
  match cl, hlen, xs, hxl, hx, hf with
  | [c0, c1, c2, c3], _, [y0, y1, y2, y3], _, hx, hf =>
    have ki : Tryd.prog.cellsOf 3 = 1 := by kernel_rfl
    have kr : Tryd.prog.cellsOf 72 = 1 := by kernel_rfl
    have kb : Tryd.prog.cellsOf 4 = 1 := by kernel_rfl
    have f0 := hf 0 _ rfl
    have f1 := hf 1 _ rfl
    have f2 := hf 2 _ rfl
    have f3 := hf 3 _ rfl
    simp only [List.getElem?_cons_zero, List.getElem?_cons_succ] at f0 f1 f2 f3
    obtain ⟨A, c, L, e0, hr, hm, hw⟩ := fmrows_of_trod f0
    obtain ⟨n1, e1, _, w1⟩ := DataW.trod_int Tryd.underlying3 f1
    obtain ⟨n2, e2, _, w2⟩ := DataW.trod_int Tryd.underlying3 f2
    obtain ⟨b3, e3, _⟩ := DataW.trod_bool Tryd.underlying4 f3
    simp [kr] at e0
    simp [ki] at e1 e2
    simp [kb] at e3
    refine ⟨A, c, L, n1, n2, b3, ?_, hr, hm, ?_, fmwf64 w1, fmwf64 w2⟩
    · have : cs = #[c0, c1, c2, c3] := by
        have h2 : cs.toList = [c0, c1, c2, c3] := by simpa [Value.cells] using hcs
        exact Array.toList_inj.1 h2
      rw [this, e0, e1, e2, e3]
    · have hd : d = .agg (List.map (fun x => x.fst) [y0, y1, y2, y3]) := (Prod.mk.inj hx).1
      rw [hd]
      simp only [List.map_cons, List.map_nil, Rows.uptoBulk, Rows.uptoBulkAll]
      omega
end
end Go.Proofs.YtaijiapolippaaaDoor
