/-
  Walk: Find.
-/
import Derived.Test.YtjdfajgjejpfeaaGreatDoorGpStand
namespace Go.Proofs.YtjdfajgjejpfeaaGreatDoor
open Go.RowKit Go.Shelf
attribute [local go_sem] Oper.semAt_some
set_option linter.unusedVariables false
set_option linter.unusedSimpArgs false

/-- do the texts stand at a place from the cursor on? -/
def okAt (line l : List (List UInt8)) (cur i : Nat) : Bool := decide (cur ≤ i) && standB line l i
/-- what Find tells -/
def FindR (line l : List (List UInt8)) (cur : Nat) (v : Int) (b : Bool) : Prop :=
  (b = true ∧ l ≠ [] ∧ ∃ i : Nat, v = i ∧ i < line.length ∧ okAt line l cur i = true ∧ ∀ j, j < i → okAt line l cur j = false) ∨
  (b = false ∧ v = 0 ∧ (l = [] ∨ ∀ j, j < line.length → okAt line l cur j = false))
/-- what Find hands back -/
def FindP (w : World) (line l : List (List UInt8)) (cur : Nat) (e : Ending) (w' : World) : Prop :=
  ∃ v b, e = .returned (.tuple #[.int .i64 v, .bool b]) ∧ FindR line l cur v b ∧ Below w.heap.size w w'

/-- how a range of Find may be left -/
def FindX (w : World) (line l : List (List UInt8)) (cur : Nat) (c : Code) (pre : List (Nat × List UInt8)) (f : Nat → Prop) (W : World) : Prop :=
  c = .ret ∧ ∃ pre' x, pre = pre' ++ [x] ∧ okAt line l cur x.1 = true ∧ (∀ y ∈ pre', okAt line l cur y.1 = false) ∧ Boxed W (w.heap.size + 1 + 1) 3 (.int .i64 x.1) ∧ Boxed W (w.heap.size + 1 + 1 + 1) 4 (.bool true) ∧ Below w.heap.size w W
theorem findX_ab {w : World} {b : Nat} {line l : List (List UInt8)} {cur : Nat} {c : Code} (hb : w.heap.size + 4 ≤ b) : AbP b (FindX w line l cur c) := by
  rintro pre f f' X Y ⟨hc, pre', x, e1, e2, e3, b1, b2, hB⟩ ht hf
  refine ⟨hc, pre', x, e1, e2, e3, ht.block _ _ b1 (.inl (by omega)), ht.block _ _ b2 (.inl (by omega)), ?_⟩
  exact AbP.below (n₀ := w.heap.size) (β := Unit) (by omega) (Nat.le_refl _) () f f' X Y hB ht hf
/-- what a range of Find keeps -/
def FindI (w : World) (z g : Nat) (X : Option Addr) (m d : Nat) (line l : List (List UInt8)) (cur : Nat) (pre : List (Nat × List UInt8)) (f : Nat → Prop) (W : World) : Prop :=
  (Boxed W w.heap.size 23 (.pointer (some ⟨g, 0, none⟩)) ∧ Boxed W (w.heap.size + 1) 27 (.slice X m d) ∧ Boxed W (w.heap.size + 1 + 1) 3 (.int .i64 0) ∧ Boxed W (w.heap.size + 1 + 1 + 1) 4 (.bool false) ∧ Boxed W z 3 (.int .i64 cur)) ∧ Below w.heap.size w W ∧ ∀ y ∈ pre, okAt line l cur y.1 = false
theorem findI_ab {w : World} {z g b : Nat} {X : Option Addr} {m d : Nat} {line l : List (List UInt8)} {cur : Nat} (hz : w.heap.size + 4 ≤ z) (hb : z < b) : AbP b (FindI w z g X m d line l cur) := by
  rintro pre f f' U Y ⟨⟨b0, b1, b2, b3, b4⟩, hB, hn⟩ ht hf
  refine ⟨⟨ht.block _ _ b0 (.inl (by omega)), ht.block _ _ b1 (.inl (by omega)), ht.block _ _ b2 (.inl (by omega)), ht.block _ _ b3 (.inl (by omega)), ht.block _ _ b4 (.inl (by omega))⟩, ?_, hn⟩
  exact AbP.below (n₀ := w.heap.size) (β := Unit) (by omega) (Nat.le_refl _) () f f' U Y hB ht hf
theorem FindI.step {w : World} {z g : Nat} {X : Option Addr} {m d : Nat} {line l : List (List UInt8)} {cur : Nat} {pre : List (Nat × List UInt8)} {f : Nat → Prop} {W W' : World} (h : FindI w z g X m d line l cur pre f W) (hb : Below W.heap.size W W') (x : Nat × List UInt8) (hx : okAt line l cur x.1 = false) : FindI w z g X m d line l cur (pre ++ [x]) f W' := by
  obtain ⟨⟨b0, b1, b2, b3, b4⟩, hB, hn⟩ := h
  refine ⟨⟨(hb.block _ b0.lt).trans b0, (hb.block _ b1.lt).trans b1, (hb.block _ b2.lt).trans b2, (hb.block _ b3.lt).trans b3, (hb.block _ b4.lt).trans b4⟩, hB.trans (hb.mono hB.size), fun y hy => ?_⟩
  rcases List.mem_append.1 hy with hy | hy
  · exact hn y hy
  · obtain rfl : y = x := by simpa using hy
    exact hx

set_option maxHeartbeats 1000000 in
theorem find_empty {w : World} (p : Option Addr) (d : Nat) (X : Option Addr) :
    Calls Tryz.prog 24 #[.pointer p, .slice X 0 d] w fun e w' => e = .returned (.tuple #[.int .i64 0, .bool false]) ∧ Below w.heap.size w w' := by
  go_enter Tryz.func24, Tryz.ntmps24
  go_wp2_with (fail)
  have hb : Below w.heap.size w ((((w.alloc (.cells #[.pointer p] 23)).alloc (.cells #[.slice X 0 d] 27)).alloc (.cells #[.int .i64 0] 3)).alloc (.cells #[.bool false] 4)) :=
    ((((Below.refl _ w).alloc (Nat.le_refl _) _).alloc (by simp) _).alloc (by simp; omega) _).alloc (by simp; omega) _
  refine bodyPost_ret (v := .tuple #[.int .i64 0, .bool false]) (by simp [results, Tryz.results24, go_sem]) rfl ⟨rfl, hb⟩

set_option maxRecDepth 100000 in
set_option maxHeartbeats 4000000 in
theorem find_any {w : World} {lo g n C most f t : Nat} {A : Option Addr} {p s : List (List UInt8)} (h : GpAt w lo g A n C most f t p s) (l : List (List UInt8)) (X : Option Addr) (m d : Nat) (hm : m = l.length) (hm0 : l ≠ []) (hm5 : m ≤ 1000000) (hX : Sl w w.heap.size X (sv l)) :
    Calls Tryz.prog 24 #[.pointer (some ⟨g, 0, none⟩), .slice X m d] w (FindP w (p ++ s) l f) := by
  have H := Lib.hid h
  have HM := Lib.hid hm
  have HX := Lib.hid hX
  have hmi : ¬ ((m : Int) = 0) := by have : l.length ≠ 0 := by simpa using hm0
                                     omega
  have hmn : m ≠ 0 := by omega
  have HM0 := Lib.hid hm0
  have hl4 : ln p s ≤ 4096 := by have := h.ln_le; have := h.m4; omega
  have hown := h.own_lt
  clear h hm hX hm0
  refine (callsIn_wide (n := 9)).1 ?_
  refine callsIn_of_wp_marks Tryz.func24 rfl trivial ?_ rfl
  simp only [Tryz.ntmps24, List.size_toArray, List.length_cons, List.length_nil, Nat.reduceAdd, Nat.reduceSub, Array.replicate_succ, Array.replicate_zero, List.push_toArray, List.append_toArray, List.nil_append, List.cons_append]
  refine wpIn_wide.2 ?_
  have hb0 : Below w.heap.size w ((((w.alloc (.cells #[.pointer (some ⟨g, 0, none⟩)] 23)).alloc (.cells #[.slice X m d] 27)).alloc (.cells #[.int .i64 0] 3)).alloc (.cells #[.bool false] 4)) :=
    ((((Below.refl _ w).alloc (Nat.le_refl _) _).alloc (by simp) _).alloc (by simp; omega) _).alloc (by simp; omega) _
  obtain ⟨h, hh⟩ : ∃ h, h = w.heap.size := ⟨_, rfl⟩
  have x0 := (((Boxed.new w 23 (.pointer (some ⟨g, 0, none⟩))).alloc (.cells #[.slice X m d] 27)).alloc (.cells #[.int .i64 0] 3)).alloc (.cells #[.bool false] 4)
  have x1 := ((Boxed.new (w.alloc (.cells #[.pointer (some ⟨g, 0, none⟩)] 23)) 27 (.slice X m d)).alloc (.cells #[.int .i64 0] 3)).alloc (.cells #[.bool false] 4)
  have x2 := (Boxed.new ((w.alloc (.cells #[.pointer (some ⟨g, 0, none⟩)] 23)).alloc (.cells #[.slice X m d] 27)) 3 (.int .i64 0)).alloc (.cells #[.bool false] 4)
  have x3 := Boxed.new (((w.alloc (.cells #[.pointer (some ⟨g, 0, none⟩)] 23)).alloc (.cells #[.slice X m d] 27)).alloc (.cells #[.int .i64 0] 3)) 4 (.bool false)
  simp only [World.size_alloc] at x1 x2 x3
  have keepB : ∀ (w1 : World), Below ((((w.alloc (.cells #[.pointer (some ⟨g, 0, none⟩)] 23)).alloc (.cells #[.slice X m d] 27)).alloc (.cells #[.int .i64 0] 3)).alloc (.cells #[.bool false] 4)).heap.size ((((w.alloc (.cells #[.pointer (some ⟨g, 0, none⟩)] 23)).alloc (.cells #[.slice X m d] 27)).alloc (.cells #[.int .i64 0] 3)).alloc (.cells #[.bool false] 4)) w1 →
      (Boxed w1 w.heap.size 23 (.pointer (some ⟨g, 0, none⟩)) ∧ Boxed w1 (w.heap.size + 1) 27 (.slice X m d) ∧ Boxed w1 (w.heap.size + 1 + 1) 3 (.int .i64 0) ∧ Boxed w1 (w.heap.size + 1 + 1 + 1) 4 (.bool false)) ∧ Below w.heap.size w w1 ∧ w.heap.size + 4 ≤ w1.heap.size := fun w1 hb =>
    ⟨⟨(hb.block _ x0.lt).trans x0, (hb.block _ x1.lt).trans x1, (hb.block _ x2.lt).trans x2, (hb.block _ x3.lt).trans x3⟩, hb0.trans (hb.mono hb0.size), by have := hb.size; simp at this; omega⟩
  have HB0 := Lib.hid hb0
  have KB := Lib.hid keepB
  clear hb0 keepB x0 x1 x2 x3
  go_wp2_with (first
    | (go_at_call 15; refine (gcursor_any (H.out.below HB0.out)).mono ?_; rintro e w1 ⟨rfl, hb1⟩; obtain ⟨⟨y0, y1, y2, y3⟩, hbw, hsz⟩ := KB.out w1 hb1; have c0 := (y0.alloc (.cells #[.int .i64 f] 3)).cell; have HBW := Lib.hid hbw; have Y0 := Lib.hid y0; have Y1 := Lib.hid y1; have Y2 := Lib.hid y2; have Y3 := Lib.hid y3; clear hb1 hbw y0 y1 y2 y3)
    | (go_at_call 30; refine (gall_any _ _).mono ?_; rintro e w' ⟨rfl, rfl⟩))
  clear c0
  refine (wpIn_wide (n := 9)).1 ?_
  obtain ⟨z, hz⟩ : ∃ z, z = w1.heap.size := ⟨_, rfl⟩
  have y4 := (Boxed.new w1 3 (.int .i64 f)).alloc (.cells #[.pointer (some ⟨g, 0, none⟩)] 23)
  have y5 := Boxed.new (w1.alloc (.cells #[.int .i64 f] 3)) 23 (.pointer (some ⟨g, 0, none⟩))
  have hb2 : Below w.heap.size w ((w1.alloc (.cells #[.int .i64 f] 3)).alloc (.cells #[.pointer (some ⟨g, 0, none⟩)] 23)) := (HBW.out.alloc HBW.out.size _).alloc (by have := HBW.out.size; simp; omega) _
  have hI : FindI w w1.heap.size g X m d (p ++ s) l f [] (lent w.heap.size (w1.heap.size + 1)) ((w1.alloc (.cells #[.int .i64 f] 3)).alloc (.cells #[.pointer (some ⟨g, 0, none⟩)] 23)) :=
    ⟨⟨(Y0.out.alloc _).alloc _, (Y1.out.alloc _).alloc _, (Y2.out.alloc _).alloc _, (Y3.out.alloc _).alloc _, y4⟩, hb2, fun y hy => by cases hy⟩
  have hsz2 : ((w1.alloc (.cells #[.int .i64 f] 3)).alloc (.cells #[.pointer (some ⟨g, 0, none⟩)] 23)).heap.size = w1.heap.size + 2 := by simp
  rw [World.size_alloc] at y5
  rw [← hz] at hI hsz2 hsz y5 ⊢
  generalize hX1 : (w1.alloc (.cells #[.int .i64 f] 3)).alloc (.cells #[.pointer (some ⟨g, 0, none⟩)] 23) = X1 at *
  have hG := H.out.below hb2
  have hll : (p ++ s).length = ln p s := (ln_eq p s).symm
  clear hX1 y4 hz
  refine range_priv rfl (by omega) (gf := 57) (lb := #[.pointer (some ⟨z + 1, 0, none⟩)]) rfl trivial (enters_of Tryz.func57 (by kernel_rfl) rfl)
    (gall_stops hG (z + 1) y5.cell (lent w.heap.size (z + 1)) (.inr rfl) (fun k hk => .inl (hown k hk).2))
    (Nat.le_refl _) (fun k hk => ⟨by rcases hk with hk | hk <;> omega, rfl⟩) (fun _ => rfl)
    (FindI w z g X m d (p ++ s) l f)
    (FindX w (p ++ s) l f)
    (findI_ab hsz (by omega))
    (fun _ => findX_ab (by omega))
    hI
    (fun x => { tmps := #[.pointer (some ⟨g, 0, none⟩), .slice X m d, .pointer (some ⟨w.heap.size, 0, none⟩), .pointer (some ⟨w.heap.size + 1, 0, none⟩), .pointer (some ⟨w.heap.size + 1 + 1, 0, none⟩), .pointer (some ⟨w.heap.size + 1 + 1 + 1, 0, none⟩), .pointer (some ⟨z, 0, none⟩), .int .i64 x.1, .slice X m d, .int .i64 m, .bool false, .pointer (some ⟨g, 0, none⟩), .int .i64 f, .pointer (some ⟨g, 0, none⟩), .func (.func 57) #[] #[.pointer (some ⟨z + 1, 0, none⟩)], .int .i64 x.1, .string ⟨x.2.toArray⟩, undef, undef, undef, undef, undef, undef, undef, undef, undef, undef], defers := [] }) ?assign ?body ?done ?stop
  case assign =>
    intro l x W K hK
    simp only [encG]
    rw [put_two]
    gi_wp2
    exact hK
  case body =>
    rintro lo' pre x fr W hf hzz hI hlen hel
    have hI' := hI
    obtain ⟨⟨b0, b1, b2, b3, b4⟩, hBW, hn⟩ := hI'
    have c0 := b0.cell
    have c1 := b1.cell
    have c4 := b4.cell
    have hxl : x.1 < ln p s := by
      have := (List.getElem?_eq_some_iff.1 hel).1
      omega
    have hfs : ∀ k, fr k → k < W.heap.size := fun k hk => by
      rcases hf k hk with h1 | h1
      · rcases h1 with h1 | h1
        · have := hBW.size; omega
        · omega
      · exact h1.2
    have hxi : (x.1 : Int) < 4096 := by omega
    have hst := stand_any (H.out.below hBW) l X m d HM.out hm5 ((HX.out.below hBW).more hBW.size) x.1 hxl
    have HI := Lib.hid hI
    have HFS := Lib.hid hfs
    have HST := Lib.hid hst
    have B2 := Lib.hid b2
    have B3 := Lib.hid b3
    have HBW2 := Lib.hid hBW
    have HN := Lib.hid hn
    clear hI hfs hst b0 b1 b2 b3 b4 hBW hn hf hel hlen hown hb2 hG y5 hll
    by_cases hc : f ≤ x.1
    · have hci : (f : Int) ≤ (x.1 : Int) := by omega
      cases hsb : standB (p ++ s) l x.1 with
      | false =>
        have hok : okAt (p ++ s) l f x.1 = false := by unfold okAt; rw [hsb]; simp
        have HSB := Lib.hid hsb
        have HOK := Lib.hid hok
        clear hsb hok hc
        gi_wp2_with (refine ⟨trivial, ?_⟩; gi_at_call 56; refine (CallsIn.inRound lo' (callsIn_wide.2 HST.out)).mono ?_; rintro e W' ⟨rfl, hb'⟩; rw [HSB.out])
        exact ⟨Rk.of_below hb' HFS.out, HI.out.step hb' x HOK.out⟩
      | true =>
        have hok : okAt (p ++ s) l f x.1 = true := by unfold okAt; rw [hsb]; simp [hc]
        have HSB := Lib.hid hsb
        have HOK := Lib.hid hok
        clear hsb hok hc
        gi_wp2_with (refine ⟨trivial, ?_⟩; gi_at_call 56; refine (CallsIn.inRound lo' (callsIn_wide.2 HST.out)).mono ?_; rintro e W' ⟨rfl, hb'⟩; rw [HSB.out]; have e2 : Boxed W' (w.heap.size + 1 + 1) 3 (.int .i64 0) := (hb'.block _ B2.out.lt).trans B2.out; have e3 : Boxed W' (w.heap.size + 1 + 1 + 1) 4 (.bool false) := (hb'.block _ B3.out.lt).trans B3.out; have d2 := e2.cell; have d3 := e3.cell; have g2 := e2.frozen; have g3 := e3.frozen; have E2 := Lib.hid e2; have E3 := Lib.hid e3; clear e2 e3)
        refine ⟨(Rk.of_below (base := X1.heap.size) hb' HFS.out).keeps.trans (((KeepsOthers.setCell _ _ _).from _).trans ((KeepsOthers.setCell _ _ _).from _)), rfl, pre, x, rfl, HOK.out, HN.out, (E2.out.set _).other (by omega) _, (E3.out.other (by omega) _).set _, ((HBW2.out.trans (hb'.mono HBW2.out.size)).setCell (p := ⟨w.heap.size + 1 + 1, 0, none⟩) (by simp; omega) _).setCell (p := ⟨w.heap.size + 1 + 1 + 1, 0, none⟩) (by simp; omega) _⟩
    · have hci : ¬ (f : Int) ≤ (x.1 : Int) := by omega
      have hok : okAt (p ++ s) l f x.1 = false := by unfold okAt; simp [hc]
      have HOK := Lib.hid hok
      clear hok hc
      gi_wp2
      refine ⟨trivial, ?_⟩
      gi_wp2
      exact ⟨Rk.refl _ _ _, HI.out.step (Below.refl _ _) x HOK.out⟩
  case done =>
    rintro D ys fr W hD rfl ⟨⟨b0, b1, b2, b3, b4⟩, hBW, hn⟩ hK
    have hno : ∀ j, j < (p ++ s).length → okAt (p ++ s) l f j = false := fun j hj => by
      have := hn (j, (p ++ s)[j]) (List.mem_of_getElem? (ats_get hj))
      exact this
    have d2 := b2.cell
    have d3 := b3.cell
    have g2 := b2.frozen
    have g3 := b3.frozen
    have B2 := Lib.hid b2
    have B3 := Lib.hid b3
    have HBW2 := Lib.hid hBW
    have HNO := Lib.hid hno
    clear b0 b1 b2 b3 b4 hBW hn hno hown hb2 hG y5 hll hI
    go_wp2
    have e2 : Boxed ((W.setCell ⟨w.heap.size + 1 + 1, 0, none⟩ (.int .i64 0)).setCell ⟨w.heap.size + 1 + 1 + 1, 0, none⟩ (.bool false)) (w.heap.size + 1 + 1) 3 (.int .i64 0) := (B2.out.set _).other (by omega) _
    have e3 : Boxed ((W.setCell ⟨w.heap.size + 1 + 1, 0, none⟩ (.int .i64 0)).setCell ⟨w.heap.size + 1 + 1 + 1, 0, none⟩ (.bool false)) (w.heap.size + 1 + 1 + 1) 4 (.bool false) := (B3.out.other (by omega) _).set _
    have hK' := (KeepsOthers.setCell (W.setCell ⟨w.heap.size + 1 + 1, 0, none⟩ (.int .i64 0)) ⟨w.heap.size + 1 + 1 + 1, 0, none⟩ (.bool false)).same D _ ((KeepsOthers.setCell W ⟨w.heap.size + 1 + 1, 0, none⟩ (.int .i64 0)).same D _ hK rfl) rfl
    refine ⟨by simp, .inl ⟨_, _, rfl, run_takeDeferred hK', ?_⟩⟩
    have hc2 := cell_kept e2.cell (grownBy_putObj' _ D (.deferred none)) (fun r e => by cases e; exact ⟨_, hK', rfl⟩)
    have hc3 := cell_kept e3.cell (grownBy_putObj' _ D (.deferred none)) (fun r e => by cases e; exact ⟨_, hK', rfl⟩)
    refine ⟨.tuple #[.int .i64 0, .bool false], ?_, 0, false, rfl, .inr ⟨rfl, rfl, .inr HNO.out⟩, ((HBW2.out.setCell (p := ⟨w.heap.size + 1 + 1, 0, none⟩) (by simp; omega) _).setCell (p := ⟨w.heap.size + 1 + 1 + 1, 0, none⟩) (by simp; omega) _).trans (belowK_b (w := w) (Nat.le_refl _) _ D _ _ (by omega) hK' rfl rfl)⟩
    simp [results, Tryz.f24, go_sem, hc2, hc3]
  case stop =>
    rintro D c pre fr W hD hpre ⟨rfl, pre', x, rfl, hok, hn, b2, b3, hBW⟩ hK
    obtain ⟨tl, htl⟩ := hpre
    have hx : (ats (p ++ s))[pre'.length]? = some x := by rw [← htl, List.append_assoc, List.getElem?_append_right (Nat.le_refl _)]; simp
    have hxl : pre'.length < (p ++ s).length := by
      have := (List.getElem?_eq_some_iff.1 hx).1
      rwa [ats_length] at this
    have hxe : x = (pre'.length, (p ++ s)[pre'.length]) := by
      rw [ats_get hxl] at hx
      injection hx with hx
      exact hx.symm
    have hfr : FindR (p ++ s) l f (x.1 : Int) true := .inl ⟨rfl, HM0.out, x.1, rfl, by rw [hxe]; exact hxl, hok, fun j hj => by
      rw [hxe] at hj
      have hj' : j < pre'.length := hj
      have hjl : j < (p ++ s).length := by omega
      have hmem : (j, (p ++ s)[j]) ∈ pre' := by
        have h1 : (ats (p ++ s))[j]? = some (j, (p ++ s)[j]) := ats_get hjl
        rw [← htl, List.append_assoc, List.getElem?_append_left hj'] at h1
        exact List.mem_of_getElem? h1
      exact hn _ hmem⟩
    have HFR := Lib.hid hfr
    have d2 := b2.cell
    have d3 := b3.cell
    have HBW2 := Lib.hid hBW
    clear hfr hxe hx hxl htl hn hok hBW hown hb2 hG y5 hll hI
    gi_wp2
    refine ⟨by simp, .inl ⟨_, _, rfl, run_takeDeferred hK, ?_⟩⟩
    have hc2 := cell_kept d2 (grownBy_putObj' _ D (.deferred none)) (fun r e => by cases e; exact ⟨_, hK, rfl⟩)
    have hc3 := cell_kept d3 (grownBy_putObj' _ D (.deferred none)) (fun r e => by cases e; exact ⟨_, hK, rfl⟩)
    refine ⟨.tuple #[.int .i64 x.1, .bool true], ?_, x.1, true, rfl, HFR.out, HBW2.out.trans (belowK_b (w := w) (Nat.le_refl _) W D _ _ (by omega) hK rfl rfl)⟩
    simp [results, Tryz.f24, go_sem, hc2, hc3]
end Go.Proofs.YtjdfajgjejpfeaaGreatDoor
