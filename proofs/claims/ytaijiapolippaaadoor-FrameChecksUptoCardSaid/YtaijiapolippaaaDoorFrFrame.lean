/-
  Walks: a builder's Frame.
-/
import Derived.Test.YtaijiapolippaaaDoorFrNew
import Derived.Test.YtaijiapolippaaaDoorFrRows
import Derived.Test.YtaijiapolippaaaDoorRegT
import Derived.Test.YtaijiapolippaaaDoorGfF
import Derived.StillTail
import Derived.Deep.RegionHeld3
import Derived.Deep.DeepCutAuto
import Derived.BigRegion
import Derived.Outline
namespace Go.Proofs.YtaijiapolippaaaDoor
open Go.RowKit Go.Shelf
attribute [local go_sem] Oper.semAt_some
set_option linter.unusedVariables false
set_option linter.unusedSimpArgs false

/-- A frame's row of rows, which is not the iterator's. -/
def HoldF (fb base : Nat) (xs : List Value) (row col : Int) (sn : Bool) (f : Nat → Prop) (W : World) : Prop :=
  ∃ A n c, Blk W fb 74 [.slice A n c, .int .i64 row, .int .i64 col, .bool sn] ∧ OR W base 79 A n c xs ∧ ∀ g, blk A = some g → ¬ f g
/-- a row that was handed out, as a value -/
def rowOf (WW : Nat) (y : Nat × Option Addr × Nat) : Value := .slice y.2.1 WW y.2.2

theorem OR.blk_cells {w : World} {base n c : Nat} {e : TypeId} {A : Option Addr} {xs : List Value} (h : OR w base e A n c xs) {g : Nat} (hg : blk A = some g) : ∃ cur, Blk w g e cur := by
  obtain ⟨hl, ⟨hv, hn⟩ | ⟨q, cap, cur, hv, h1, h2, h3⟩⟩ := h.1
  · injection hv with hA; subst hA; cases hg
  · injection hv with hA; subst hA
    have : q = g := by simpa [blk] using hg
    subst this
    exact ⟨cur.toList, by unfold Blk; rw [Array.toArray_toList]; exact h2⟩
theorem blk_turn {b g : Nat} {f : Nat → Prop} {A B : World} {t : TypeId} {cs : List Value} (h : Blk A g t cs) (ht : Turn b f A B) (hk : g < b ∨ ¬ f g) : Blk B g t cs :=
  ht.block _ _ h (hk.imp id (fun h => ⟨h, rfl⟩))
theorem AbP.holdF {β : Type} {b fb base : Nat} {row col : Int} {sn : Bool} (xs : β → List Value) (h : fb < b) : AbP b (fun s f W => HoldF fb base (xs s) row col sn f W) := by
  rintro s f f' X Y ⟨A, n, c, hb, hr, hm⟩ ht hf
  refine ⟨A, n, c, blk_turn hb ht (.inl h), hr.turn ht hm, fun g hg hf' => ?_⟩
  rcases hf g hf' with h1 | h1
  · exact hm g hg h1
  · have := (hr.blk_lt g hg).2; omega
theorem RowB.turn {b base c : Nat} {f f' : Nat → Prop} {X Y : World} {A : Option Addr} {l : List Cl} (h : RowB X base f A c l) (ht : Turn b f X Y) (hf : ∀ k, f' k → f k ∨ (X.heap.size ≤ k ∧ k < Y.heap.size)) : RowB Y base f' A c l := by
  obtain ⟨g, cs, rfl, h1, h2, h3, h4, h5, h6⟩ := h
  refine ⟨g, cs, rfl, fun hg => ?_, h2, h3, h4, blk_turn h5 ht (.inr h1), h6⟩
  rcases hf g hg with k | k
  · exact h1 k
  · have := h5.lt; omega
theorem AbP.rows {b base : Nat} {L : List (List Cl)} : AbP b (fun (pre : List (Nat × Option Addr × Nat)) f W => ∀ y ∈ pre, elW L base y f W) := by
  rintro s f f' X Y hs ht hf y hy
  obtain ⟨l, h1, h2⟩ := hs y hy
  exact ⟨l, h1, h2.turn ht hf⟩
theorem RowB.chg {S : Nat → Prop} {base c : Nat} {f : Nat → Prop} {X Y : World} {A : Option Addr} {l : List Cl} (h : RowB X base f A c l) (hc : Chg S X Y) (hn : ∀ g cs, Blk X g 123 cs → base ≤ g → ¬ f g → ¬ S g) : RowB Y base f A c l := by
  obtain ⟨g, cs, rfl, h1, h2, h3, h4, h5, h6⟩ := h
  exact ⟨g, cs, rfl, h1, h2, h3, h4, h5.chg hc (hn g cs h5 h2 h1), h6⟩

/-- Behind an append and the store of what it gives into the frame. -/
theorem HoldF.appended {fb base : Nat} {xs ys : List Value} {row col : Int} {sn : Bool} {f : Nat → Prop} {W X w1 : World} {A A' : Option Addr} {n c n' c' : Nat} (hfs : ∀ k, f k → k < W.heap.size)
    (hwx : Below W.heap.size W X) (hb : Blk W fb 74 [.slice A n c, .int .i64 row, .int .i64 col, .bool sn]) (hr : OR W base 79 A n c xs) (hm : ∀ g, blk A = some g → ¬ f g) (hB : ¬ f fb)
    (hO : OR w1 base 79 A' n' c' ys) (hg : X.grownBy w1 (blk A)) (hat : ∀ g, blk A' = some g → blk A = some g ∨ X.heap.size ≤ g) (lo : Nat) :
    HoldF fb base ys row col sn f (w1.setCell ⟨fb, 0, none⟩ (.slice A' n' c')) ∧ Rk lo f W (w1.setCell ⟨fb, 0, none⟩ (.slice A' n' c')) ∧ Blk w1 fb 74 [.slice A n c, .int .i64 row, .int .i64 col, .bool sn] ∧
      Chg (fun k => k = fb ∨ blk A = some k) W (w1.setCell ⟨fb, 0, none⟩ (.slice A' n' c')) := by
  have hbX := hb.below hwx hb.lt
  have hrX : OR X base 79 A n c xs := hr.below hwx (fun g hg => (hr.blk_lt g hg).2)
  have hne : ∀ k, blk A = some k → k ≠ fb := fun k hk e => by
    obtain ⟨cur, hcur⟩ := hrX.blk_cells hk
    exact hcur.ne_ hbX (by decide) e
  have hb1 : Blk w1 fb 74 [.slice A n c, .int .i64 row, .int .i64 col, .bool sn] := hbX.chg (Chg.refl (fun k => blk A = some k) X |>.grown hg (fun k hk => .inl hk)) (fun e => hne fb e rfl)
  have hcells : ∀ j o, blk A = some j → X.heap[j]? = some o → o.isCells = true := by
    intro j o hj ho
    obtain ⟨cur, hcur⟩ := hrX.blk_cells hj
    rw [show X.heap[j]? = _ from hcur] at ho; cases ho; rfl
  have hne' : blk A' = none ∨ blk A' ≠ some fb := .inr (fun e => by
    obtain ⟨cur, hcur⟩ := hO.blk_cells e
    exact hcur.ne_ hb1 (by decide) rfl)
  refine ⟨⟨A', n', c', hb1.set_ 0 _, hO.kept (grownBy_setCell' _ _ _) hne', fun g hg' hf => ?_⟩, ?_, hb1, ?_⟩
  · rcases hat g hg' with h1 | h1
    · exact hm g h1 hf
    · have h2 := hfs g hf; have h3 := hwx.size; omega
  · exact ((Rk.of_below hwx hfs).grown hg hfs (fun k hk => ⟨hm k hk, fun o ho => hcells k o hk ho⟩)).setCell hB _
  · exact ((Chg.of_below hwx).grown hg (fun k hk => .inl (.inr hk))).setCell (p := ⟨fb, 0, none⟩) (.inl (.inl rfl)) _

theorem AbP.blk {β : Type} {b g : Nat} {t : TypeId} {cs : List Value} (h : g < b) : AbP b (fun (_ : β) _ W => Blk W g t cs) := fun s f f' A B hs ht hf => blk_turn hs ht (.inl h)
theorem OR.sldB {X : World} {base n c : Nat} {e : TypeId} {A : Option Addr} {xs : List Value} (h : OR X base e A n c xs) : SlD X (fun k => base ≤ k ∧ ∃ t cs, Blk X k t cs) A xs := by
  rcases h.1 with ⟨hl, ⟨hv, rfl⟩ | ⟨g, cap, cur, hv, hb, hh, hn, hc, hcur, ht⟩⟩
  · have : xs = [] := List.eq_nil_of_length_eq_zero (by simpa using hl)
    exact .inl this
  · injection hv with hA _ _
    subst hA
    refine .inr ⟨g, 0, rfl, (Array.getElem?_eq_some_iff.1 hh).1, ⟨hb, e, cur.toList, by unfold Blk; rw [Array.toArray_toList]; exact hh⟩, fun j u hu => ?_⟩
    rw [← ht, List.getElem?_take] at hu
    split at hu
    · simp [World.cell?, hh]
      simpa using hu
    · cases hu
/-- The rows that were handed out are the grid's. -/
theorem rf_of_rows {X : World} {base W A0 n c : Nat} {A : Option Addr} {L : List (List Cl)} {ys : List (Nat × Option Addr × Nat)} {f : Nat → Prop} (hr : OR X base 79 A n c (ys.map (rowOf W))) (hy : ∀ y ∈ ys, elW L A0 y f X)
    (hs : ys.map (·.1) = List.range L.length) (hw : ∀ (i : Nat) l, L[i]? = some l → l.length = W) : n = L.length ∧ RfAt X (fun k => (base ≤ k ∨ A0 ≤ k) ∧ ∃ t cs, Blk X k t cs) A c L := by
  have hyl : ys.length = L.length := by
    have : (ys.map (·.1)).length = (List.range L.length).length := by rw [hs]
    simpa using this
  have hn : n = L.length := by rw [hr.len, List.length_map, hyl]
  refine ⟨hn, hr.2, by rw [← hn]; exact own_cap hr.1, ys.map (rowOf W), hr.sldB.mono (fun b _ h => ⟨.inl h.1, h.2⟩), by rw [List.length_map, hyl], fun i v l hv hl => ?_⟩
  have hi : i < L.length := (List.getElem?_eq_some_iff.1 hl).1
  rw [List.getElem?_map] at hv
  have hyi : ys[i]? = some (ys[i]'(by omega)) := List.getElem?_eq_getElem _
  rw [hyi] at hv
  have hv' : rowOf W (ys[i]'(by omega)) = v := by simpa using hv
  have h1 : (ys[i]'(by omega)).1 = i := by
    have : (ys.map (·.1))[i]? = (List.range L.length)[i]? := by rw [hs]
    rw [List.getElem?_map, hyi, List.getElem?_range hi] at this
    simpa using this
  obtain ⟨l', q1, b, cs, q2, q3, q4, q5, q6, q7, q8⟩ := hy _ (List.getElem_mem (by omega : i < ys.length))
  rw [h1, hl] at q1
  injection q1 with q1
  subst q1
  refine ⟨some ⟨b, 0, none⟩, (ys[i]'(by omega)).2.2, ?_, ⟨fun e => (by cases e), q5⟩, sld_of_blk q7 q8 ⟨.inr q4, _, _, q7⟩⟩
  rw [← hv', hw i l hl]
  show Value.slice (ys[i]'(by omega)).2.1 W _ = _
  rw [q2]

set_option maxRecDepth 100000 in
set_option maxHeartbeats 4000000 in
theorem fframe_any {w : World} {lo b g rb W : Nat} {bs : List Nat} {L : List (List Cl)} {row col : Int} {sn : Bool} (h : BdAt w lo b g rb bs W L row col sn) (hT : BlankT w) :
    Calls Tryd.prog 74 #[.pointer (some ⟨b, 0, none⟩)] w fun e w' => ∃ A c, e = .returned (.agg #[.slice A L.length c, .int .i64 row, .int .i64 col, .bool sn]) ∧ RfAt w' (fun k => w.heap.size ≤ k) A c L ∧ Below w.heap.size w w' := by
  have hh := h.head
  have k0 := hh.cell 0
  have k1 := hh.cell 1
  have k2 := hh.cell 2
  have k3 := hh.cell 3
  have k4 := hh.cell 4
  simp only [bdC, List.getElem?_cons_zero, List.getElem?_cons_succ] at k0 k1 k2 k3 k4
  have H := Lib.hid h
  have HT := Lib.hid hT
  have hbl := hh.lt
  clear h hT hh
  refine (callsIn_wide (n := 9)).1 ?_
  refine callsIn_of_wp_marks Tryd.func74 rfl trivial ?_ rfl
  simp only [Tryd.ntmps74, List.size_toArray, List.length_cons, List.length_nil, Nat.reduceAdd, Nat.reduceSub, Array.replicate_succ, Array.replicate_zero, List.push_toArray, List.append_toArray, List.nil_append, List.cons_append]
  refine wpIn_wide.2 ?_
  go_wp2_with (go_at_call 113; refine (fmade_yes b _ (by first | exact H.out.ptr | exact (H.out.below ((Below.refl _ w).alloc (Nat.le_refl _) _)).ptr)).mono ?_; rintro e w' ⟨rfl, rfl⟩)
  have hx : ∀ o, ∀ j v, w.cell? ⟨b, j, none⟩ = some v → (w.alloc o).cell? ⟨b, j, none⟩ = some v := fun o j v hv => (World.cell?_alloc_lt w o ⟨b, j, none⟩ hbl).trans hv
  have c2 := hx (.cells #[.slice none 0 0, .int .i64 0, .int .i64 0, .bool false] 74) 2 _ k2
  have c3 := hx (.cells #[.slice none 0 0, .int .i64 0, .int .i64 0, .bool false] 74) 3 _ k3
  have c4 := hx (.cells #[.slice none 0 0, .int .i64 0, .int .i64 0, .bool false] 74) 4 _ k4
  obtain ⟨w0, hw0⟩ : ∃ w0, w0 = w.alloc (.cells #[.slice none 0 0, .int .i64 0, .int .i64 0, .bool false] 74) := ⟨_, rfl⟩
  rw [← hw0] at c2 c3 c4
  have hsz : w0.heap.size = w.heap.size + 1 := by rw [hw0]; simp
  have HR0 := Lib.hid (show Blk w0 w.heap.size 74 [.slice none 0 0, .int .i64 0, .int .i64 0, .bool false] by rw [hw0]; exact Blk.new w _ _)
  have HB0 := Lib.hid (show Below w.heap.size w w0 by rw [hw0]; exact (Below.refl _ w).alloc (Nat.le_refl _) _)
  have n2 := World.new_ne w0 _ c2
  have n3 := World.new_ne w0 _ c3
  have n4 := World.new_ne w0 _ c4
  rw [← hw0]
  have HSZ := Lib.hid hsz
  clear hx k0 k1 k2 k3 k4 hw0 hbl hsz
  go_region_held3 (fun w' => w'.cell? ⟨b, 2, none⟩ = some (.int .i64 row) ∧ w'.cell? ⟨b, 3, none⟩ = some (.int .i64 col) ∧ w'.cell? ⟨b, 4, none⟩ = some (.bool sn)) (go_keep) (fail)
  obtain ⟨w1, hw1⟩ : ∃ w1, w1 = (w0.alloc (.cells #[.slice none 0 0, .int .i64 row, .int .i64 col, .bool sn] 74)).drew := ⟨_, rfl⟩
  have hF1 : Blk w1 w0.heap.size 74 [.slice none 0 0, .int .i64 row, .int .i64 col, .bool sn] := by rw [hw1]; exact (Blk.new w0 _ _).drew
  have hb1 : Below w0.heap.size w0 w1 := by rw [hw1]; exact ((Below.refl _ w0).alloc (Nat.le_refl _) _).drew
  rw [← hw1]
  have hb01 := HB0.out.trans (hb1.mono HB0.out.size)
  have HF1 := Lib.hid hF1
  have HB1 := Lib.hid hb01
  have HR1 := Lib.hid (HR0.out.below hb1 HR0.out.lt)
  have HT1 := Lib.hid (HT.out.bel hb01)
  have HG1 := Lib.hid (H.out.below hb01)
  have hc1 := (H.out.below hb01).cells
  have hz1 : w1.heap.size = w.heap.size + 2 := by rw [hw1]; have := HSZ.out; simp; omega
  have hfb := HSZ.out
  obtain ⟨fb, hfbe⟩ : ∃ fb, fb = w0.heap.size := ⟨_, rfl⟩
  rw [← hfbe] at HF1 hfb ⊢
  have HFB := Lib.hid hfb
  have HZ1 := Lib.hid hz1
  clear hw1 hF1 hb1 hb01 c2 c3 c4 n2 n3 n4 HR0 HB0 hfbe hfb hz1 HSZ
  go_wp2_with (go_at_call 114; refine (rows_any HG1.out.grid HT1.out).mono ?_; rintro e w2 ⟨B, g2, rb2, bs2, rfl, hBx, hg2, hb2, hlB⟩)
  refine (wpIn_wide (n := 9)).1 ?_
  have HG2 := Lib.hid hg2
  have hz2 := hb2.size
  have hown : ∀ k, RwOwn B g2 rb2 bs2 k → w1.heap.size ≤ k ∧ k < w2.heap.size := fun k hk => by
    rcases hk with rfl | hk
    · exact ⟨hlB, hBx.lt⟩
    · exact ⟨hg2.lo k hk, hg2.own_lt k hk⟩
  have hL5 := hg2.h5
  have hwd : ∀ (i : Nat) l, L[i]? = some l → l.length = W := fun i l hl => (hg2.some_at hl).1
  have hr2 := HR1.out.below hb2 HR1.out.lt
  have hf2 := HF1.out.below hb2 HF1.out.lt
  have hb02 := HB1.out.trans (hb2.mono HB1.out.size)
  have hfb1 : w.heap.size < fb := by have := HFB.out; omega
  have hfb2 : fb + 1 ≤ w1.heap.size := by have := HFB.out; have := HZ1.out; omega
  have HWD := Lib.hid hwd
  have HOWN := Lib.hid hown
  refine range_f rfl (by omega) (gf := 153) (lb := #[.pointer (some ⟨B, 0, none⟩)]) rfl trivial (enters_of Tryd.func153 (by kernel_rfl) rfl)
    (rows_own w2 hBx hg2) (Nat.le_refl _) (fun k hk => ⟨(hown k hk).2, rfl⟩) (fun _ => rfl)
    (fun x f X l o o' hl ho hc hel => by
      obtain ⟨l1, q1, g, cs, q2, q3, q4, q5, q6, q7, q8⟩ := hel
      refine ⟨l1, q1, g, cs, q2, q3, q4, q5, q6, ?_, q8⟩
      refine (World.putObj_heap_other (fun e => ?_)).trans q7
      subst e
      rw [show X.heap[g]? = _ from q7] at ho
      cases ho
      cases hc)
    (fun pre f X => (HoldF fb (fb + 1) (pre.map (rowOf W)) row col sn f X ∧ (∀ y ∈ pre, elW L w2.heap.size y f X)) ∧ (Blk X w.heap.size 74 [.slice none 0 0, .int .i64 0, .int .i64 0, .bool false] ∧ Below w.heap.size w X))
    (fun _ _ _ _ => False)
    (AbP.and (AbP.and (AbP.holdF (fun (pre : List (Nat × Option Addr × Nat)) => pre.map (rowOf W)) (by omega)) AbP.rows) (AbP.and (AbP.blk (by omega)) (AbP.below (by omega) (Nat.le_refl _))))
    (fun _ => AbP.none _)
    ⟨⟨⟨none, 0, 0, hf2, OR.none_ _ _ _, fun g hg => by cases hg⟩, fun y hy => by cases hy⟩, hr2, hb02⟩
    (fun x => { tmps := #[.pointer (some ⟨b, 0, none⟩), undef, .pointer (some ⟨w.heap.size, 0, none⟩), .pointer (some ⟨fb, 0, none⟩), undef, .slice x.2.1 W x.2.2, .pointer (some ⟨b, 0, none⟩), .bool true, .bool false, undef, .pointer (some ⟨b, 0, none⟩),
      .pointer (some ⟨b, 0, none⟩), .pointer (some ⟨b, 1, none⟩), .pointer (some ⟨b, 2, none⟩), .int .i64 row, .pointer (some ⟨b, 0, none⟩), .pointer (some ⟨b, 0, none⟩), .pointer (some ⟨b, 1, none⟩), .pointer (some ⟨b, 3, none⟩),
      .int .i64 col, .pointer (some ⟨b, 0, none⟩), .pointer (some ⟨b, 0, none⟩), .pointer (some ⟨b, 1, none⟩), .pointer (some ⟨b, 4, none⟩), .bool sn, .agg #[.slice none 0 0, .int .i64 row, .int .i64 col, .bool sn],
      .pointer (some ⟨b, 0, none⟩), .pointer (some ⟨b, 0, none⟩), .pointer (some ⟨b, 1, none⟩), .pointer (some ⟨b, 1, none⟩), .pointer (some ⟨g, 0, none⟩), .func (.func 153) #[] #[.pointer (some ⟨B, 0, none⟩)],
      .int .i64 (x.1 : Int), .slice x.2.1 W x.2.2, undef, undef, undef, undef, undef, undef, undef], defers := [] }) ?assign ?body ?done ?stop
  case assign =>
    intro l x X K hK
    simp only [encW]
    rw [put_two]
    gi_wp2
    exact hK
  case body =>
    rintro l pre x f X hf hz ⟨⟨⟨A, n, c, hb, hr, hm⟩, hrows⟩, hrb, hbX⟩ hlen hel
    have hn : n = pre.length := by rw [hr.len, List.length_map]
    have hc := hb.cell 0
    have hfl := hb.frozen 0
    simp only [List.getElem?_cons_zero] at hc
    have hfs : ∀ k, f k → k < X.heap.size := fun k hk => by
      rcases hf k hk with h | h
      · have := (hown k h).2; omega
      · exact h.2
    have hnf : ¬ f fb := fun hk => by
      rcases hf fb hk with h | h
      · have := (hown fb h).1; omega
      · omega
    have hX := hbX.size
    obtain ⟨A5, c5, w5, hrun, hO5, hg5, hat5⟩ := run_app Tryd.underlying72 row_info rfl (by omega) (X.alloc (.cells #[.slice x.2.1 W x.2.2] 79)) 72 (fb + 1) A n c _ (hr.alloc _) (some ⟨X.heap.size, 0, none⟩) 1 1 [.slice x.2.1 W x.2.2] (X.heap.size + 1) (Sl.new X #[.slice x.2.1 W x.2.2] 79) rfl (fun e => by cases e) (by intro u hu; simp at hu; subst hu; rfl) (n + 1) rfl (by omega) (by simp; omega)
    obtain ⟨hH, hRk, hb5, hch⟩ := HoldF.appended (X := X.alloc (.cells #[.slice x.2.1 W x.2.2] 79)) hfs ((Below.refl _ _).alloc (Nat.le_refl _) _) hb hr hm hnf hO5 hg5 (blk_at hat5) w2.heap.size
    have hc5 := hb5.cell 0
    have hf5 := hb5.frozen 0
    simp only [List.getElem?_cons_zero] at hc5
    have hne : ∀ k cs, Blk X k 123 cs → ¬ (k = fb ∨ blk A = some k) := fun k cs hk e => by
      rcases e with rfl | e
      · exact hk.ne_ hb (by decide) rfl
      · obtain ⟨cur, hcur⟩ := hr.blk_cells e
        exact hk.ne_ hcur (by decide) rfl
    have hrn : ∀ y ∈ pre ++ [x], elW L w2.heap.size y f (w5.setCell ⟨fb, 0, none⟩ (.slice A5 (n + 1) c5)) := fun y hy => by
      have hel' : elW L w2.heap.size y f X := by
        rcases List.mem_append.1 hy with h | h
        · exact hrows y h
        · rw [List.mem_singleton.1 h]; exact hel
      obtain ⟨l1, q1, q2⟩ := hel'
      exact ⟨l1, q1, q2.chg hch (fun g cs h1 _ _ h2 => hne g cs h1 h2)⟩
    have hrb5 := hrb.chg hch (fun e => by
      rcases e with e | e
      · omega
      · have := (hr.blk_lt _ e).1; omega)
    have hbl5 := hbX.trans (hch.below hX (fun j e => by
      rcases e with rfl | e
      · omega
      · have := (hr.blk_lt _ e).1; omega))
    have HR := Lib.hid hrun
    have HH := Lib.hid hH
    have HN := Lib.hid hn
    have HRN := Lib.hid hrn
    have HRB := Lib.hid hrb5
    have HBL := Lib.hid hbl5
    clear hrun hH hn hO5 hg5 hat5 hb5 hr hm hrn hrb5 hbl5 hrb hbX hne hrows hch
    gi_wp2_with (gi_at_builtin; refine wpListIn_app 72 72 rfl (.tmp 35) (.tmp 37) rfl _ _ _ _ rfl rfl HR.out ?_)
    refine ⟨hRk, ⟨?_, HRN.out⟩, HRB.out, HBL.out⟩
    rw [List.map_append]
    exact HH.out
  case done =>
    rintro D ys f X hD hys ⟨⟨⟨A, n, c, hb, hr, hm⟩, hrows⟩, hrb, hbX⟩ hK
    obtain ⟨hn, hrf⟩ := rf_of_rows hr hrows hys HWD.out
    subst hn
    have HRF := Lib.hid hrf
    have HB := Lib.hid hb
    have HRB := Lib.hid hrb
    have HBX := Lib.hid hbX
    clear hr hm hrows hys hrf hb hrb hbX
    go_wp2_with (first
      | ((with_reducible refine at_dst 40 ?_); refine wpList_load_mid rfl _ _ rfl fb 0 rfl [.slice A L.length c, .int .i64 row, .int .i64 col, .bool sn] _ (HB.out.range 0 _ (fun j v hv => by simpa using hv)) Tryd.underlying74 rfl (by kernel_rfl) ?_)
      | ((with_reducible refine at_store 2 ?_); refine wpList_store_blk rfl _ _ _ rfl rfl w.heap.size 0 _ [.slice none 0 0, .int .i64 0, .int .i64 0, .bool false] [.slice A L.length c, .int .i64 row, .int .i64 col, .bool sn] rfl rfl HRB.out (by simp) (by kernel_rfl) (by intro v hv; simp at hv; rcases hv with rfl | rfl | rfl | rfl <;> rfl) ?_; intro w5 hn5 hg5))
    have hn6 : Blk w5 w.heap.size 74 [.slice A L.length c, .int .i64 row, .int .i64 col, .bool sn] := hn5
    have hDr : D ≠ w.heap.size := by omega
    have hDs : D < X.heap.size := (Array.getElem?_eq_some_iff.1 hK).1
    have hK5 : w5.heap[D]? = some (Obj.deferred (some [])) := (hg5.block D hDs (fun e => hDr (by first | exact Option.some.inj e | exact (Option.some.inj e).symm))).trans hK
    have hC2 : Chg (fun k => k = w.heap.size ∨ k = D) X (w5.putObj D (.deferred none)) :=
      ((Chg.refl (fun k => k = w.heap.size ∨ k = D) X).grown hg5 (fun k hk => by injection hk with hk; exact .inl (.inl hk.symm))).grown (grownBy_putObj' w5 D _) (fun k hk => by injection hk with hk; exact .inl (.inr hk.symm))
    have hn7 : Blk (w5.putObj D (.deferred none)) w.heap.size 74 [.slice A L.length c, .int .i64 row, .int .i64 col, .bool sn] := (World.putObj_heap_other (by omega)).trans hn6
    refine ⟨by simp, .inl ⟨_, _, rfl, run_takeDeferred hK5, ?_⟩⟩
    refine ⟨_, results_c rfl rfl (hn7.range 0 [.slice A L.length c, .int .i64 row, .int .i64 col, .bool sn] (fun j v hv => by simpa using hv)) Tryd.underlying74 rfl (by kernel_rfl), A, c, rfl, ?_, HBX.out.trans (hC2.below HBX.out.size (fun j hj => by rcases hj with hj | hj <;> omega))⟩
    have h1 := HRF.out.chg hC2 (fun k hk hD' hS => by
      obtain ⟨hge, t, cs, hblk⟩ := hD'
      rcases hS with rfl | rfl
      · omega
      · rw [show X.heap[k]? = _ from hblk] at hK; cases hK)
    exact h1.mono (fun k _ hk => by have := hk.1; omega)
  case stop =>
    rintro D c pre f X _ _ h _
    exact h.elim

set_option maxRecDepth 100000 in
set_option maxHeartbeats 1000000 in
theorem fframe_not {w : World} {p : Option Addr} (h : BdNo w p) :
    Calls Tryd.prog 74 #[.pointer p] w fun e w' => e = .returned (.agg #[.slice none 0 0, .int .i64 0, .int .i64 0, .bool false]) ∧ Below w.heap.size w w' := by
  have hb0 : Below w.heap.size w (w.alloc (.cells #[.slice none 0 0, .int .i64 0, .int .i64 0, .bool false] 74)) := (Below.refl _ w).alloc (Nat.le_refl _) _
  have H := Lib.hid (h.below hb0)
  have HB0 := Lib.hid hb0
  have HN0 := Lib.hid (Blk.new w 74 [.slice none 0 0, .int .i64 0, .int .i64 0, .bool false])
  clear h hb0
  go_enter Tryd.func74, Tryd.ntmps74
  go_wp2_with (first
    | (go_at_call 113; refine (fmade_not H.out).mono ?_; rintro e w' ⟨rfl, rfl⟩)
    | ((with_reducible refine at_store 2 ?_); refine wpList_store_blk rfl _ _ _ rfl rfl w.heap.size 0 _ [.slice none 0 0, .int .i64 0, .int .i64 0, .bool false] [.slice none 0 0, .int .i64 0, .int .i64 0, .bool false] rfl rfl HN0.out (by simp) (by kernel_rfl) (by intro v hv; simp at hv; rcases hv with rfl | rfl | rfl | rfl <;> rfl) ?_; intro w5 hn5 hg5))
  have hn6 : Blk w5 w.heap.size 74 [.slice none 0 0, .int .i64 0, .int .i64 0, .bool false] := hn5
  refine bodyPost_ret (results_c rfl rfl (hn6.range 0 [.slice none 0 0, .int .i64 0, .int .i64 0, .bool false] (fun j v hv => by simpa using hv)) Tryd.underlying74 rfl (by kernel_rfl)) rfl ⟨rfl, ?_⟩
  exact HB0.out.grown hg5 (by have := HB0.out.size; omega) (fun k hk => by injection hk with hk; omega)
end Go.Proofs.YtaijiapolippaaaDoor
