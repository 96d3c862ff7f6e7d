/-
  Walk: Add of a history.
-/
import Derived.Test.YtfjiogockpmogaaDoorHsTold
import Derived.Test.YtfjiogockpmogaaDoorRegT
import Derived.Sort.QuietIn
import Derived.Outline
import Derived.Deep.Cut
import Derived.Deep.CutBlock
namespace Go.Proofs.YtfjiogockpmogaaDoor
open Go.RowKit Go.Shelf Go.Sort
attribute [local go_sem] Oper.semAt_some
set_option linter.unusedVariables false
set_option linter.unusedSimpArgs false

/-- the lines with a new one ahead -/
def addL (most : Nat) (l : List UInt8) (L : List (List UInt8)) : List (List UInt8) := (l :: L.filter (fun x => !(x == l))).take most
theorem addL_nil {most : Nat} (hm : 1 ≤ most) (l : List UInt8) : addL most l [] = [l] := by
  unfold addL; obtain ⟨k, rfl⟩ : ∃ k, most = k + 1 := ⟨most - 1, by omega⟩; simp
theorem addL_same {most : Nat} (l : List UInt8) (L : List (List UInt8)) : addL most l (L ++ [l]) = addL most l L := by
  unfold addL; simp [List.filter_append]
theorem addL_full {most : Nat} {l : List UInt8} {L : List (List UInt8)} (x : List UInt8) (h : ¬ (addL most l L).length < most) : addL most l (L ++ [x]) = addL most l L := by
  unfold addL at *
  rw [List.length_take] at h
  rw [List.filter_append, ← List.cons_append, List.take_append_of_le_length (by omega)]
theorem addL_more {most : Nat} {l : List UInt8} {L : List (List UInt8)} {x : List UInt8} (hx : x ≠ l) (h : (addL most l L).length < most) : addL most l (L ++ [x]) = addL most l L ++ [x] := by
  unfold addL at *
  rw [List.length_take] at h
  have hf : [x].filter (fun y => !(y == l)) = [x] := by simp [List.filter_cons, hx]
  rw [List.filter_append, hf, ← List.cons_append, List.take_of_length_le (l := l :: L.filter _) (by omega), List.take_of_length_le (by simp at h ⊢; omega)]
theorem addL_le (most : Nat) (l : List UInt8) (L : List (List UInt8)) : (addL most l L).length ≤ most := by unfold addL; rw [List.length_take]; omega
theorem addL_ne {most : Nat} (hm : 1 ≤ most) (l : List UInt8) (L : List (List UInt8)) : addL most l L ≠ [] := by unfold addL; obtain ⟨k, rfl⟩ : ∃ k, most = k + 1 := ⟨most - 1, by omega⟩; simp
theorem addL_mem {most : Nat} {l x : List UInt8} {L : List (List UInt8)} (h : x ∈ addL most l L) : x = l ∨ x ∈ L := by
  unfold addL at h
  have := List.mem_of_mem_take h
  simp only [List.mem_cons, List.mem_filter] at this
  exact this.imp id (fun h => h.1)
/-- does Add change the lines? -/
def addB (l : List UInt8) (L : List (List UInt8)) : Bool := !(l == []) && !(L.head? == some l)

theorem grown_setO (W : World) (h j : Nat) (v : Value) : W.grownBy (W.setCell ⟨h, j, none⟩ v) (some h) :=
  ⟨rfl, rfl, rfl, by simp, fun k hk hn => Below.heap_setCell _ _ _ _ (fun e => hn (by
    have e' : k = h := e
    rw [e']))⟩
/-- f, and what lay up to n -/
def leB (f : Nat → Prop) (n : Nat) (k : Nat) : Prop := f k ∨ k ≤ n
theorem Turn.moreL {b n : Nat} {f : Nat → Prop} {A B : World} (ht : Turn b f A B) : Turn b (leB f n) A B :=
  ⟨ht.os, ht.tape, ht.output, ht.size, fun k o ho hk => ht.block k o ho (hk.imp id (fun q => ⟨fun c => q.1 (.inl c), q.2⟩))⟩
theorem Rk.lessL {b n : Nat} {f : Nat → Prop} {A B : World} (r : Rk b (leB f n) A B) : Rk b f A B := ⟨r.below, r.keeps, fun k hk => r.mine k (.inl hk)⟩
theorem AbP.holdL {β : Type} {b B base n : Nat} {T e : TypeId} (xs : β → List Value) (h : B < b) (hn : n < b) : AbP b (fun s f W => HoldP B T e base (xs s) (leB f n) W) := fun s f f' X Y q ht hf =>
  AbP.hold (b := b) (fun (_ : Unit) => xs s) h () (leB f n) (leB f' n) X Y q ht.moreL (fun k hk => hk.elim (fun c => (hf k c).imp .inl id) (fun c => .inl (.inr c)))

set_option maxRecDepth 100000 in
set_option maxHeartbeats 4000000 in
theorem hadd_not {w : World} {p : Option Addr} (h : HsNo w p) (s : ByteArray) :
    Calls Tryd.prog 23 #[.pointer p, .string s] w fun e w' => e = .returned (.bool false) ∧ Below w.heap.size w w' := by
  have hb : Below w.heap.size w (w.alloc (.cells #[.pointer p] 23)) := (Below.refl _ w).alloc (Nat.le_refl _) _
  have H := Lib.hid (h.below hb)
  clear h
  go_enter Tryd.func23, Tryd.ntmps23
  go_wp2_with (go_at_call 35; refine (hmade_not H.out).mono ?_; rintro e w' ⟨rfl, rfl⟩)
  go_ret
  exact ⟨rfl, hb⟩

/-- the tables lie ahead of lo -/
def TLo (lo : Nat) : Prop := 1 < lo ∧ 2 < lo
theorem Tabs.chgH {w w' : World} {lo h : Nat} (hT : Tabs w) (hl : TLo lo) (hh : lo ≤ h) (hc : Chg (one h) w w') : Tabs w' :=
  hT.same (hc.block _ hT.mg (by unfold one; have := hl.1; omega)) (hc.block _ hT.wg (by unfold one; have := hl.2; omega)) hc.size
theorem Boxed.chgH {w w' : World} {B : Nat} {t : TypeId} {v : Value} {S : Nat → Prop} (h : Boxed w B t v) (hc : Chg S w w') (hn : ¬ S B) : Boxed w' B t v := hc.heap h hn
theorem line0 (L : List (List UInt8)) : lineAt L 0 = (L.head?.getD [], L.head?.isSome) := by cases L <;> rfl

set_option maxRecDepth 100000 in
set_option maxHeartbeats 8000000 in
theorem hadd_no {w : World} {lo h c most : Nat} {A : Option Addr} {L : List (List UInt8)} {K : Option HW} (q : HsAt w lo h A c most L K) (s : ByteArray) (hs : s.size ≤ 1000) (hT : Tabs w) (hTl : TLo lo) (hno : addB (flatB s.data.toList) L = false) :
    Calls Tryd.prog 23 #[.pointer (some ⟨h, 0, none⟩), .string s] w fun e w' => e = .returned (.bool false) ∧ HsAt w' lo h A c most L none ∧ Chg (one h) w w' := by
  have hb : Below w.heap.size w (w.alloc (.cells #[.pointer (some ⟨h, 0, none⟩)] 23)) := (Below.refl _ w).alloc (Nat.le_refl _) _
  have hx := Boxed.new w 23 (.pointer (some ⟨h, 0, none⟩))
  have Q1 := Lib.hid (q.below hb)
  have c0 := (q.below hb).c0
  have HF := Lib.hid (hflat_any s hs)
  have HTT := Lib.hid (hT.below hb)
  have hhl := q.lo
  have hne : ¬ one h w.heap.size := by unfold one; have := q.head.lt; omega
  obtain ⟨l, hl⟩ : ∃ l, l = flatB s.data.toList := ⟨_, rfl⟩
  rw [← hl] at HF hno
  have HB := Lib.hid (Chg.of_below (S := one h) hb)
  have HX := Lib.hid hx
  have HNE := Lib.hid hne
  have hk2 := hx.cell
  have hl3 : l.length ≤ 3000 := by have := flatB_le3 s.data.toList; have : s.data.toList.length = s.size := rfl; rw [hl]; omega
  clear hT q hs hl hb hx hne
  have arms : l = [] ∨ (l ≠ [] ∧ L.head? = some l) := by
    unfold addB at hno
    by_cases he : l = []
    · exact .inl he
    · refine .inr ⟨he, ?_⟩
      simpa [he] using hno
  clear hno
  rcases arms with rfl | ⟨hne, hhd⟩
  · go_enter Tryd.func23, Tryd.ntmps23
    go_upto_region 1 with (fail)
    generalize w.alloc (.cells #[.pointer (some ⟨h, 0, none⟩)] 23) = w1 at *
    go_wp2_with (first
      | (go_at_call 35; refine (hmade_yes h _ c0).mono ?_; rintro e w' ⟨rfl, rfl⟩)
      | (go_at_call 29; refine (hleave_any Q1.out).mono ?_; rintro e w2 ⟨rfl, hq2, hc2⟩; have Q2 := Lib.hid hq2; have HC2 := Lib.hid hc2; have HX2 := Lib.hid (Boxed.chgH HX.out HC2.out HNE.out); have hk22 := Boxed.cell HX2.out; clear hq2 hc2)
      | (go_at_call 49; refine (HF.out w2 (HTT.out.chgH hTl hhl HC2.out)).mono ?_; rintro e w3 ⟨rfl, hb3⟩; have HB3 := Lib.hid hb3; have hk23 := ((HB3.out.cell (p := ⟨w.heap.size, 0, none⟩) (World.block_lt_of_cell? _ _ hk22)).trans hk22); have hlt3 := World.block_lt_of_cell? _ _ hk23; clear hb3)
      | (go_at_call 32; refine (hline_any ((Q2.out.below HB3.out).below ((Below.refl _ w3).alloc (Nat.le_refl _) _)) 0).mono ?_; rintro e w4 ⟨rfl, rfl⟩; rw [line0]))
    go_ret
    exact ⟨rfl, (Q2.out.below HB3.out).below ((Below.refl _ w3).alloc (Nat.le_refl _) _), ((HB.out.trans HC2.out (fun _ h => .inl h)).trans (Chg.of_below (S := one h) HB3.out) (fun _ h => .inl h)).alloc _⟩
  · have hq : l.isEmpty = false := by cases l with | nil => exact absurd rfl hne | cons a t => rfl
    have hv : (!(l == [])) = true := by cases l with | nil => exact absurd rfl hne | cons a t => rfl
    rw [hv] at HF
    have HHD := Lib.hid hhd
    clear hne hhd hv
    go_enter Tryd.func23, Tryd.ntmps23
    go_upto_region 1 with (fail)
    generalize w.alloc (.cells #[.pointer (some ⟨h, 0, none⟩)] 23) = w1 at *
    go_wp2_with (first
      | (go_at_call 35; refine (hmade_yes h _ c0).mono ?_; rintro e w' ⟨rfl, rfl⟩)
      | (go_at_call 29; refine (hleave_any Q1.out).mono ?_; rintro e w2 ⟨rfl, hq2, hc2⟩; have Q2 := Lib.hid hq2; have HC2 := Lib.hid hc2; have HX2 := Lib.hid (Boxed.chgH HX.out HC2.out HNE.out); have hk22 := Boxed.cell HX2.out; clear hq2 hc2)
      | (go_at_call 49; refine (HF.out w2 (HTT.out.chgH hTl hhl HC2.out)).mono ?_; rintro e w3 ⟨rfl, hb3⟩; have HB3 := Lib.hid hb3; have hk23 := ((HB3.out.cell (p := ⟨w.heap.size, 0, none⟩) (World.block_lt_of_cell? _ _ hk22)).trans hk22); have hlt3 := World.block_lt_of_cell? _ _ hk23; clear hb3)
      | (go_at_call 32; refine (hline_any ((Q2.out.below HB3.out).below ((Below.refl _ w3).alloc (Nat.le_refl _) _)) 0).mono ?_; rintro e w4 ⟨rfl, rfl⟩; rw [line0, HHD.out]))
    go_ret
    exact ⟨rfl, (Q2.out.below HB3.out).below ((Below.refl _ w3).alloc (Nat.le_refl _) _), ((HB.out.trans HC2.out (fun _ h => .inl h)).trans (Chg.of_below (S := one h) HB3.out) (fun _ h => .inl h)).alloc _⟩

theorem OR.litH (w : World) (base : Nat) (l : List (List UInt8)) (hb : base ≤ w.heap.size) (hl : l.length ≤ 1000000) : OR (w.alloc (.cells (sv l).toArray 9)) base 9 (some ⟨w.heap.size, 0, none⟩) l.length l.length (sv l) := by
  refine ⟨?_, fun h => by cases h⟩
  have := World.ownsRow_lit (base := base) (e := 9) (size := 1) w (sv l).toArray l.length hb (by simp only [maxLen]; omega) (by simp [sv])
  simpa using this
theorem OR.capH {w : World} {base n c : Nat} {e : TypeId} {A : Option Addr} {xs : List Value} (h : OR w base e A n c xs) : n ≤ c ∧ c ≤ maxLen := by
  rcases h.1.2 with ⟨hv, hz⟩ | ⟨g, cap, cur, hv, hbg, hg, hnc, hcm, hcs, htake⟩
  · injection hv with hA hn hc
    subst hA hc
    have hn0 : n = 0 := hz
    exact ⟨by omega, by simp [maxLen]⟩
  · injection hv with hA hn hc
    subst hA hc
    exact ⟨hnc, hcm⟩

set_option maxRecDepth 100000 in
set_option maxHeartbeats 16000000 in
theorem hadd_yesX {w : World} {lo h c most : Nat} {A : Option Addr} {L : List (List UInt8)} {K : Option HW} (q : HsAt w lo h A c most L K) (s : ByteArray) (hs : s.size ≤ 1000) (hT : Tabs w) (hTl : TLo lo) (hyes : addB (flatB s.data.toList) L = true) :
    Calls Tryd.prog 23 #[.pointer (some ⟨h, 0, none⟩), .string s] w fun e w' => ∃ A' c', e = .returned (.bool true) ∧ HsAt w' lo h A' c' most (addL most (flatB s.data.toList) L) none ∧ Chg (one h) w w' ∧ (∀ k, blk A' = some k → w.heap.size ≤ k) := by
  have hb : Below w.heap.size w (w.alloc (.cells #[.pointer (some ⟨h, 0, none⟩)] 23)) := (Below.refl _ w).alloc (Nat.le_refl _) _
  have hx := Boxed.new w 23 (.pointer (some ⟨h, 0, none⟩))
  have Q1 := Lib.hid (q.below hb)
  have c0 := (q.below hb).c0
  have HF := Lib.hid (hflat_any s hs)
  have HTT := Lib.hid (hT.below hb)
  have hhl := q.lo
  have hm1 := q.m1
  have hne : ¬ one h w.heap.size := by unfold one; have := q.head.lt; omega
  have hl3 : (flatB s.data.toList).length ≤ 3000 := by have := flatB_le3 s.data.toList; have : s.data.toList.length = s.size := rfl; omega
  obtain ⟨l, hl⟩ : ∃ l, l = flatB s.data.toList := ⟨_, rfl⟩
  rw [← hl] at HF hyes hl3 ⊢
  have HB := Lib.hid (Chg.of_below (S := one h) hb)
  have HX := Lib.hid hx
  have HNE := Lib.hid hne
  have hk2 := hx.cell
  clear hT q hs hl hb hx hne
  have hyes' : l ≠ [] ∧ L.head? ≠ some l := by
    unfold addB at hyes
    simp only [Bool.and_eq_true, Bool.not_eq_true', beq_eq_false_iff_ne] at hyes
    exact hyes
  obtain ⟨hne, hhd⟩ := hyes'
  have hq : l.isEmpty = false := by cases l with | nil => exact absurd rfl hne | cons a t => rfl
  have hv : (!(l == [])) = true := by cases l with | nil => exact absurd rfl hne | cons a t => rfl
  have hq3 : (l == L.head?.getD []) = false := by
    rw [beq_eq_false_iff_ne]
    cases hh : L.head? with
    | none => simpa using hne
    | some y => simp only [Option.getD_some]; intro e; exact hhd (by rw [hh, e])
  obtain ⟨fst, hfst⟩ : ∃ fst, fst = L.head?.getD [] := ⟨_, rfl⟩
  rw [← hfst] at hq3
  have HFST := Lib.hid hfst
  rw [hv] at HF
  have HNL := Lib.hid hne
  clear hyes hne hhd hv hfst
  refine (callsIn_wide (n := 9)).1 ?_
  refine callsIn_of_wp_marks Tryd.func23 rfl trivial ?_ rfl
  simp only [Tryd.ntmps23, List.size_toArray, List.length_cons, List.length_nil, Nat.reduceAdd, Nat.reduceSub, Array.replicate_succ, Array.replicate_zero, List.push_toArray, List.append_toArray, List.nil_append, List.cons_append]
  refine wpIn_wide.2 ?_
  go_upto_region 1 with (fail)
  generalize w.alloc (.cells #[.pointer (some ⟨h, 0, none⟩)] 23) = w1 at *
  go_wp2_with (first
    | (go_at_call 35; refine (hmade_yes h _ c0).mono ?_; rintro e w' ⟨rfl, rfl⟩)
    | (go_at_call 29; refine (hleave_any Q1.out).mono ?_; rintro e w2 ⟨rfl, hq2, hc2⟩; have Q2 := Lib.hid hq2; have HC2 := Lib.hid hc2; have HX2 := Lib.hid (Boxed.chgH HX.out HC2.out HNE.out); have hk22 := Boxed.cell HX2.out; clear hq2 hc2)
    | (go_at_call 49; refine (HF.out w2 (HTT.out.chgH hTl hhl HC2.out)).mono ?_; rintro e w3 ⟨rfl, hb3⟩; have HB3 := Lib.hid hb3; have hk23 := ((HB3.out.cell (p := ⟨w.heap.size, 0, none⟩) (World.block_lt_of_cell? _ _ hk22)).trans hk22); have hlt3 := World.block_lt_of_cell? _ _ hk23; have hlt4 := Nat.lt_succ_of_lt hlt3; have hlt5 := Nat.lt_succ_of_lt hlt4; simp only [Nat.succ_eq_add_one] at hlt4 hlt5; clear hb3)
    | (go_at_call 32; refine (hline_any ((Q2.out.below HB3.out).below ((Below.refl _ w3).alloc (Nat.le_refl _) _)) 0).mono ?_; rintro e w4 ⟨rfl, rfl⟩; rw [line0, ← HFST.out])
    | (go_at_call 36; refine (hall_any _ _).mono ?_; rintro e w' ⟨rfl, rfl⟩))
  refine (wpIn_wide (n := 9)).1 ?_
  have hq3' := Q2.out.below HB3.out
  obtain ⟨x5, hx5⟩ : ∃ x5, x5 = w3.heap.size := ⟨_, rfl⟩
  obtain ⟨u1, hu1⟩ : ∃ u1, u1 = w3.alloc (.cells #[.string ⟨l.toArray⟩] 9) := ⟨_, rfl⟩
  have hb1 : Below w3.heap.size w3 u1 := by rw [hu1]; exact (Below.refl _ w3).alloc (Nat.le_refl _) _
  have z5 := Boxed.new w3 9 (.string ⟨l.toArray⟩)
  have hs1 : u1.heap.size = x5 + 1 := by rw [hu1, hx5]; simp
  rw [← hu1, ← hx5] at z5
  obtain ⟨u2, hu2⟩ : ∃ u2, u2 = u1.alloc (.cells #[.string ⟨l.toArray⟩] 9) := ⟨_, rfl⟩
  have z6 := OR.litH u1 x5 [l] (by omega) (by simp)
  have z52 := z5.alloc (.cells #[.string ⟨l.toArray⟩] 9)
  have hs2 : u2.heap.size = x5 + 2 := by rw [hu2]; simp [hs1]
  have hb2 : Below w3.heap.size w3 u2 := by rw [hu2]; exact hb1.alloc (by omega) _
  simp only [sv, List.map_cons, List.map_nil, List.length_cons, List.length_nil] at z6
  rw [← hu2] at z6 z52
  rw [hs1] at z6
  obtain ⟨u3, hu3⟩ : ∃ u3, u3 = u2.alloc (.cells #[.slice (some ⟨x5 + 1, 0, none⟩) 1 1] 27) := ⟨_, rfl⟩
  have z7 := Boxed.new u2 27 (.slice (some ⟨x5 + 1, 0, none⟩) 1 1)
  have z63 := z6.alloc (.cells #[.slice (some ⟨x5 + 1, 0, none⟩) 1 1] 27)
  have z53 := z52.alloc (.cells #[.slice (some ⟨x5 + 1, 0, none⟩) 1 1] 27)
  have hs3 : u3.heap.size = x5 + 3 := by rw [hu3]; simp [hs2]
  have hb3 : Below w3.heap.size w3 u3 := by rw [hu3]; exact hb2.alloc (by omega) _
  rw [← hu3] at z7 z63 z53
  rw [hs2, show x5 + 2 = x5 + 1 + 1 from rfl] at z7
  obtain ⟨u4, hu4⟩ : ∃ u4, u4 = u3.alloc (.cells #[.pointer (some ⟨h, 0, none⟩)] 23) := ⟨_, rfl⟩
  have z8 := Boxed.new u3 23 (.pointer (some ⟨h, 0, none⟩))
  have z74 := z7.alloc (.cells #[.pointer (some ⟨h, 0, none⟩)] 23)
  have z64 := z63.alloc (.cells #[.pointer (some ⟨h, 0, none⟩)] 23)
  have z54 := z53.alloc (.cells #[.pointer (some ⟨h, 0, none⟩)] 23)
  have hs4 : u4.heap.size = x5 + 4 := by rw [hu4]; simp [hs3]
  have hb4 : Below w3.heap.size w3 u4 := by rw [hu4]; exact hb3.alloc (by omega) _
  rw [← hu4] at z8 z74 z64 z54
  rw [hs3] at z8
  have z9 := Boxed.new u4 3 (.int .i64 0)
  have z85 := z8.alloc (.cells #[.int .i64 0] 3)
  have z75 := z74.alloc (.cells #[.int .i64 0] 3)
  have z65 := z64.alloc (.cells #[.int .i64 0] 3)
  have z55 := z54.alloc (.cells #[.int .i64 0] 3)
  have hsz : (u4.alloc (.cells #[.int .i64 0] 3)).heap.size = x5 + 5 := by simp [hs4]
  have hbX : Below w3.heap.size w3 (u4.alloc (.cells #[.int .i64 0] 3)) := hb4.alloc (by omega) _
  rw [hs4] at z9
  rw [hu4, hu3, hu2, hu1] at z9 z85 z75 z65 z55 hsz hbX
  clear z5 z6 z52 z7 z63 z53 z8 z74 z64 z54 hs1 hs2 hs3 hs4 hb1 hb2 hb3 hb4 hu1 hu2 hu3 hu4 u1 u2 u3 u4
  rw [← hx5]
  generalize hX1 : ((((w3.alloc (.cells #[.string ⟨l.toArray⟩] 9)).alloc (.cells #[.string ⟨l.toArray⟩] 9)).alloc (.cells #[.slice (some ⟨x5 + 1, 0, none⟩) 1 1] 27)).alloc (.cells #[.pointer (some ⟨h, 0, none⟩)] 23)).alloc (.cells #[.int .i64 0] 3) = X1 at *
  clear hX1
  have hqX := hq3'.below hbX
  have hl4 := hqX.len4
  have HQX := Lib.hid hqX
  have z2 : Boxed X1 w.heap.size 23 (.pointer (some ⟨h, 0, none⟩)) := (hbX.block _ hlt3).trans ((HB3.out.block _ (by have := (Array.getElem?_eq_some_iff.1 HX2.out).1; omega)).trans HX2.out)
  have hown : ∀ k, HsAt.Own h A none k → k < x5 := fun k hk => by rw [hx5]; exact (hq3'.own_lt k hk).2
  have hXs : x5 + 1 ≤ X1.heap.size := by omega
  have hXs5 : x5 + 5 ≤ X1.heap.size := by omega
  have hsub : w.heap.size < x5 := by omega
  have HX5 := Lib.hid hx5
  have HSZ := Lib.hid hsz
  clear hx5 hsz
  refine range_priv rfl (by omega) (gf := 54) (lb := #[.pointer (some ⟨x5 + 3, 0, none⟩), .pointer (some ⟨x5 + 4, 0, none⟩)]) rfl trivial (enters_of Tryd.func54 (by kernel_rfl) rfl)
    (hfrom_stops hqX (x5 + 3) (x5 + 4) 0 (by omega) z85 z9 (fun k => HsAt.Own h A none k ∨ k = x5 + 3 ∨ k = x5 + 4) (.inr (.inl rfl)) (.inr (.inr rfl)) (fun k hk => .inl hk) 6)
    (Nat.le_refl _) (fun k hk => ⟨by rcases hk with hk | hk | hk
                                     · have := hown k hk; omega
                                     · omega
                                     · omega, rfl⟩) (fun _ => rfl)
    (fun pre f W => HoldP (x5 + 1 + 1) 27 9 x5 (sv (addL most l (txh pre))) (leB f x5) W ∧ Below (x5 + 1) X1 W)
    (fun _ _ _ _ => False)
    (AbP.and (AbP.holdL (fun pre => sv (addL most l (txh pre))) (by omega) (by omega)) (AbP.below (by omega) hXs))
    (fun _ => AbP.none _)
    ⟨⟨some ⟨x5 + 1, 0, none⟩, 1, 1, z75, by rw [show txh ([] : List (Nat × List UInt8)) = [] from rfl, addL_nil hm1]; exact z65, fun g hg => by
      have : x5 + 1 = g := by simpa [blk] using hg
      subst this
      rintro ((hk | hk | hk) | hk)
      · have := hown _ hk; omega
      · omega
      · omega
      · omega⟩, Below.refl _ _⟩
    ?a1 ?assign ?body ?done ?stop
  case assign =>
    intro l x W K hK
    simp only [encH]
    rw [put_two]
    gi_wp2
    exact hK
  case body =>
    rintro lo' pre x f W hff hz ⟨hH, hbW⟩ hlen hel
    obtain ⟨A9, n9, c9, hb, hr, hm⟩ := hH
    have hfs : ∀ k, f k → k < W.heap.size := fun k hk => by
      rcases hff k hk with hk | hk
      · have hbs := hbW.size
        rcases hk with hk | hk | hk
        · have := hown k hk; omega
        · omega
        · omega
      · exact hk.2
    have hfsL : ∀ k, leB f x5 k → k < W.heap.size := fun k hk => hk.elim (hfs k) (fun hk => by have := hbW.size; omega)
    have hnB : ¬ leB f x5 (x5 + 1 + 1) := by
      rintro (hk | hk)
      · rcases hff _ hk with hk | hk
        · rcases hk with hk | hk | hk
          · have := hown _ hk; omega
          · omega
          · omega
        · omega
      · omega
    have k2 : W.cell? ⟨w.heap.size, 0, none⟩ = some (.pointer (some ⟨h, 0, none⟩)) := (hbW.cell (p := ⟨w.heap.size, 0, none⟩) (by simp; omega)).trans z2.cell
    have k5 : W.cell? ⟨x5, 0, none⟩ = some (.string ⟨l.toArray⟩) := (hbW.cell (p := ⟨x5, 0, none⟩) (by simp)).trans z55.cell
    have kh : W.cell? ⟨h, 1, none⟩ = some (.int .i64 most) := (hbW.cell (p := ⟨h, 1, none⟩) (by have := hown h (.inl rfl); simp; omega)).trans HQX.out.c1
    have k9 := hb.cell
    have hn : n9 = (addL most l (txh pre)).length := by rw [hr.len, sv_length]
    have hle := addL_le most l (txh pre)
    by_cases he : x.2 = l
    · have hq2 : (x.2 == l) = true := by simpa using he
      have HFIN : Hid (∀ W', Below W.heap.size W W' → Rk X1.heap.size f W W' ∧ HoldP (x5 + 1 + 1) 27 9 x5 (sv (addL most l (txh (pre ++ [x])))) (leB f x5) W' ∧ Below (x5 + 1) X1 W') := Lib.hid (fun W' hW' => ⟨Rk.of_below hW' hfs, ⟨A9, n9, c9, (hW'.block _ hb.lt).trans hb, by rw [txh_snoc, he, addL_same]; exact hr.below hW' (fun g hg => (hr.blk_lt g hg).2), hm⟩, hbW.trans (hW'.mono (by have := hbW.size; omega))⟩)
      clear hb hr hm hbW hff hfs hfsL hnB hn hle he
      have r2 := cell_regrown k2
      have r5 := cell_regrown k5
      have r9 := cell_regrown k9
      have rh := cell_regrown kh
      gi_wp2
      refine wpIn_region_below_tail 11 (by kernel_rfl) (by kernel_rfl) (by kernel_rfl) ?_
      simp only [List.take_succ_cons, List.take_zero, List.drop_succ_cons, List.drop_zero]
      repeat (gi_big_quiet_step (fail))
      refine wpQuietIn_nil ?_
      intro _ hw'
      obtain ⟨⟨dq, osq⟩, hw''⟩ := hw'
      subst hw''
      gi_wp2
      have hfin := HFIN.out _ (below_regrown W dq osq)
      exact ⟨hfin.1, hfin.2.1, hfin.2.2⟩
    have hq2 : (x.2 == l) = false := by simpa using he
    by_cases hfull : (addL most l (txh pre)).length < most
    · have hni : (n9 : Int) < (most : Int) := by omega
      have hm4 : most ≤ 256 := HQX.out.m4
      have HBW := Lib.hid hbW
      have HBX := Lib.hid hb
      have HR := Lib.hid hr
      have HM := Lib.hid hm
      have HFS := Lib.hid hfs
      have HFL := Lib.hid hfsL
      have HNB := Lib.hid hnB
      have HN := Lib.hid hn
      have HADD := Lib.hid (addL_more he hfull)
      have hn9 : n9 ≤ 256 := by omega
      clear hb hr hm hbW hff hfs hfsL hnB hn hle he hfull
      have r2 := cell_regrown k2
      have r5 := cell_regrown k5
      have r9 := cell_regrown k9
      have rh := cell_regrown kh
      gi_wp2
      refine wpIn_region_below_tail 11 (by kernel_rfl) (by kernel_rfl) (by kernel_rfl) ?_
      simp only [List.take_succ_cons, List.take_zero, List.drop_succ_cons, List.drop_zero]
      repeat (gi_big_quiet_step (fail))
      refine wpQuietIn_nil ?_
      intro _ hw'
      obtain ⟨⟨dq, osq⟩, hw''⟩ := hw'
      subst hw''
      have hbq := below_regrown W dq osq
      have HBQ := Lib.hid hbq
      clear r2 r5 r9 rh hbq k2 k5 k9 kh
      obtain ⟨W2, hW2⟩ : ∃ W2, W2 = grow (redrawn W dq) osq := ⟨_, rfl⟩
      rw [← hW2] at HBQ ⊢
      clear hW2
      have hb2 : Boxed W2 (x5 + 1 + 1) 27 (.slice A9 n9 c9) := (HBQ.out.block _ (by exact Boxed.lt HBX.out)).trans HBX.out
      have hr2 : OR W2 x5 9 A9 n9 c9 (sv (addL most l (txh pre))) := HR.out.below HBQ.out (fun g hg => (HR.out.blk_lt g hg).2)
      have hbW2 : Below (x5 + 1) X1 W2 := HBW.out.trans (HBQ.out.mono (by have := HBW.out.size; omega))
      have hsz2 : W.heap.size ≤ W2.heap.size := HBQ.out.size
      have k9 := hb2.cell
      have e9 := hb2.frozen
      obtain ⟨A4, c4, w7, hrun4, hO7, hg7, hat7⟩ := run_app Tryd.underlying27 str_info rfl (by omega) (W2.alloc (.cells #[.string ⟨x.2.toArray⟩] 9)) 27 x5 A9 n9 c9 _ (hr2.alloc _) (some ⟨W2.heap.size, 0, none⟩) 1 1 [.string ⟨x.2.toArray⟩] (W2.heap.size + 1) (Sl.new W2 #[.string ⟨x.2.toArray⟩] 9) rfl (fun e => by cases e) (by intro u hu; simp at hu; subst hu; rfl) (n9 + 1) rfl (by omega) (by have := hbW2.size; simp; omega)
      have hwx2 : Below W2.heap.size W2 (W2.alloc (.cells #[.string ⟨x.2.toArray⟩] 9)) := (Below.refl _ _).alloc (Nat.le_refl _) _
      obtain ⟨hH3, hRk3, hbo3, hbe3⟩ := HoldP.appended (X := W2.alloc (.cells #[.string ⟨x.2.toArray⟩] 9)) (by decide) (by omega) (fun k hk => Nat.lt_of_lt_of_le (HFL.out k hk) hsz2) hwx2 hb2 hr2 HM.out HNB.out hO7 hg7 (blk_at hat7) X1.heap.size
      have e3 := hbo3.cell
      have e4 := hbo3.frozen
      have hkeep : Below (x5 + 1) X1 (w7.setCell ⟨x5 + 1 + 1, 0, none⟩ (.slice A4 (n9 + 1) c4)) := by
        refine ⟨hRk3.below.os.trans hbW2.os, hRk3.below.tape.trans hbW2.tape, hRk3.below.output.trans hbW2.output, Nat.le_trans hbW2.size hRk3.below.size, fun k hk => (hRk3.mine k (.inr (by omega))).trans (hbW2.block k hk)⟩
      have FIN := Lib.hid (show Rk X1.heap.size f W (w7.setCell ⟨x5 + 1 + 1, 0, none⟩ (.slice A4 (n9 + 1) c4)) ∧ HoldP (x5 + 1 + 1) 27 9 x5 (sv (addL most l (txh (pre ++ [x])))) (leB f x5) (w7.setCell ⟨x5 + 1 + 1, 0, none⟩ (.slice A4 (n9 + 1) c4)) ∧ Below (x5 + 1) X1 (w7.setCell ⟨x5 + 1 + 1, 0, none⟩ (.slice A4 (n9 + 1) c4)) from
        ⟨(Rk.of_below HBQ.out HFS.out).trans hRk3.lessL, by rw [txh_snoc, HADD.out]; rw [show sv (addL most l (txh pre) ++ [x.2]) = sv (addL most l (txh pre)) ++ [.string ⟨x.2.toArray⟩] from sv_snoc _ _]; exact hH3, hkeep⟩)
      have HR4 := Lib.hid hrun4
      clear hrun4 hb2 hr2 hbW2 hsz2 hO7 hg7 hat7 hwx2 hH3 hRk3 hbo3 hkeep
      gi_wp2_with ((with_reducible refine at_dstH 55 ?_); refine wpListIn_app 27 27 rfl (.tmp 52) (.tmp 54) rfl _ _ _ _ rfl rfl HR4.out ?_)
      have hfin := FIN.out
      exact ⟨hfin.1, hfin.2.1, hfin.2.2⟩
    · have hni : ¬ (n9 : Int) < (most : Int) := by omega
      have HFIN : Hid (∀ W', Below W.heap.size W W' → Rk X1.heap.size f W W' ∧ HoldP (x5 + 1 + 1) 27 9 x5 (sv (addL most l (txh (pre ++ [x])))) (leB f x5) W' ∧ Below (x5 + 1) X1 W') := Lib.hid (fun W' hW' => ⟨Rk.of_below hW' hfs, ⟨A9, n9, c9, (hW'.block _ hb.lt).trans hb, by rw [txh_snoc, addL_full _ hfull]; exact hr.below hW' (fun g hg => (hr.blk_lt g hg).2), hm⟩, hbW.trans (hW'.mono (by have := hbW.size; omega))⟩)
      clear hb hr hm hbW hff hfs hfsL hnB hn hle he hfull
      have r2 := cell_regrown k2
      have r5 := cell_regrown k5
      have r9 := cell_regrown k9
      have rh := cell_regrown kh
      gi_wp2
      refine wpIn_region_below_tail 11 (by kernel_rfl) (by kernel_rfl) (by kernel_rfl) ?_
      simp only [List.take_succ_cons, List.take_zero, List.drop_succ_cons, List.drop_zero]
      repeat (gi_big_quiet_step (fail))
      refine wpQuietIn_nil ?_
      intro _ hw'
      obtain ⟨⟨dq, osq⟩, hw''⟩ := hw'
      subst hw''
      gi_wp2
      have hfin := HFIN.out _ (below_regrown W dq osq)
      exact ⟨hfin.1, hfin.2.1, hfin.2.2⟩
  case done =>
    rintro D ys f W hD hys ⟨hH, hbW⟩ hK
    have htx : txh ys = L := by rw [hys, List.drop_zero]; exact txh_hats L
    rw [htx] at hH
    obtain ⟨A9, n9, c9, hb, hr, hm⟩ := hH
    have hn : n9 = (addL most l L).length := by rw [hr.len, sv_length]
    have hqW : HsAt W lo h A c most L none := HQX.out.same (by have := hbW.size; omega) (fun k hk => hbW.block k (by have := hown k hk; omega))
    have k2 : W.cell? ⟨w.heap.size, 0, none⟩ = some (.pointer (some ⟨h, 0, none⟩)) := (hbW.cell (p := ⟨w.heap.size, 0, none⟩) (by simp; omega)).trans z2.cell
    have k9 := hb.cell
    have kh := hqW.c2
    have ef := hqW.head.frozen 2
    have HQW := Lib.hid hqW
    have HBW := Lib.hid hbW
    have HR := Lib.hid hr
    have HM := Lib.hid hm
    have HN := Lib.hid hn
    have HH5 := Lib.hid (hown h (.inl rfl))
    clear hys htx hb hr hm hn hqW hbW
    go_wp2
    have hK' := (KeepsOthers.setCell W ⟨h, 2, none⟩ (.slice A9 n9 c9)).same D _ hK rfl
    refine ⟨by simp, .inl ⟨_, _, rfl, run_takeDeferred hK', ?_⟩⟩
    have hx5 := HX5.out
    have hhW : h < W.heap.size := HQW.out.head.lt
    have hneh : blk A9 = none ∨ blk A9 ≠ some h := .inr (fun e => HM.out h e (.inr (by have := HH5.out; omega)))
    have hr3 : OR (W.setCell ⟨h, 2, none⟩ (.slice A9 n9 c9)) x5 9 A9 n9 c9 (sv (addL most l L)) := HR.out.kept (grown_setO W h 2 _) hneh
    have hchg : Chg (one h) W (W.setCell ⟨h, 2, none⟩ (.slice A9 n9 c9)) := (Chg.refl (one h) W).setCell (p := ⟨h, 2, none⟩) (.inl rfl) _
    have hhd := HQW.out.head.set_ 2 (.slice A9 n9 c9)
    have hq9 : HsAt (W.setCell ⟨h, 2, none⟩ (.slice A9 n9 c9)) lo h A9 c9 most (addL most l L) none := by
      refine ⟨by rw [← HN.out]; exact hhd, hr3.sl, fun g hg => ?_, ?_, (fun k hk => by cases hk), addL_le _ _ _, HQW.out.m1, HQW.out.m4, HQW.out.lo, fun y hy => ?_, fun e => absurd e (addL_ne HQW.out.m1 _ _)⟩
      · have h1 := hr3.blk_lt g hg
        have h2 := HH5.out
        exact ⟨by omega, by omega, h1.2⟩
      · have h1 := hr3.capH
        exact ⟨by rw [← HN.out]; exact h1.1, h1.2, HR.out.2⟩
      · rcases addL_mem hy with rfl | hy
        · exact ⟨HNL.out, by omega⟩
        · exact HQW.out.ok y hy
    have hneD : ∀ (k : Nat) (o : Obj), (W.setCell ⟨h, 2, none⟩ (.slice A9 n9 c9)).heap[k]? = some o → o.isCells = true → k ≠ D := fun k o ho hc e => by
      subst e; rw [hK'] at ho; cases ho; cases hc
    refine ⟨_, results_tmp rfl _ _ _, A9, c9, rfl, hq9.same (by simp) (fun k hk => World.putObj_heap_other ?_), ?_, fun g hg => ?_⟩
    · rcases hk with rfl | hk | ⟨p, hp, _⟩
      · exact fun e => hneD _ _ hq9.head rfl e
      · obtain ⟨_, ⟨hv, hz⟩ | ⟨g, cap, cur, hv, hbg, hg, _⟩⟩ := hr3.1
        · injection hv with hA; subst hA; cases hk
        · injection hv with hA; subst hA
          have : g = k := by simpa [blk] using hk
          subst this
          exact fun e => hneD _ _ hg rfl e
      · cases hp
    · have hb3W : Below w3.heap.size w3 W := hbX.trans (HBW.out.mono (by omega))
      have h1 : Chg (one h) w W := ((HB.out.trans HC2.out (fun _ h => .inl h)).trans (Chg.of_below (S := one h) HB3.out) (fun _ h => .inl h)).trans (Chg.of_below (S := one h) hb3W) (fun _ h => .inl h)
      exact (h1.trans hchg (fun _ h => .inl h)).grown (grownBy_putObj' _ D _) (fun k e => by cases e; exact .inr (by omega))
    · have h1 := (hr3.blk_lt g hg).1
      have h2 := HB.out.size
      have h3 := HC2.out.size
      have h4 := HB3.out.size
      omega
  case stop =>
    rintro D c pre f W _ _ hx _
    exact hx.elim
theorem hadd_yes {w : World} {lo h c most : Nat} {A : Option Addr} {L : List (List UInt8)} {K : Option HW} (q : HsAt w lo h A c most L K) (s : ByteArray) (hs : s.size ≤ 1000) (hT : Tabs w) (hTl : TLo lo) (hyes : addB (flatB s.data.toList) L = true) :
    Calls Tryd.prog 23 #[.pointer (some ⟨h, 0, none⟩), .string s] w fun e w' => ∃ A' c', e = .returned (.bool true) ∧ HsAt w' lo h A' c' most (addL most (flatB s.data.toList) L) none ∧ Chg (one h) w w' :=
  (hadd_yesX q s hs hT hTl hyes).mono (by rintro e w' ⟨A', c', h1, h2, h3, _⟩; exact ⟨A', c', h1, h2, h3⟩)
end Go.Proofs.YtfjiogockpmogaaDoor
