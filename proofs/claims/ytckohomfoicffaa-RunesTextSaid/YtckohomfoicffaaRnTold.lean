/-
  Walks: placardlaw01.told: the runes that come before the round that breaks, and their places.
-/
import Derived.Test.YtckohomfoicffaaRnAll
import Derived.Test.YtckohomfoicffaaRnRunes
import Derived.Test.YtckohomfoicffaaRnTwo
import Derived.WalkSpells
import Derived.Deep.QuietTactic
import Derived.BigQuiet
import Derived.WalkSmall
namespace Go.Proofs.Ytckohomfoicffaa
open Go.RowKit Go.Shelf
attribute [local go_sem] Oper.semAt_some
set_option linter.unusedVariables false

theorem ownsRow_drewN {w : World} {base : Nat} {e : TypeId} {size : Nat} {v : Value} {n : Nat} {xs : List Value} (h : w.ownsRow base e size v n xs) (k : Nat) : (w.drewN k).ownsRow base e size v n xs := by
  unfold World.ownsRow at *
  rw [World.heap_drewN]
  exact h
def SlN (v : Value) (k : Nat) : Prop := ∃ A c, v = .slice A k c ∧ (A = none → c = 0)
theorem rv_snoc (xs : List (Nat × Int)) (x : Nat × Int) : rv (xs ++ [x]) = rv xs ++ [.int .i32 x.2] := by simp [rv]
theorem av_snoc (xs : List (Nat × Int)) (x : Nat × Int) : av (xs ++ [x]) = av xs ++ [.int .i64 x.1] := by simp [av]

set_option maxRecDepth 100000 in
set_option maxHeartbeats 2000000 in
theorem told_any (s : ByteArray) (hs : s.size ≤ 1000) (most : Nat) (hm : most ≤ 1000000) (w : World) :
    Calls Try.prog 6 #[.string s, .int .i64 most] w fun e w' => ∃ A1 c1 A2 c2, e = .returned (.tuple #[.slice A1 ((rnsOf s.data.toList).take most).length c1, .slice A2 ((rnsOf s.data.toList).take most).length c2]) ∧
      Sl w' w'.heap.size A1 (rv ((rnsOf s.data.toList).take most)) ∧ Sl w' w'.heap.size A2 (av ((rnsOf s.data.toList).take most)) ∧ Below w.heap.size w w' := by
  have hnf : ∀ (v : Value) w, Sem.run Try.prog (binOp .eql 38 (.func (.func 22) #[] #[v]) .nilFunc) w = .ok (.bool false) w := fun _ _ => by kernel_rfl
  refine (callsIn_wide (n := 5)).1 ?_
  refine callsIn_of_wp_marks Try.func6 rfl trivial ?_ rfl
  simp only [Try.ntmps6, List.size_toArray, List.length_cons, List.length_nil, Nat.reduceAdd, Nat.reduceSub, Array.replicate_succ, Array.replicate_zero, List.push_toArray, List.append_toArray, List.nil_append, List.cons_append]
  refine wpIn_wide.2 ?_
  go_wp2_with (go_at_call 15; refine (all_any _ _).mono ?_; rintro e w' ⟨rfl, rfl⟩)
  refine (wpIn_wide (n := 5)).1 ?_
  obtain ⟨h, hh⟩ : ∃ h, h = w.heap.size := ⟨_, rfl⟩
  rw [← hh]
  obtain ⟨W0, hW0⟩ : ∃ W0, W0 = (((w.alloc (.cells #[.int .i64 most] 3)).alloc (.cells #[.slice none 0 0] 24)).alloc (.cells #[.slice none 0 0] 25)).alloc (.cells #[.string s] 9) := ⟨_, rfl⟩
  rw [← hW0]
  have bM : Boxed W0 h 3 (.int .i64 most) := by rw [hW0, hh]; exact (((Boxed.new w _ _).alloc _).alloc _).alloc _
  have bL : Boxed W0 (h + 1) 24 (.slice none 0 0) := by
    have := ((Boxed.new (w.alloc (.cells #[.int .i64 most] 3)) 24 (.slice none 0 0)).alloc (.cells #[.slice none 0 0] 25)).alloc (.cells #[.string s] 9)
    rw [hW0, hh]
    simpa using this
  have bA : Boxed W0 (h + 1 + 1) 25 (.slice none 0 0) := by
    have := (Boxed.new ((w.alloc (.cells #[.int .i64 most] 3)).alloc (.cells #[.slice none 0 0] 24)) 25 (.slice none 0 0)).alloc (.cells #[.string s] 9)
    rw [hW0, hh]
    simpa using this
  have bS : Boxed W0 (h + 1 + 1 + 1) 9 (.string s) := by
    have := Boxed.new (((w.alloc (.cells #[.int .i64 most] 3)).alloc (.cells #[.slice none 0 0] 24)).alloc (.cells #[.slice none 0 0] 25)) 9 (.string s)
    rw [hW0, hh]
    simpa using this
  have hB0 : Below h w W0 := by
    rw [hW0, hh]
    exact ((((Below.refl _ w).alloc (Nat.le_refl _) _).alloc (by simp) _).alloc (by simp; omega) _).alloc (by simp; omega) _
  have hsz : W0.heap.size = h + 4 := by rw [hW0, hh]; simp
  have HH := Lib.hid hh
  have hsz' : W0.heap.size ≤ h + 4 := by omega
  have hsz2 : h + 4 ≤ W0.heap.size := by omega
  have hw1 : h ≤ w.heap.size := by omega
  have hw2 : w.heap.size ≤ h := by omega
  clear hW0 hh hsz
  refine wpIn_rangeFunc_ownG rfl (by omega) (gf := 22) (lb := #[.pointer (some ⟨h + 1 + 1 + 1, 0, none⟩)]) rfl trivial (enters_of Try.func22 (by kernel_rfl) rfl)
    (all_stops 4 (by omega) (h + 1 + 1 + 1) h s (by omega) _ bS.cell) KpS.t (KpS.b (by omega)) (Below.refl _ _) (fun _ => rfl)
    (fun pre W => ((((∃ v, Boxed W (h + 1) 24 v ∧ W.ownsRow (h + 4) 21 1 v pre.length (rv pre) ∧ (pre.length ≤ most ∧ SlN v pre.length)) ∧ (∃ v, Boxed W (h + 1 + 1) 25 v ∧ W.ownsRow (h + 4) 3 1 v pre.length (av pre) ∧ SlN v pre.length)) ∧ Boxed W h 3 (.int .i64 most)) ∧ Boxed W (h + 1 + 1 + 1) 9 (.string s)) ∧ Below h w W)
    (fun c pre W => ((((∃ v, Boxed W (h + 1) 24 v ∧ W.ownsRow (h + 4) 21 1 v most (rv (pre.take most)) ∧ (c = .exit 0 ∧ most < pre.length ∧ SlN v most)) ∧ (∃ v, Boxed W (h + 1 + 1) 25 v ∧ W.ownsRow (h + 4) 3 1 v most (av (pre.take most)) ∧ SlN v most)) ∧ Boxed W h 3 (.int .i64 most)) ∧ Boxed W (h + 1 + 1 + 1) 9 (.string s)) ∧ Below h w W)
    (OwnFrom.and (OwnFrom.and (OwnFrom.and (OwnFrom.and (Own.from (holdsRow_own (h + 4) (h + 1) 24 21 1 (fun (pre : List (Nat × Int)) => pre.length) (fun pre => rv pre) (fun pre v => pre.length ≤ most ∧ SlN v pre.length)) _)
      (Own.from (holdsRow_own (h + 4) (h + 1 + 1) 25 3 1 (fun (pre : List (Nat × Int)) => pre.length) (fun pre => av pre) (fun pre v => SlN v pre.length)) _)) (Own.from (boxed_own h 3 (fun _ => .int .i64 most)) _)) (Own.from (boxed_own (h + 1 + 1 + 1) 9 (fun _ => .string s)) _)) (ownFrom_below (by omega) (by omega)))
    (fun c => OwnFrom.and (OwnFrom.and (OwnFrom.and (OwnFrom.and (Own.from (holdsRow_own (h + 4) (h + 1) 24 21 1 (fun (pre : List (Nat × Int)) => most) (fun pre => rv (pre.take most)) (fun pre v => c = .exit 0 ∧ most < pre.length ∧ SlN v most)) _)
      (Own.from (holdsRow_own (h + 4) (h + 1 + 1) 25 3 1 (fun (pre : List (Nat × Int)) => most) (fun pre => av (pre.take most)) (fun pre v => SlN v most)) _)) (Own.from (boxed_own h 3 (fun _ => .int .i64 most)) _)) (Own.from (boxed_own (h + 1 + 1 + 1) 9 (fun _ => .string s)) _)) (ownFrom_below (by omega) (by omega)))
    ⟨⟨⟨⟨⟨_, bL, World.ownsRow_nil _ _ _ _, by simp, none, 0, rfl, fun _ => rfl⟩, ⟨_, bA, World.ownsRow_nil _ _ _ _, none, 0, rfl, fun _ => rfl⟩⟩, bM⟩, bS⟩, hB0⟩
    (fun x => { tmps := #[.string s, .int .i64 most, undef, .pointer (some ⟨h, 0, none⟩), .slice none 0 0, .slice none 0 0, .pointer (some ⟨h + 1, 0, none⟩), .pointer (some ⟨h + 1 + 1, 0, none⟩), .func (.func 22) #[] #[.pointer (some ⟨h + 1 + 1 + 1, 0, none⟩)], .int .i64 x.1, .int .i32 x.2, .string s, .func (.func 22) #[] #[.pointer (some ⟨h + 1 + 1 + 1, 0, none⟩)], .func (.func 22) #[] #[.pointer (some ⟨h + 1 + 1 + 1, 0, none⟩)], .bool false, .func (.func 22) #[] #[.pointer (some ⟨h + 1 + 1 + 1, 0, none⟩)], .int .i64 x.1, .int .i32 x.2, undef, undef, undef, undef, undef, undef, undef, undef, undef, undef, undef, undef, undef, undef], defers := [] }) ?assign ?body ?done ?stop
  case assign =>
    intro l x W K hK
    simp only [encR]
    rw [put_two]
    gi_wp2
    exact hK
  case body =>
    rintro lo pre x W ⟨⟨⟨⟨⟨v, hv, hrow, hpm, A1, c1, rfl, hn1⟩, ⟨u, hu, hrow2, A2, c2, rfl, hn2⟩⟩, hbm⟩, hbs⟩, hB⟩ hlt
    have hc := hv.cell
    have hcm := hbm.cell
    have hszW := hB.size
    by_cases hge : most ≤ pre.length
    · have hpl : pre.length = most := by omega
      have hge' : (most : Int) ≤ (pre.length : Int) := by omega
      have HPL := Lib.hid hpl
      clear hpl
      gi_wp2
      refine ⟨(KeepsOthers.refl _).from _, ⟨⟨⟨⟨_, hv, ?_, rfl, by simp; have := HPL.out; omega, A1, c1, by rw [HPL.out], hn1⟩, ⟨_, hu, ?_, A2, c2, by rw [HPL.out], hn2⟩⟩, hbm⟩, hbs⟩, hB⟩
      · rw [← HPL.out]; simpa using hrow
      · rw [← HPL.out]; simpa using hrow2
    · have hge' : ¬ (most : Int) ≤ (pre.length : Int) := by omega
      gi_wp2
      have hmx : Try.prog.follows .mixedOrders = true := by kernel_rfl
      refine wpIn_region_any hmx ?_
      change wpAnyIn _ _ _ _ _ _ _ _ _ W.drew
      have hsz4 : h + 4 ≤ W.heap.size := by have := hbs.lt; omega
      have HO := Lib.hid hrow
      have HO2 := Lib.hid hrow2
      have HN1 := Lib.hid hn1
      have HN2 := Lib.hid hn2
      have hpl : pre.length ≤ 1000000 := by omega
      clear hrow hrow2 hn1 hn2
      refine wpAnyIn_inv (fun listed a w2 => ∃ b0 b1 b2 b3 b4 b5 b6 b7 b8 b9 u22 u23 u24 u25 u26 u27 u28 u29, listed = #[b0, b1, b2, b3, b4, b5, b6, b7, b8, b9] ∧
        a = { tmps := #[.string s, .int .i64 most, undef, .pointer (some ⟨h, 0, none⟩), .slice none 0 0, .slice none 0 0, .pointer (some ⟨h + 1, 0, none⟩), .pointer (some ⟨h + 1 + 1, 0, none⟩), .func (.func 22) #[] #[.pointer (some ⟨h + 1 + 1 + 1, 0, none⟩)], .int .i64 x.1, .int .i32 x.2, .string s, .func (.func 22) #[] #[.pointer (some ⟨h + 1 + 1 + 1, 0, none⟩)], .func (.func 22) #[] #[.pointer (some ⟨h + 1 + 1 + 1, 0, none⟩)], .bool false, .func (.func 22) #[] #[.pointer (some ⟨h + 1 + 1 + 1, 0, none⟩)], .int .i64 x.1, .int .i32 x.2, .slice A1 pre.length c1, .int .i64 pre.length, .int .i64 most, .bool false, u22, u23, u24, u25, u26, u27, u28, u29, undef, undef], defers := [] } ∧
        InvB h W most s A1 pre.length c1 (rv pre) A2 pre.length c2 (av pre) x.2 x.1 b0 b1 b2 b3 b4 b5 b6 b7 b8 b9 u22 u23 u24 u25 u26 u27 u28 u29 w2) ?_ ?_ _ _ _ _ (by decide) ?_
      · rintro listed a w2 hr ⟨b0, b1, b2, b3, b4, b5, b6, b7, b8, b9, u22, u23, u24, u25, u26, u27, u28, u29, rfl, rfl, hI⟩
        obtain rfl : b0 = true := listed_of hr (j := 0) rfl (by simp)
        obtain rfl : b1 = true := listed_of hr (j := 1) rfl (by simp)
        obtain rfl : b2 = true := listed_of hr (j := 2) rfl (by simp [Region.binds])
        obtain rfl : b3 = true := listed_of hr (j := 3) rfl (by simp [Region.binds])
        obtain rfl : b4 = true := listed_of hr (j := 4) rfl (by simp)
        obtain rfl : b5 = true := listed_of hr (j := 5) rfl (by simp)
        obtain rfl : b6 = true := listed_of hr (j := 6) rfl (by simp [Region.binds])
        obtain rfl : b7 = true := listed_of hr (j := 7) rfl (by simp [Region.binds])
        obtain rfl : b8 = true := listed_of hr (j := 8) rfl (by simp [Region.binds])
        obtain rfl : b9 = true := listed_of hr (j := 9) rfl (by simp [Region.binds])
        obtain ⟨A3, n3, c3, xs3, A4, n4, c4, ys4, vl, va, hws, w3n, w3y, w7n, w7y, w8n, w8y, w9n, w9y⟩ := hI.ws
        obtain ⟨rfl, rfl, rfl⟩ := w3y rfl
        obtain ⟨rfl, rfl, rfl⟩ := w7y rfl
        obtain rfl := w8y rfl
        obtain rfl := w9y rfl
        refine ⟨hws.keeps.from _, ⟨hws.below, fun _ => hws.bs.cell⟩, ⟨⟨⟨⟨_, hws.bl, ?_, ?_, A3, c3, ?_, hws.r1.2⟩, ⟨_, hws.ba, ?_, A4, c4, ?_, hws.r2.2⟩⟩, hws.bm⟩, hws.bs⟩, hB.trans hws.below⟩
        · rw [rv_snoc, List.length_append]; exact hws.r1.1
        · simp; omega
        · rw [List.length_append]; rfl
        · rw [av_snoc, List.length_append]; exact hws.r2.1
        · rw [List.length_append]; rfl
      · rintro i listed a w2 ⟨b0, b1, b2, b3, b4, b5, b6, b7, b8, b9, u22, u23, u24, u25, u26, u27, u28, u29, rfl, rfl, hI⟩ hi
        obtain ⟨hf, o, ho, hdep⟩ := mem_ready.1 hi
        have hi10 : i < 10 := (Array.getElem?_eq_some_iff.1 ho).1
        have hic : i = 0 ∨ i = 1 ∨ i = 2 ∨ i = 3 ∨ i = 4 ∨ i = 5 ∨ i = 6 ∨ i = 7 ∨ i = 8 ∨ i = 9 := by omega
        rcases hic with rfl | rfl | rfl | rfl | rfl | rfl | rfl | rfl | rfl | rfl
        all_goals
          simp at ho
          subst ho
          simp [Region.binds] at hdep
          simp at hf
        all_goals try subst hf
        all_goals try simp only [forall_const] at hdep
        · -- 0: the first slice is loaded
          have e3 := nb (fun e => (hI.q3 e).1) rfl
          have e7 := nb (fun e => (hI.q7 e).1) e3
          have e8 := nb hI.q8 e7
          have hcl : w2.cell? ⟨h + 1, 0, none⟩ = some (.slice A1 pre.length c1) := by
            obtain ⟨A3, n3, c3, xs3, A4, n4, c4, ys4, vl, va, hws, w3n, w3y, w7n, w7y, w8n, w8y, w9n, w9y⟩ := hI.ws
            rw [← w8n e8]; exact hws.bl.cell
          have HI := Lib.hid hI
          have E3 := Lib.hid e3
          clear hI e3 e7 e8 hcm
          refine wpOpIn_step rfl (fun K' hK => ?_)
          go_simp
          refine hK _ _ ?_
          exact ⟨true, b1, b2, b3, b4, b5, b6, b7, b8, b9, _, u23, u24, u25, u26, u27, u28, u29, rfl, rfl, ⟨fun _ => rfl, HI.out.s1, HI.out.s2, HI.out.s4, HI.out.s5, HI.out.s6, HI.out.q2, HI.out.q6, fun e => (by rw [E3.out] at e; cases e), HI.out.q7, HI.out.q8, HI.out.q9, HI.out.ws⟩⟩
        · -- 1: the rune
          have e2 := nb hI.q2 rfl
          have HI := Lib.hid hI
          have E2 := Lib.hid e2
          clear hI e2 hcm
          refine wpOpIn_step rfl (fun K' hK => ?_)
          go_simp
          refine hK _ _ ?_
          exact ⟨b0, true, b2, b3, b4, b5, b6, b7, b8, b9, u22, _, u24, u25, u26, u27, u28, u29, rfl, rfl, ⟨HI.out.s0, fun _ => rfl, HI.out.s2, HI.out.s4, HI.out.s5, HI.out.s6, fun _ => rfl, HI.out.q6, HI.out.q3, HI.out.q7, HI.out.q8, HI.out.q9, HI.out.ws⟩⟩
        · -- 2: a slice of the rune
          subst hdep
          have e3 := nb (fun e => (hI.q3 e).2) rfl
          obtain rfl := hI.s1 rfl
          have HI := Lib.hid hI
          have E3 := Lib.hid e3
          clear hI e3 hcm
          refine wpOpIn_step rfl (fun K' hK => ?_)
          go_simp
          refine hK _ _ ?_
          obtain ⟨A3, n3, c3, xs3, A4, n4, c4, ys4, vl, va, hws, hr⟩ := HI.out.ws
          exact ⟨b0, true, true, b3, b4, b5, b6, b7, b8, b9, u22, _, _, u25, u26, u27, u28, u29, rfl, rfl, ⟨HI.out.s0, fun _ => rfl, fun _ _ => ⟨_, rfl, Boxed.new _ _ _⟩, HI.out.s4, HI.out.s5, fun e1 e2 => (HI.out.s6 e1 e2).imp fun g k => ⟨k.1, k.2.alloc _⟩, fun _ => rfl, HI.out.q6, fun e => (by rw [E3.out] at e; cases e), HI.out.q7, HI.out.q8, HI.out.q9,
            ⟨A3, n3, c3, xs3, A4, n4, c4, ys4, vl, va, hws.alloc _, hr⟩⟩⟩
        · -- 3: the first append
          obtain ⟨rfl, rfl⟩ := hdep
          obtain rfl := hI.s0 rfl
          obtain ⟨g, rfl, hg⟩ := hI.s2 rfl rfl
          have e7 := nb (fun e => (hI.q7 e).1) rfl
          have e8 := nb hI.q8 e7
          have e9 := nb hI.q9 e8
          have HI := Lib.hid hI
          subst e7
          subst e8
          subst e9
          obtain ⟨A3, n3, c3, xs3, A4, n4, c4, ys4, vl, va, hws, w3n, w3y, w7n, w7y, w8n, w8y, w9n, w9y⟩ := hI.ws
          obtain ⟨rfl, rfl, rfl, rfl⟩ := w3n rfl
          obtain ⟨rfl, rfl, rfl, rfl⟩ := w7n rfl
          obtain rfl := w8n rfl
          obtain rfl := w9n rfl
          clear hI hcm w3n w3y w7n w7y w8n w8y w9n w9y
          obtain ⟨A5, c5, w5, hrun, hO5, hg5, _⟩ := run_app Try.underlying24 i32_info rfl (by omega) w2 24 (h + 4) _ _ _ _ hws.r1 (some ⟨g, 0, none⟩) 1 1 [.int .i32 x.2] _ (Boxed.sl1 hg) rfl (fun e => by cases e) (fun u hu => by simp at hu; subst hu; rfl) _ rfl (by omega) hws.sz
          refine wpOpIn_step rfl (fun K' hK => ?_)
          refine stepIn_app 24 rfl (.tmp 22) (.tmp 24) rfl _ _ _ _ rfl rfl hrun ?_
          refine hK _ _ ?_
          exact ⟨true, b1, true, true, b4, b5, b6, false, false, false, _, u23, _, _, u26, u27, u28, u29, rfl, rfl, ⟨fun _ => rfl, HI.out.s1, fun _ e => (by cases e), HI.out.s4, HI.out.s5, fun e1 e2 => (HI.out.s6 e1 e2).imp fun g' k => ⟨k.1, k.2.kept hg5 (by have := k.2.not_row (by decide : 3 ≠ 21) hws.r1.1; rw [ownBlock_slice] at this; exact this)⟩, HI.out.q2, HI.out.q6, fun _ => ⟨rfl, rfl⟩, fun e => (by cases e), fun e => (by cases e), fun e => (by cases e),
            ⟨_, _, _, _, _, _, _, _, _, _, hws.app1 hg5 hO5, (fun e => by cases e), (fun _ => ⟨rfl, rfl, rfl⟩), (fun _ => ⟨rfl, rfl, rfl, rfl⟩), (fun e => by cases e), (fun _ => rfl), (fun e => by cases e), (fun _ => rfl), (fun e => by cases e)⟩⟩⟩
        · -- 4: the second slice is loaded
          have e7 := nb (fun e => (hI.q7 e).2.1) rfl
          have e8 := nb hI.q8 e7
          have e9 := nb hI.q9 e8
          have hcl : w2.cell? ⟨h + 1 + 1, 0, none⟩ = some (.slice A2 pre.length c2) := by
            obtain ⟨A3, n3, c3, xs3, A4, n4, c4, ys4, vl, va, hws, w3n, w3y, w7n, w7y, w8n, w8y, w9n, w9y⟩ := hI.ws
            rw [← w9n e9]; exact hws.ba.cell
          have HI := Lib.hid hI
          have E7 := Lib.hid e7
          clear hI e7 e8 e9 hcm
          refine wpOpIn_step rfl (fun K' hK => ?_)
          go_simp
          refine hK _ _ ?_
          exact ⟨b0, b1, b2, b3, true, b5, b6, b7, b8, b9, u22, u23, u24, u25, _, u27, u28, u29, rfl, rfl, ⟨HI.out.s0, HI.out.s1, HI.out.s2, fun _ => rfl, HI.out.s5, HI.out.s6, HI.out.q2, HI.out.q6, HI.out.q3, fun e => (by rw [E7.out] at e; cases e), HI.out.q8, HI.out.q9, HI.out.ws⟩⟩
        · -- 5: the place
          have e6 := nb hI.q6 rfl
          have HI := Lib.hid hI
          have E6 := Lib.hid e6
          clear hI e6 hcm
          refine wpOpIn_step rfl (fun K' hK => ?_)
          go_simp
          refine hK _ _ ?_
          exact ⟨b0, b1, b2, b3, b4, true, b6, b7, b8, b9, u22, u23, u24, u25, u26, _, u28, u29, rfl, rfl, ⟨HI.out.s0, HI.out.s1, HI.out.s2, HI.out.s4, fun _ => rfl, HI.out.s6, HI.out.q2, fun _ => rfl, HI.out.q3, HI.out.q7, HI.out.q8, HI.out.q9, HI.out.ws⟩⟩
        · -- 6: a slice of the place
          subst hdep
          have e7 := nb (fun e => (hI.q7 e).2.2) rfl
          obtain rfl := hI.s5 rfl
          have HI := Lib.hid hI
          have E7 := Lib.hid e7
          clear hI e7 hcm
          refine wpOpIn_step rfl (fun K' hK => ?_)
          go_simp
          refine hK _ _ ?_
          obtain ⟨A3, n3, c3, xs3, A4, n4, c4, ys4, vl, va, hws, hr⟩ := HI.out.ws
          exact ⟨b0, b1, b2, b3, b4, true, true, b7, b8, b9, u22, u23, u24, u25, u26, _, _, u29, rfl, rfl, ⟨HI.out.s0, HI.out.s1, fun e1 e2 => (HI.out.s2 e1 e2).imp fun g k => ⟨k.1, k.2.alloc _⟩, HI.out.s4, fun _ => rfl, fun _ _ => ⟨_, rfl, Boxed.new _ _ _⟩, HI.out.q2, fun _ => rfl, HI.out.q3, fun e => (by rw [E7.out] at e; cases e), HI.out.q8, HI.out.q9,
            ⟨A3, n3, c3, xs3, A4, n4, c4, ys4, vl, va, hws.alloc _, hr⟩⟩⟩
        · -- 7: the second append
          obtain ⟨rfl, rfl, rfl⟩ := hdep
          obtain rfl := hI.s4 rfl
          obtain ⟨g, rfl, hg⟩ := hI.s6 rfl rfl
          have e8 := nb hI.q8 rfl
          have e9 := nb hI.q9 e8
          have HI := Lib.hid hI
          subst e8
          subst e9
          obtain ⟨A3, n3, c3, xs3, A4, n4, c4, ys4, vl, va, hws, w3n, w3y, w7n, w7y, w8n, w8y, w9n, w9y⟩ := hI.ws
          obtain ⟨rfl, rfl, rfl, rfl⟩ := w7n rfl
          obtain ⟨b0t, b2t⟩ := hI.q3 rfl
          clear hI hcm w7n w7y
          obtain ⟨A5, c5, w5, hrun, hO5, hg5, _⟩ := run_app Try.underlying25 i64_info rfl (by omega) w2 25 (h + 4) _ _ _ _ hws.r2 (some ⟨g, 0, none⟩) 1 1 [.int .i64 x.1] _ (Boxed.sl1 hg) rfl (fun e => by cases e) (fun u hu => by simp at hu; subst hu; rfl) _ rfl (by omega) hws.sz
          refine wpOpIn_step rfl (fun K' hK => ?_)
          refine stepIn_app 25 rfl (.tmp 26) (.tmp 28) rfl _ _ _ _ rfl rfl hrun ?_
          refine hK _ _ ?_
          exact ⟨b0, b1, b2, true, true, b5, true, true, false, false, u22, u23, u24, u25, _, u27, _, _, rfl, rfl, ⟨HI.out.s0, HI.out.s1, fun _ e => (by cases e), fun _ => rfl, HI.out.s5, fun _ e => (by cases e), HI.out.q2, HI.out.q6, fun _ => ⟨b0t, b2t⟩, fun _ => ⟨rfl, rfl, rfl⟩, fun e => (by cases e), fun e => (by cases e),
            ⟨_, _, _, _, _, _, _, _, _, _, hws.app2 hg5 hO5, (fun e => by cases e), (fun _ => w3y rfl), (fun e => by cases e), (fun _ => ⟨rfl, rfl, rfl⟩), (fun _ => w8n rfl), (fun e => by cases e), (fun _ => w9n rfl), (fun e => by cases e)⟩⟩⟩
        · -- 8: the first store
          obtain ⟨rfl, rfl, rfl, rfl, rfl, _⟩ := hdep
          have e9 := nb hI.q9 rfl
          have HI := Lib.hid hI
          subst e9
          obtain ⟨A3, n3, c3, xs3, A4, n4, c4, ys4, vl, va, hws, w3n, w3y, w7n, w7y, w8n, w8y, w9n, w9y⟩ := hI.ws
          obtain ⟨rfl, w3b, w3c⟩ := w3y rfl
          have W3 := Lib.hid (And.intro w3b w3c)
          have W7 := Lib.hid (w7y rfl)
          have W9 := Lib.hid (w9n rfl)
          have Q7 := Lib.hid (hI.q7 rfl)
          have hcl := hws.bl.cell
          have hfl := hws.bl.frozen
          clear hI hcm w3n w3y w7n w7y w8n w8y w9n w9y w3b w3c
          refine wpOpIn_step rfl (fun K' hK => ?_)
          go_simp
          refine hK _ _ ?_
          exact ⟨true, true, true, true, b4, b5, b6, true, true, false, u22, u23, u24, _, u26, u27, u28, u29, rfl, rfl, ⟨HI.out.s0, HI.out.s1, fun _ e => (by cases e), HI.out.s4, HI.out.s5, fun _ e => (by cases e), fun _ => rfl, HI.out.q6, fun _ => ⟨rfl, rfl⟩, fun _ => Q7.out, fun _ => rfl, fun e => (by cases e),
            ⟨_, _, _, _, _, _, _, _, _, _, hws.set1 _, (fun e => by cases e), (fun _ => ⟨rfl, W3.out.1, W3.out.2⟩), (fun e => by cases e), (fun _ => W7.out), (fun e => by cases e), (fun _ => rfl), (fun _ => W9.out), (fun e => by cases e)⟩⟩⟩
        · -- 9: the second store
          obtain ⟨rfl, rfl, _⟩ := hdep
          have HI := Lib.hid hI
          obtain ⟨A3, n3, c3, xs3, A4, n4, c4, ys4, vl, va, hws, w3n, w3y, w7n, w7y, w8n, w8y, w9n, w9y⟩ := hI.ws
          obtain ⟨rfl, w7b, w7c⟩ := w7y rfl
          have W7 := Lib.hid (And.intro w7b w7c)
          have Q7 := Lib.hid (hI.q7 rfl)
          have W3 := Lib.hid (w3y (hI.q7 rfl).1)
          have W8 := Lib.hid (w8y rfl)
          have hcl := hws.ba.cell
          have hfl := hws.ba.frozen
          clear hI hcm w3n w3y w7n w7y w8n w8y w9n w9y w7b w7c
          refine wpOpIn_step rfl (fun K' hK => ?_)
          go_simp
          refine hK _ _ ?_
          exact ⟨b0, b1, b2, b3, b4, b5, b6, true, true, true, u22, u23, u24, u25, u26, u27, u28, _, rfl, rfl, ⟨HI.out.s0, HI.out.s1, fun _ e => (by rw [Q7.out.1] at e; cases e), HI.out.s4, HI.out.s5, fun _ e => (by cases e), HI.out.q2, HI.out.q6, HI.out.q3, fun _ => Q7.out, fun _ => rfl, fun _ => rfl,
            ⟨_, _, _, _, _, _, _, _, _, _, hws.set2 _, (fun e => by rw [Q7.out.1] at e; cases e), (fun _ => W3.out), (fun e => by cases e), (fun _ => ⟨rfl, W7.out.1, W7.out.2⟩), (fun e => by cases e), (fun _ => W8.out), (fun e => by cases e), (fun _ => rfl)⟩⟩⟩
      · exact ⟨false, false, false, false, false, false, false, false, false, false, _, _, _, _, _, _, _, _, rfl, rfl,
          { s0 := fun e => by cases e
            s1 := fun e => by cases e
            s2 := fun e => by cases e
            s4 := fun e => by cases e
            s5 := fun e => by cases e
            s6 := fun e => by cases e
            q2 := fun e => by cases e
            q6 := fun e => by cases e
            q3 := fun e => by cases e
            q7 := fun e => by cases e
            q8 := fun e => by cases e
            q9 := fun e => by cases e
            ws := ⟨_, _, _, _, _, _, _, _, _, _, ⟨(Below.refl _ _).drew, KeepsOthers.drew W, hbm, hv, hu, hbs, ⟨HO.out, HN1.out⟩, ⟨HO2.out, HN2.out⟩, hsz4⟩, (fun _ => ⟨rfl, rfl, rfl, rfl⟩), (fun e => by cases e), (fun _ => ⟨rfl, rfl, rfl, rfl⟩), (fun e => by cases e), (fun _ => rfl), (fun e => by cases e), (fun _ => rfl), (fun e => by cases e)⟩ }⟩
  case done =>
    rintro D ys W hD rfl ⟨⟨⟨⟨⟨v, hv, hrow, hpm, A1, c1, rfl, hn1⟩, ⟨u, hu, hrow2, A2, c2, rfl, hn2⟩⟩, hbm⟩, hbs⟩, hB⟩ hK
    have hc := hv.cell
    have hc2 := hu.cell
    have HPM := Lib.hid hpm
    clear hpm
    go_wp2
    go_quiet (fail)
    go_wp2
    have hK' : (W.drewN nq).heap[D]? = some (Obj.deferred (some [])) := by rw [World.heap_drewN]; exact hK
    have hr1 := ownsRow_putObj (ownsRow_drewN hrow nq) (.deferred none) hK' rfl
    have hr2 := ownsRow_putObj (ownsRow_drewN hrow2 nq) (.deferred none) hK' rfl
    refine ⟨by simp, .inl ⟨_, _, rfl, run_takeDeferred hK', ?_⟩⟩
    refine ⟨_, results_tmp2 rfl _ _ _, A1, c1, A2, c2, ?_, ?_, ?_, ?_⟩
    · rw [List.take_of_length_le HPM.out]; rfl
    · rw [List.take_of_length_le HPM.out]; exact Sl.own hr1
    · rw [List.take_of_length_le HPM.out]; exact Sl.own hr2
    · rw [← HH.out]
      exact (hB.trans (below_drewN (Below.refl _ _) _)).trans (belowK_b (w := w) hw1 _ D _ _ (by omega) hK' rfl rfl)
  case stop =>
    rintro D c pre W hD hpre ⟨⟨⟨⟨⟨v, hv, hrow, rfl, hlt, A1, c1, rfl, hn1⟩, ⟨u, hu, hrow2, A2, c2, rfl, hn2⟩⟩, hbm⟩, hbs⟩, hB⟩ hK
    have hc := hv.cell
    have hc2 := hu.cell
    have htk : pre.take most = (rnsOf s.data.toList).take most := by
      obtain ⟨t, ht⟩ := hpre
      rw [← ht, List.take_append_of_le_length (by omega)]
    have hln : ((rnsOf s.data.toList).take most).length = most := by rw [← htk]; simp; omega
    have HTK := Lib.hid htk
    have HLN := Lib.hid hln
    clear htk hln
    gi_wp2
    go_wp2
    go_quiet (fail)
    go_wp2
    have hK' : (W.drewN nq).heap[D]? = some (Obj.deferred (some [])) := by rw [World.heap_drewN]; exact hK
    have hr1 := ownsRow_putObj (ownsRow_drewN hrow nq) (.deferred none) hK' rfl
    have hr2 := ownsRow_putObj (ownsRow_drewN hrow2 nq) (.deferred none) hK' rfl
    refine ⟨by simp, .inl ⟨_, _, rfl, run_takeDeferred hK', ?_⟩⟩
    refine ⟨_, results_tmp2 rfl _ _ _, A1, c1, A2, c2, ?_, ?_, ?_, ?_⟩
    · rw [HLN.out]; rfl
    · rw [← HTK.out]; exact Sl.own hr1
    · rw [← HTK.out]; exact Sl.own hr2
    · rw [← HH.out]
      exact (hB.trans (below_drewN (Below.refl _ _) _)).trans (belowK_b (w := w) hw1 _ D _ _ (by omega) hK' rfl rfl)
end Go.Proofs.Ytckohomfoicffaa
