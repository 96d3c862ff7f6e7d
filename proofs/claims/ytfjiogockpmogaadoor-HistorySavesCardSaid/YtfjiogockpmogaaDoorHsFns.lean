/-
  Walks: newWalk, New, Leave, Len, Line, flat, from, All of a history.
-/
import Derived.Test.YtfjiogockpmogaaDoorHsAt
namespace Go.Proofs.YtfjiogockpmogaaDoor
open Go.RowKit
set_option linter.unusedVariables false
set_option linter.unusedSimpArgs false

theorem wk_size : (Tryd.prog.info? 57).map (·.size) = some 3 := by kernel_rfl
theorem wkC_len (K : Option HW) : (wkC K).length = 3 := by cases K <;> rfl
theorem wkC_one (K : Option HW) : ∀ v ∈ wkC K, v.oneCell' = true := by
  cases K with
  | none => intro v hv; simp only [wkC, List.mem_cons, List.not_mem_nil, or_false] at hv; rcases hv with rfl | rfl | rfl <;> rfl
  | some k => intro v hv; simp only [wkC, List.mem_cons, List.not_mem_nil, or_false] at hv; rcases hv with rfl | rfl | rfl <;> rfl
theorem HsAt.splice3 (a b c : Value) (K K' : Option HW) : splice (a :: b :: c :: wkC K) 3 (wkC K') = a :: b :: c :: wkC K' := by
  cases K <;> cases K' <;> rfl

theorem hsgetD {tmps : Array Value} {a : Nat} {v : Value} (h : tmps.getD a undef = v) : tmps[a]?.getD undef = v := by simpa using h
theorem hsres_c {fn : Func} {tmps : Array Value} {a t : Nat} {ad : Nat} {cs : List Value} {w : World} {d : TypeDesc} (hf : fn.results = #[.cell a t]) (ha : tmps.getD a undef = .pointer (some ⟨ad, 0, none⟩))
    (hc : w.rangeAt ad 0 cs) (hu : Tryd.prog.underlying t = some d) (hd : d.isRow = true) (hi : (Tryd.prog.info? t).map (·.size) = some cs.length) : (results fn tmps).run Tryd.prog w = .ok (.agg cs.toArray) w := by
  have hl := run_loadVar_mid (P := Tryd.prog) w ad 0 t cs d hc hu hd hi
  have ha' := hsgetD ha
  unfold results
  simp [hf, ha', asAddr, hl]

set_option maxRecDepth 100000 in
set_option maxHeartbeats 2000000 in
theorem hnewwalk_any (d b : List UInt8) (w : World) :
    Calls Tryd.prog 50 #[.string ⟨d.toArray⟩, .string ⟨b.toArray⟩] w fun e w' => ∃ xd xb, e = .returned (.agg #[.string ⟨d.toArray⟩, hasF xd xb, .int .i64 0]) ∧
      Boxed w' xd 9 (.string ⟨d.toArray⟩) ∧ Boxed w' xb 9 (.string ⟨b.toArray⟩) ∧ w.heap.size ≤ xd ∧ w.heap.size ≤ xb ∧ Below w.heap.size w w' := by
  have HB := Lib.hid (Blk.new ((w.alloc (.cells #[.string ⟨d.toArray⟩] 9)).alloc (.cells #[.string ⟨b.toArray⟩] 9)) 57 (wkC none))
  simp only [World.size_alloc, wkC] at HB
  go_enter Tryd.func50, Tryd.ntmps50
  go_wp2_with ((with_reducible refine at_store 4 ?_); refine wpList_store_blk rfl _ _ _ rfl rfl (w.heap.size + 1 + 1) 0 _ (wkC none) [.string ⟨d.toArray⟩, hasF w.heap.size (w.heap.size + 1), .int .i64 0] rfl rfl HB.out (by simp [wkC]) wk_size (by intro v hv; simp only [List.mem_cons, List.not_mem_nil, or_false] at hv; rcases hv with rfl | rfl | rfl <;> rfl) ?_; intro w9 hn9 hg9)
  have hn10 : Blk w9 (w.heap.size + 1 + 1) 57 [.string ⟨d.toArray⟩, hasF w.heap.size (w.heap.size + 1), .int .i64 0] := hn9
  refine bodyPost_ret (v := .agg #[.string ⟨d.toArray⟩, hasF w.heap.size (w.heap.size + 1), .int .i64 0]) (hsres_c rfl rfl (hn10.range 0 _ (fun j v hv => by simpa using hv)) Tryd.underlying57 rfl wk_size) rfl ⟨_, _, rfl, ?_, ?_, Nat.le_refl _, by omega, ?_⟩
  · exact (chg_of_grown hg9).heap (((Boxed.new w 9 (.string ⟨d.toArray⟩)).alloc (.cells #[.string ⟨b.toArray⟩] 9)).alloc (.cells #[.string ⟨#[]⟩, .nilFunc, .int .i64 0] 57)) (by unfold one; omega)
  · have := (Boxed.new (w.alloc (.cells #[.string ⟨d.toArray⟩] 9)) 9 (.string ⟨b.toArray⟩)).alloc (.cells #[.string ⟨#[]⟩, .nilFunc, .int .i64 0] 57)
    rw [World.size_alloc] at this
    exact (chg_of_grown hg9).heap this (by unfold one; omega)
  · have hb : Below w.heap.size w (((w.alloc (.cells #[.string ⟨d.toArray⟩] 9)).alloc (.cells #[.string ⟨b.toArray⟩] 9)).alloc (.cells #[.string ⟨#[]⟩, .nilFunc, .int .i64 0] 57)) := (((Below.refl _ w).alloc (Nat.le_refl _) _).alloc (by simp) _).alloc (by simp; omega) _
    exact hb.trans ((chg_of_grown hg9).below hb.size (fun j hj => by unfold one at hj; omega))

set_option maxRecDepth 100000 in
set_option maxHeartbeats 2000000 in
theorem hnew_ok (most : Nat) (h1 : 1 ≤ most) (h2 : most ≤ 256) (w : World) :
    Calls Tryd.prog 6 #[.int .i64 most] w fun e w' => ∃ h, e = .returned (.tuple #[.pointer (some ⟨h, 0, none⟩), .int .i64 0]) ∧ HsAt w' w.heap.size h none 0 most [] none ∧ Below w.heap.size w w' := by
  have H := Lib.hid (hwith_any most [] none 0 none)
  simp only [wkC, List.length_nil] at H
  go_enter Tryd.func6, Tryd.ntmps6
  go_wp2_with (fail)
  refine (H.out w).mono ?_
  rintro e w1 ⟨h, rfl, hbk, hlo, hb⟩
  have HK := Lib.hid hbk
  have HLO := Lib.hid hlo
  clear hbk hlo
  go_wp2
  go_ret2
  exact ⟨h, rfl, ⟨HK.out, .inl rfl, (fun g hg => by cases hg), ⟨Nat.le_refl _, by simp [maxLen], fun _ => rfl⟩, (fun k hk => by cases hk), by simp, h1, h2, HLO.out, (fun l hl => by cases hl), fun _ => rfl⟩, hb⟩
set_option maxRecDepth 100000 in
set_option maxHeartbeats 2000000 in
theorem hnew_no (most : Int) (h : ¬ (1 ≤ most ∧ most ≤ 256)) (w : World) :
    Calls Tryd.prog 6 #[.int .i64 most] w fun e w' => e = .returned (.tuple #[.pointer none, .int .i64 140]) ∧ w = w' := by
  by_cases h1 : most < 1
  · clear h
    go_enter Tryd.func6, Tryd.ntmps6
    go_wp2
    go_ret2
    exact ⟨rfl, rfl⟩
  · have h2 : most > 256 := by omega
    clear h
    go_enter Tryd.func6, Tryd.ntmps6
    go_wp2
    go_ret2
    exact ⟨rfl, rfl⟩

set_option maxRecDepth 100000 in
set_option maxHeartbeats 2000000 in
theorem hleave_any {w : World} {lo h c most : Nat} {A : Option Addr} {L : List (List UInt8)} {K : Option HW} (q : HsAt w lo h A c most L K) :
    Calls Tryd.prog 29 #[.pointer (some ⟨h, 0, none⟩)] w fun e w' => e = .returned (.bool K.isSome) ∧ HsAt w' lo h A c most L none ∧ Chg (one h) w w' := by
  have h0 := q.c0
  have Q := Lib.hid q
  cases K with
  | none =>
    have h4 : w.cell? ⟨h, 4, none⟩ = some .nilFunc := q.head.cell 4
    have hn := nil_nil
    clear q
    go_enter Tryd.func29, Tryd.ntmps29
    go_wp2_with (go_at_call 35; refine (hmade_yes h w h0).mono ?_; rintro e w' ⟨rfl, rfl⟩)
    go_ret
    exact ⟨rfl, Q.out, Chg.refl _ _⟩
  | some k =>
    have h4 : w.cell? ⟨h, 4, none⟩ = some (hasF k.xd k.xb) := q.head.cell 4
    have hn := fn_nil k.xd k.xb
    have HBK := Lib.hid q.head
    unfold hasF at h4 hn
    clear q
    go_enter Tryd.func29, Tryd.ntmps29
    go_wp2_with (first
      | (go_at_call 35; refine (hmade_yes h w h0).mono ?_; rintro e w' ⟨rfl, rfl⟩)
      | ((with_reducible refine at_store 17 ?_); refine wpList_store_blk rfl _ _ _ rfl rfl h 3 _ _ (wkC none) rfl rfl HBK.out (by simp [wkC]) wk_size (wkC_one none) ?_; intro w9 hn9 hg9))
    rw [HsAt.splice3] at hn9
    have hch := chg_of_grown hg9
    go_ret
    have hq := Q.out
    have hrne : ∀ g off, A = some ⟨g, off, none⟩ → g ≠ h := fun g off e => (hq.rne g (by rw [e]; rfl)).2.1
    exact ⟨rfl, ⟨hn9, (hch.sl hq.row (Nat.le_refl _) (fun g off e => hrne g off e)).more hch.size, fun g hg => by have := hq.rne g hg; have := hch.size; exact ⟨by omega, by omega, by omega⟩, hq.lc, (fun k hk => by cases hk), hq.le, hq.m1, hq.m4, hq.lo, hq.ok, hq.nn⟩, hch⟩
set_option maxHeartbeats 1000000 in
theorem hleave_not {w : World} {p : Option Addr} (h : HsNo w p) :
    Calls Tryd.prog 29 #[.pointer p] w fun e w' => e = .returned (.bool false) ∧ w = w' := by
  have H := Lib.hid h
  clear h
  go_enter Tryd.func29, Tryd.ntmps29
  go_wp2_with (go_at_call 35; refine (hmade_not H.out).mono ?_; rintro e w' ⟨rfl, rfl⟩)
  go_ret
  exact ⟨rfl, rfl⟩

set_option maxHeartbeats 1000000 in
theorem hlen_any {w : World} {lo h c most : Nat} {A : Option Addr} {L : List (List UInt8)} {K : Option HW} (q : HsAt w lo h A c most L K) :
    Calls Tryd.prog 12 #[.pointer (some ⟨h, 0, none⟩)] w fun e w' => e = .returned (.int .i64 L.length) ∧ w = w' := by
  have h0 := q.c0
  have h2 := q.c2
  clear q
  go_enter Tryd.func12, Tryd.ntmps12
  go_wp2_with (go_at_call 35; refine (hmade_yes h w h0).mono ?_; rintro e w' ⟨rfl, rfl⟩)
  go_ret
  exact ⟨rfl, rfl⟩
set_option maxHeartbeats 1000000 in
theorem hlen_not {w : World} {p : Option Addr} (h : HsNo w p) :
    Calls Tryd.prog 12 #[.pointer p] w fun e w' => e = .returned (.int .i64 0) ∧ w = w' := by
  have H := Lib.hid h
  clear h
  go_enter Tryd.func12, Tryd.ntmps12
  go_wp2_with (go_at_call 35; refine (hmade_not H.out).mono ?_; rintro e w' ⟨rfl, rfl⟩)
  go_ret
  exact ⟨rfl, rfl⟩

/-- the line at an index -/
def lineAt (L : List (List UInt8)) (i : Int) : List UInt8 × Bool := if 0 ≤ i then (match L[i.toNat]? with | none => ([], false) | some l => (l, true)) else ([], false)
theorem hs_at {w : World} {B : Nat} {A : Option Addr} {L : List (List UInt8)} (h : Sl w B A (sv L)) {k : Nat} {l : List UInt8} (hk : L[k]? = some l) : ∃ b off, A = some ⟨b, off, none⟩ ∧ b < B ∧ w.cell? ⟨b, off + k, none⟩ = some (.string ⟨l.toArray⟩) := by
  have hlt := (List.getElem?_eq_some_iff.1 hk).1
  obtain ⟨b, off, hA, hb, hc⟩ := h.open_ (by rw [sv_length]; omega)
  exact ⟨b, off, hA, hb, hc k _ (by simp [sv, hk])⟩
set_option maxRecDepth 100000 in
set_option maxHeartbeats 2000000 in
theorem hline_any {w : World} {lo h c most : Nat} {A : Option Addr} {L : List (List UInt8)} {K : Option HW} (q : HsAt w lo h A c most L K) (i : Int) :
    Calls Tryd.prog 32 #[.pointer (some ⟨h, 0, none⟩), .int .i64 i] w fun e w' => e = .returned (.tuple #[.string ⟨(lineAt L i).1.toArray⟩, .bool (lineAt L i).2]) ∧ w = w' := by
  have h2 := q.c2
  have hl4 := q.len4
  have HL := Lib.hid (hlen_any q)
  have HROW := Lib.hid q.row
  clear q
  by_cases h0 : i < 0
  · have e : lineAt L i = ([], false) := by unfold lineAt; rw [if_neg (by omega)]
    rw [e]
    clear e
    go_enter Tryd.func32, Tryd.ntmps32
    go_wp2
    go_ret2
    exact ⟨rfl, rfl⟩
  · obtain ⟨k, rfl⟩ : ∃ k : Nat, i = k := ⟨i.toNat, by omega⟩
    by_cases hk : k < L.length
    · have hk1 : (k : Int) < (L.length : Int) := by omega
      have hk2 : ¬ (L.length : Int) ≤ (k : Int) := by omega
      have e : lineAt L k = (L[k], true) := by unfold lineAt; rw [if_pos (by omega)]; simp [hk]
      rw [e]
      obtain ⟨b, off, hA, _, hcell⟩ := hs_at HROW.out (List.getElem?_eq_getElem hk)
      subst hA
      generalize L[k] = l at hcell e ⊢
      clear e h0
      go_enter Tryd.func32, Tryd.ntmps32
      go_wp2_with (go_at_call 12; refine HL.out.mono ?_; rintro e w' ⟨rfl, rfl⟩)
      go_ret2
      exact ⟨rfl, rfl⟩
    · have hk1 : (L.length : Int) ≤ (k : Int) := by omega
      have e : lineAt L k = ([], false) := by unfold lineAt; rw [if_pos (by omega)]; simp [List.getElem?_eq_none (Nat.le_of_not_lt hk)]
      rw [e]
      clear e hk h0
      have h0' : ¬ (k : Int) < 0 := by omega
      go_enter Tryd.func32, Tryd.ntmps32
      go_wp2_with (go_at_call 12; refine HL.out.mono ?_; rintro e w' ⟨rfl, rfl⟩)
      go_ret2
      exact ⟨rfl, rfl⟩
set_option maxRecDepth 100000 in
set_option maxHeartbeats 2000000 in
theorem hline_not {w : World} {p : Option Addr} (h : HsNo w p) (i : Int) :
    Calls Tryd.prog 32 #[.pointer p, .int .i64 i] w fun e w' => e = .returned (.tuple #[.string ⟨#[]⟩, .bool false]) ∧ w = w' := by
  have H := Lib.hid (hlen_not h)
  clear h
  by_cases h0 : i < 0
  · go_enter Tryd.func32, Tryd.ntmps32
    go_wp2
    go_ret2
    exact ⟨rfl, rfl⟩
  · have h1 : (0 : Int) ≤ i := by omega
    go_enter Tryd.func32, Tryd.ntmps32
    go_wp2_with (go_at_call 12; refine H.out.mono ?_; rintro e w' ⟨rfl, rfl⟩)
    go_ret2
    exact ⟨rfl, rfl⟩

set_option maxHeartbeats 400000 in
theorem hfrom_any (p : Option Addr) (a : Int) (w : World) : Calls Tryd.prog 37 #[.pointer p, .int .i64 a] w fun e w' =>
    e = .returned (.func (.func 54) #[] #[.pointer (some ⟨w.heap.size, 0, none⟩), .pointer (some ⟨w.heap.size + 1, 0, none⟩)]) ∧ w' = (w.alloc (.cells #[.pointer p] 23)).alloc (.cells #[.int .i64 a] 3) := by
  go_enter Tryd.func37, Tryd.ntmps37
  go_wp2
  go_ret
  exact ⟨rfl, rfl⟩
set_option maxHeartbeats 400000 in
theorem hall_any (p : Option Addr) (w : World) : Calls Tryd.prog 36 #[.pointer p] w fun e w' =>
    e = .returned (.func (.func 54) #[] #[.pointer (some ⟨w.heap.size, 0, none⟩), .pointer (some ⟨w.heap.size + 1, 0, none⟩)]) ∧ w' = (w.alloc (.cells #[.pointer p] 23)).alloc (.cells #[.int .i64 0] 3) := by
  go_enter Tryd.func36, Tryd.ntmps36
  go_wp2_with (go_at_call 37; refine (hfrom_any _ _ _).mono ?_; rintro e w' ⟨rfl, rfl⟩)
  go_ret
  exact ⟨rfl, rfl⟩

set_option maxRecDepth 100000 in
set_option maxHeartbeats 2000000 in
theorem hflat_any (s : ByteArray) (hs : s.size ≤ 1000) (w : World) (hT : Tabs w) :
    Calls Tryd.prog 49 #[.string s] w fun e w' => e = .returned (.tuple #[.string ⟨(flatB s.data.toList).toArray⟩, .bool (!(flatB s.data.toList == []))]) ∧ Below w.heap.size w w' := by
  have HT := Lib.hid hT
  clear hT
  have hl3 := flatB_le3 s.data.toList
  have hsz : s.data.toList.length = s.size := rfl
  have hfl : (flatB s.data.toList).length ≤ 3000 := by omega
  have HF := Lib.hid (cflat_any s (by omega))
  have hcl : ((cls (rs (flatB s.data.toList))).length : Int) ≤ 4096 := by have := cls_len (flatB s.data.toList); omega
  have HC := Lib.hid (ccount_any ⟨(flatB s.data.toList).toArray⟩ (by rw [size_of]; omega))
  simp only [List.toList_toArray] at HC
  generalize flatB s.data.toList = l at HF HC hfl hcl ⊢
  clear hl3 hsz hfl hs
  by_cases he : l = []
  · subst he
    have hne : ((⟨([] : List UInt8).toArray⟩ : ByteArray)) = ⟨#[]⟩ := rfl
    go_enter Tryd.func49, Tryd.ntmps49
    go_wp2_with (go_at_call 61; refine (HF.out w HT.out).mono ?_; rintro e w1 ⟨rfl, hb1⟩)
    go_ret2
    exact ⟨rfl, hb1⟩
  · have hq : (l == []) = false := by simpa using he
    have hq2 : l.isEmpty = false := by cases l with | nil => exact absurd rfl he | cons a t => rfl
    go_enter Tryd.func49, Tryd.ntmps49
    go_wp2_with (first
      | (go_at_call 61; refine (HF.out w HT.out).mono ?_; rintro e w1 ⟨rfl, hb1⟩; have HB1 := Lib.hid hb1)
      | (go_at_call 62; refine (HC.out w1 (HT.out.below HB1.out)).mono ?_; rintro e w2 ⟨rfl, hb2⟩))
    go_ret2
    exact ⟨by rw [hq]; rfl, HB1.out.trans (hb2.mono HB1.out.size)⟩
end Go.Proofs.YtfjiogockpmogaaDoor
