/-
  Walks: Leave, New, place, May, Line of the document's history.
-/
import Derived.Test.YtfjiogockpmogaaDoorHsRefM
import Derived.Test.YtfjiogockpmogaaDoorHsFns
import Derived.Test.YtfjiogockpmogaaDoorGfS
namespace Go.Proofs.YtfjiogockpmogaaDoor
open Go.RowKit
set_option linter.unusedVariables false
set_option linter.unusedSimpArgs false

theorem rh_size : (Tryd.prog.info? 29).map (·.size) = some 6 := by kernel_rfl
theorem hsres_ct {fn : Func} {tmps : Array Value} {a t b : Nat} {ad : Nat} {cs : List Value} {v : Value} {w : World} {d : TypeDesc} (hf : fn.results = #[.cell a t, .tmp b]) (ha : tmps.getD a undef = .pointer (some ⟨ad, 0, none⟩)) (hb : tmps.getD b undef = v)
    (hc : w.rangeAt ad 0 cs) (hu : Tryd.prog.underlying t = some d) (hd : d.isRow = true) (hi : (Tryd.prog.info? t).map (·.size) = some cs.length) : (results fn tmps).run Tryd.prog w = .ok (.tuple #[.agg cs.toArray, v]) w := by
  have hl := run_loadVar_mid (P := Tryd.prog) w ad 0 t cs d hc hu hd hi
  have ha' := hsgetD ha
  have hb' := hsgetD hb
  unfold results
  simp [hf, ha', hb', asAddr, hl]
theorem hsres_ctt {fn : Func} {tmps : Array Value} {a t b c : Nat} {ad : Nat} {cs : List Value} {v u : Value} {w : World} {d : TypeDesc} (hf : fn.results = #[.cell a t, .tmp b, .tmp c]) (ha : tmps.getD a undef = .pointer (some ⟨ad, 0, none⟩)) (hb : tmps.getD b undef = v) (hc2 : tmps.getD c undef = u)
    (hc : w.rangeAt ad 0 cs) (hu : Tryd.prog.underlying t = some d) (hd : d.isRow = true) (hi : (Tryd.prog.info? t).map (·.size) = some cs.length) : (results fn tmps).run Tryd.prog w = .ok (.tuple #[.agg cs.toArray, v, u]) w := by
  have hl := run_loadVar_mid (P := Tryd.prog) w ad 0 t cs d hc hu hd hi
  have ha' := hsgetD ha
  have hb' := hsgetD hb
  have hc' := hsgetD hc2
  unfold results
  simp [hf, ha', hb', hc', asAddr, hl]

set_option maxRecDepth 100000 in
set_option maxHeartbeats 2000000 in
theorem rhleave_any (most : Nat) (A : Option Addr) (n c : Nat) (K : Option HW) (w : World) :
    Calls Tryd.prog 30 #[.agg (rvC most A n c K).toArray] w fun e w' => e = .returned (.tuple #[.agg (rvC most A n c none).toArray, .bool K.isSome]) ∧ Below w.heap.size w w' := by
  obtain ⟨u2, u3, u4, u5, hu, hs⟩ : ∃ (u2 u3 u4 u5 : Value), rvC most A n c K = [.int .i64 most, .slice A n c, u2, u3, u4, u5] ∧ u2 = .bool K.isSome := by
    cases K <;> exact ⟨_, _, _, _, rfl, rfl⟩
  rw [hu, hs]
  generalize K.isSome = v
  clear hu hs
  go_enter Tryd.func30, Tryd.ntmps30
  go_wp2
  have hz := (Blk.new (w.alloc (.cells #[.int .i64 most, .slice A n c, .bool false, .string ⟨#[]⟩, .string ⟨#[]⟩, .int .i64 0] 29)) 29 (rvC most A n c none))
  rw [World.size_alloc] at hz
  refine bodyPost_ret (v := .tuple #[.agg (rvC most A n c none).toArray, .bool v]) (hsres_ct rfl rfl rfl (hz.range 0 _ (fun j v hv => by simpa using hv)) Tryd.underlying29 rfl rh_size) rfl ⟨rfl, ?_⟩
  exact ((Below.refl _ w).alloc (Nat.le_refl _) _).alloc (by simp) _

set_option maxRecDepth 100000 in
set_option maxHeartbeats 2000000 in
theorem rhnew_ok (most : Nat) (h1 : 1 ≤ most) (h2 : most ≤ 256) (w : World) :
    Calls Tryd.prog 7 #[.int .i64 most] w fun e w' => e = .returned (.tuple #[.agg (rvC most none 0 0 none).toArray, .int .i64 0]) ∧ Below w.heap.size w w' := by
  go_enter Tryd.func7, Tryd.ntmps7
  go_wp2
  have hz := (Blk.new w 29 (rvC most none 0 0 none))
  refine bodyPost_ret (v := .tuple #[.agg (rvC most none 0 0 none).toArray, .int .i64 0]) (hsres_ct rfl rfl rfl (hz.range 0 _ (fun j v hv => by simpa using hv)) Tryd.underlying29 rfl rh_size) rfl ⟨rfl, ?_⟩
  exact (Below.refl _ w).alloc (Nat.le_refl _) _
set_option maxRecDepth 100000 in
set_option maxHeartbeats 2000000 in
theorem rhnew_no (most : Int) (h : ¬ (1 ≤ most ∧ most ≤ 256)) (w : World) :
    Calls Tryd.prog 7 #[.int .i64 most] w fun e w' => e = .returned (.tuple #[.agg (rvC 0 none 0 0 none).toArray, .int .i64 140]) ∧ Below w.heap.size w w' := by
  have hz := (Blk.new w 29 (rvC 0 none 0 0 none))
  by_cases h1 : most < 1
  · clear h
    go_enter Tryd.func7, Tryd.ntmps7
    go_wp2
    refine bodyPost_ret (v := .tuple #[.agg (rvC 0 none 0 0 none).toArray, .int .i64 140]) (hsres_ct rfl rfl rfl (hz.range 0 _ (fun j v hv => by simpa using hv)) Tryd.underlying29 rfl rh_size) rfl ⟨rfl, ?_⟩
    exact (Below.refl _ w).alloc (Nat.le_refl _) _
  · have h2 : most > 256 := by omega
    clear h
    go_enter Tryd.func7, Tryd.ntmps7
    go_wp2
    refine bodyPost_ret (v := .tuple #[.agg (rvC 0 none 0 0 none).toArray, .int .i64 140]) (hsres_ct rfl rfl rfl (hz.range 0 _ (fun j v hv => by simpa using hv)) Tryd.underlying29 rfl rh_size) rfl ⟨rfl, ?_⟩
    exact (Below.refl _ w).alloc (Nat.le_refl _) _

set_option maxRecDepth 100000 in
set_option maxHeartbeats 4000000 in
theorem rplace_any (L : List (List UInt8)) (s : List UInt8) (A : Option Addr) (n c : Nat) (hl : n = L.length) (hl4 : n ≤ 1000000) (w : World) (hS : Sl w w.heap.size A (sv L)) :
    Calls Tryd.prog 44 #[.slice A n c, .string ⟨s.toArray⟩] w fun e w' => e = .returned (.int .i64 (placeV L s)) ∧ w = w' := by
  have HS := Lib.hid hS
  have HL := Lib.hid hl
  obtain ⟨v, hv⟩ : ∃ v, v = placeV L s := ⟨_, rfl⟩
  rw [← hv]
  have HV := Lib.hid hv
  clear hS hl hv
  go_enter Tryd.func44, Tryd.ntmps44
  go_wp2
  go_loop [5] (fun u => ∃ k : Nat, u = .int .i64 k ∧ k ≤ n ∧ (∀ j, j < k → ∀ x, L[j]? = some x → x ≠ s)) (fun u => n - (intOf u).toNat)
  case atStart => exact ⟨0, rfl, by omega, fun j hj => by omega⟩
  case round =>
    obtain ⟨k, rfl, hk, hno⟩ := hrel
    have HNO := Lib.hid hno
    clear hno
    by_cases hlt : k < n
    · have hki : (k : Int) < n := by omega
      have hkl : k < L.length := by have := HL.out; omega
      obtain ⟨b, off, hA, _, hcell⟩ := hs_at HS.out (List.getElem?_eq_getElem hkl)
      subst hA
      have hget := List.getElem?_eq_getElem hkl
      generalize L[k] = x at hcell hget
      have HG := Lib.hid hget
      clear hget
      by_cases he : x = s
      · have hq : (x == s) = true := by simpa using he
        have hv2 : (k : Int) = v := by rw [HV.out]; exact (placeV_at HNO.out (by rw [HG.out, he])).symm
        have HV2 := Lib.hid hv2
        clear he hv2
        go_wp2
        go_ret
        exact ⟨ret_int HV2.out, rfl⟩
      · have hq : (x == s) = false := by simpa using he
        have HNE := Lib.hid he
        clear he
        go_wp2
        go_round
        case rel => exact ⟨k + 1, by go_num, by omega, fun j hj y hy => by
          rcases Nat.lt_succ_iff_lt_or_eq.1 hj with h | h
          · exact HNO.out j h y hy
          · subst h; rw [HG.out] at hy; injection hy with hy; rw [← hy]; exact HNE.out⟩
        case measure => simp [intOf]; omega
    · have hki : ¬ (k : Int) < n := by omega
      have hv2 : (-1 : Int) = v := by
        rw [HV.out]
        exact (placeV_no (fun j x hx => HNO.out j (by have := (List.getElem?_eq_some_iff.1 hx).1; have := HL.out; omega) x hx)).symm
      have HV2 := Lib.hid hv2
      clear hv2
      go_wp2
      go_ret
      exact ⟨ret_int HV2.out, rfl⟩

set_option maxRecDepth 100000 in
set_option maxHeartbeats 2000000 in
theorem rmay_any (x : List UInt8) (hx : (flatB x).length ≤ 3000) (w : World) :
    Calls Tryd.prog 43 #[.string ⟨(flatB x).toArray⟩] w fun e w' => e = .returned (.bool (!(flatB x == []))) ∧ Below w.heap.size w w' := by
  have hff := flatB_flatB x
  have HF := Lib.hid (rflat_any ⟨(flatB x).toArray⟩ (by rw [size_of]; omega))
  have HC := Lib.hid (rcut_any ⟨(flatB x).toArray⟩ (by rw [size_of]; omega))
  have hcl : ((cls (rs (flatB x))).length : Int) ≤ 4096 := by have := cls_len (flatB x); omega
  simp only [List.toList_toArray] at HF HC
  rw [hff] at HF
  generalize flatB x = l at *
  clear hff hx
  by_cases he : l = []
  · subst he
    have hne : ((⟨([] : List UInt8).toArray⟩ : ByteArray)) = ⟨#[]⟩ := rfl
    go_enter Tryd.func43, Tryd.ntmps43
    go_wp2
    go_ret
    exact ⟨rfl, Below.refl _ _⟩
  · have hq : l.isEmpty = false := by cases l with | nil => exact absurd rfl he | cons a t => rfl
    have hv : (!(l == [])) = true := by cases l with | nil => exact absurd rfl he | cons a t => rfl
    rw [hv]
    clear he hv
    go_enter Tryd.func43, Tryd.ntmps43
    go_wp2_with (first
      | (go_at_call 53; refine (HF.out w).mono ?_; rintro e w1 ⟨rfl, hb1⟩; have HB1 := Lib.hid hb1)
      | (go_at_call 58; refine (HC.out w1).mono ?_; rintro e w2 ⟨A2, c2, rfl, ho2, hb2⟩))
    go_ret
    exact ⟨rfl, HB1.out.trans (hb2.mono HB1.out.size)⟩
end Go.Proofs.YtfjiogockpmogaaDoor
