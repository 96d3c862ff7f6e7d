/-
  The law GridRuns, walked.
-/
import Derived.Test.YtijbimofigkdkaaDoorGrSameR
import Derived.Test.YtijbimofigkdkaaDoorGrStep
import Derived.Test.YtijbimofigkdkaaDoorGrWhole
import Derived.Test.YtijbimofigkdkaaDoorGrFork
import Derived.Test.YtijbimofigkdkaaDoorGrSame
import Derived.Test.YtijbimofigkdkaaDoorGrAwake
import Derived.Deep.RegionHeld3
namespace Go.Proofs.YtijbimofigkdkaaDoor
open Go.RowKit
set_option linter.unusedVariables false
set_option linter.unusedSimpArgs false

/-- What stands behind a round: the grid, the reference's in its box, apart from each other. -/
def RunSt (w : World) (z : Nat) (wr : World) (g rb : Nat) (bs : List Nat) (W : Nat) (L : List (List Cl)) (A : Option Addr) (c : Nat) : Prop :=
  GrAt wr w.heap.size g rb bs W L ∧ Blk wr z 29 (rgC W L.length A c) ∧ RfAt wr (fun b => b ≠ z ∧ ¬ GrOwn g rb bs b) A c L ∧ ¬ GrOwn g rb bs z ∧ Below w.heap.size w wr ∧ w.heap.size ≤ z ∧ z < wr.heap.size
theorem RunSt.below {w wr w' : World} {z g rb W c : Nat} {bs : List Nat} {L : List (List Cl)} {A : Option Addr} (h : RunSt w z wr g rb bs W L A c) (hb : Below wr.heap.size wr w') : RunSt w z w' g rb bs W L A c := by
  obtain ⟨h1, h2, h3, h4, h5, h6, h7⟩ := h
  exact ⟨h1.below hb, h2.below hb h7, h3.below hb, h4, h5.trans (hb.mono h5.size), h6, Nat.lt_of_lt_of_le h7 hb.size⟩
theorem ptr_nn (w : World) : Sem.run Tryd.prog (binOp .neq 23 (.pointer none) (.pointer none)) w = .ok (.bool false) w := by
  have h : ∀ d : Nat, (Op.equalIn (d + 1) 23 (.pointer none) (.pointer none)).run Tryd.prog w = .ok true w := fun d => by
    simp [Op.equalIn, run_underlying Tryd.underlying23]
  simp only [binOp]
  simp [Op.equal, Op.maxDepth, h 9999]
theorem ptr_en (w : World) : Sem.run Tryd.prog (binOp .eql 23 (.pointer none) (.pointer none)) w = .ok (.bool true) w := by
  have h : ∀ d : Nat, (Op.equalIn (d + 1) 23 (.pointer none) (.pointer none)).run Tryd.prog w = .ok true w := fun d => by
    simp [Op.equalIn, run_underlying Tryd.underlying23]
  simp only [binOp]
  simp [Op.equal, Op.maxDepth, h 9999]

/-- sides as the law takes them -/
def clip (m x : Int) : Int := if m < x ∧ x ≤ 500 then 1 + x % m else x

set_option maxRecDepth 100000 in
set_option maxHeartbeats 16000000 in
theorem gridRuns_walk (a b : Int) (a0 : -9223372036854775808 ≤ a) (a1 : a ≤ 9223372036854775807) (b0 : -9223372036854775808 ≤ b) (b1 : b ≤ 9223372036854775807) (l : List OpV) (hok : ∀ o ∈ l, o.ok) (n c : Nat) (A : Option Addr) (hn : n = l.length) (hm : n ≤ maxLen) (w : World) (hS : Sl w w.heap.size A (oc l)) (hT : BlankT w) :
    Calls Tryd.prog 3 #[.int .i64 a, .int .i64 b, .slice A n c] w fun e w' => e = .returned (.bool true) ∧ Below w.heap.size w w' := by
  have HN := Lib.hid hn
  have HM := Lib.hid hm
  have HS := Lib.hid hS
  have HT := Lib.hid hT
  have HOK := Lib.hid hok
  have hmi : (n : Int) ≤ 9223372036854775807 := by unfold maxLen at hm; omega
  have hlo := hT.2
  clear hn hS hT hok hm
  go_enter Tryd.func3, Tryd.ntmps3
  obtain ⟨d40, hd40⟩ : ∃ d, d = decide (40 < a ∧ a ≤ 500) := ⟨_, rfl⟩
  have HD40 := Lib.hid hd40
  clear hd40
  go_upto_region 1 with fail
  go_cut [21] (fun s21 wx => s21 = .bool d40 ∧ w = wx)
  case first =>
    by_cases h1 : 40 < a
    · by_cases h2 : a ≤ 500
      · have HC : Hid (d40 = true) := by show _ = _; rw [HD40.out]; simp [h1, h2]
        go_wp2_with fail
        go_meet
        exact ⟨by rw [HC.out], rfl⟩
      · have HC : Hid (d40 = false) := by show _ = _; rw [HD40.out]; simp [h2]
        go_wp2_with fail
        go_meet
        exact ⟨by rw [HC.out], rfl⟩
    · have HC : Hid (d40 = false) := by show _ = _; rw [HD40.out]; simp [h1]
      go_wp2_with fail
      go_meet
      exact ⟨by rw [HC.out], rfl⟩
  case rest =>
  obtain ⟨rfl, rfl⟩ := hcut
  go_upto_if 21 with fail
  go_cut [0] (fun s0 wx => s0 = .int .i64 (clip 40 a) ∧ w = wx)
  case first =>
    have hq : (d40 = true ∧ 40 < a ∧ a ≤ 500) ∨ (d40 = false ∧ ¬ (40 < a ∧ a ≤ 500)) := by
      rw [HD40.out]
      by_cases h : 40 < a ∧ a ≤ 500
      · exact .inl ⟨by simp [h], h⟩
      · exact .inr ⟨by simp; omega, h⟩
    clear HD40
    rcases hq with ⟨rfl, h1, h2⟩ | ⟨rfl, h⟩
    · have HC : Hid (clip 40 a = 1 + a % 40) := by show _ = _; unfold clip; rw [if_pos ⟨h1, h2⟩]
      go_wp2_with fail
      go_meet
      exact ⟨congrArg (Value.int .i64) (by rw [HC.out]), rfl⟩
    · have HC : Hid (clip 40 a = a) := by show _ = _; unfold clip; rw [if_neg h]
      clear h
      go_wp2_with fail
      go_meet
      exact ⟨congrArg (Value.int .i64) (by rw [HC.out]), rfl⟩
  case rest =>
  obtain ⟨rfl, rfl⟩ := hcut
  clear HD40
  obtain ⟨d20, hd20⟩ : ∃ d, d = decide (20 < b ∧ b ≤ 500) := ⟨_, rfl⟩
  have HD20 := Lib.hid hd20
  clear hd20
  go_upto_region 3 with fail
  go_cut [30] (fun s30 wx => s30 = .bool d20 ∧ w = wx)
  case first =>
    by_cases h1 : 20 < b
    · by_cases h2 : b ≤ 500
      · have HC : Hid (d20 = true) := by show _ = _; rw [HD20.out]; simp [h1, h2]
        go_wp2_with fail
        go_meet
        exact ⟨by rw [HC.out], rfl⟩
      · have HC : Hid (d20 = false) := by show _ = _; rw [HD20.out]; simp [h2]
        go_wp2_with fail
        go_meet
        exact ⟨by rw [HC.out], rfl⟩
    · have HC : Hid (d20 = false) := by show _ = _; rw [HD20.out]; simp [h1]
      go_wp2_with fail
      go_meet
      exact ⟨by rw [HC.out], rfl⟩
  case rest =>
  obtain ⟨rfl, rfl⟩ := hcut
  go_upto_if 30 with fail
  go_cut [0, 1] (fun s0 s1 wx => s0 = .int .i64 (clip 40 a) ∧ s1 = .int .i64 (clip 20 b) ∧ w = wx)
  case first =>
    have hq : (d20 = true ∧ 20 < b ∧ b ≤ 500) ∨ (d20 = false ∧ ¬ (20 < b ∧ b ≤ 500)) := by
      rw [HD20.out]
      by_cases h : 20 < b ∧ b ≤ 500
      · exact .inl ⟨by simp [h], h⟩
      · exact .inr ⟨by simp; omega, h⟩
    clear HD20
    rcases hq with ⟨rfl, h1, h2⟩ | ⟨rfl, h⟩
    · have HC : Hid (clip 20 b = 1 + b % 20) := by show _ = _; unfold clip; rw [if_pos ⟨h1, h2⟩]
      go_wp2_with fail
      go_meet
      exact ⟨rfl, congrArg (Value.int .i64) (by rw [HC.out]), rfl⟩
    · have HC : Hid (clip 20 b = b) := by show _ = _; unfold clip; rw [if_neg h]
      clear h
      go_wp2_with fail
      go_meet
      exact ⟨rfl, congrArg (Value.int .i64) (by rw [HC.out]), rfl⟩
  case rest =>
  obtain ⟨rfl, rfl, rfl⟩ := hcut
  clear HD20
  generalize clip 40 a = x
  generalize clip 20 b = y
  by_cases hgood : sideB x = true ∧ sideB y = true
  · obtain ⟨hx, hy⟩ := hgood
    obtain ⟨W, hW⟩ : ∃ W : Nat, x = W := ⟨x.toNat, by simp [sideB] at hx; omega⟩
    obtain ⟨H, hH⟩ : ∃ H : Nat, y = H := ⟨y.toNat, by simp [sideB] at hy; omega⟩
    subst hW hH
    have wW : 1 ≤ W ∧ W ≤ 500 := by simp [sideB] at hx; omega
    have wH : 1 ≤ H ∧ H ≤ 500 := by simp [sideB] at hy; omega
    obtain ⟨w1, w5⟩ := wW
    obtain ⟨h1, h5⟩ := wH
    clear hx hy
    go_wp2_with (fail)
    refine (new_ok W H w1 w5 h1 h5 _ HT.out).mono ?_
    rintro e w2 ⟨g, rb, bs, rfl, hg2, hb2⟩
    have HG2 := Lib.hid hg2
    have HB2 := Lib.hid hb2
    have hpe := ptr_eqn g
    clear hg2 hb2
    go_wp2_with (fail)
    refine (rnew_ok W H w1 w5 h1 h5 _).mono ?_
    rintro e w3 ⟨V, rfl, ⟨A3, c3, hV, hr3⟩, hb3⟩
    subst hV
    have hL0 : (blankG W H).length = H := by simp [blankG]
    have HL0 := Lib.hid hL0
    have HG3 := Lib.hid (HG2.out.below hb3)
    have HB3 := Lib.hid (HB2.out.trans (hb3.mono HB2.out.size))
    have HR3 := Lib.hid hr3
    have HOL := Lib.hid HG2.out.own_lt
    have HN3 := Lib.hid (Blk.new w3 29 (rgC 0 0 none 0))
    have HZ2 := Lib.hid hb3.size
    clear hr3 hb3 hL0
    go_wp2_with ((with_reducible refine at_store 9 ?_); refine wpList_store_blk rfl _ _ _ rfl rfl w3.heap.size 0 _ (rgC 0 0 none 0) (rgC W (blankG W H).length A3 c3) rfl rfl HN3.out (by simp [rgC]) rg_size (rgC_one _ _ _ _) ?_; intro w4 hn4 hg4; have hn4' : Blk w4 w3.heap.size 29 (rgC W (blankG W H).length A3 c3) := hn4; have hb4 : Below w3.heap.size w3 w4 := ((Below.refl _ _).alloc (Nat.le_refl _) _).grown hg4 (by simp) (fun j hj => by injection hj with hj; omega); have HN4 := Lib.hid hn4'; have HB4 := Lib.hid hb4; clear hn4 hn4' hg4 hb4)
    have hst : RunSt w w3.heap.size w4 g rb bs W (blankG W H) A3 c3 := by
      have hs2 := HB2.out.size
      have hs3 := HZ2.out
      refine ⟨HG3.out.below HB4.out, HN4.out, (HR3.out.mono (fun b hb h => ⟨by omega, fun e => by have := HOL.out _ e; omega⟩)).below HB4.out, fun e => ?_, HB3.out.trans (HB4.out.mono HB3.out.size), by omega, HN4.out.lt⟩
      have := HOL.out _ e
      omega
    have HST := Lib.hid hst
    clear hst HG2 HB2 HG3 HB3 HR3 HOL HN3 HZ2 HN4 HB4 hpe
    have hpe := ptr_eqn g
    have HAW := Lib.hid (awake_any w4 (HT.out.below HST.out.2.2.2.2.1 hlo))
    go_wp2_with (fail)
    refine HAW.out.mono ?_
    rintro e wa ⟨rfl, hba⟩
    have HSA := Lib.hid (HST.out.below hba)
    clear HST HAW hba
    generalize w3.heap.size = z at HSA ⊢
    generalize blankG W H = L0 at HSA HL0 ⊢
    go_wp2_with (fail)
    go_loopw [7, 11] (fun v7 v11 wr => ∃ (k g rb : Nat) (bs : List Nat) (W : Nat) (L : List (List Cl)) (A : Option Addr) (c : Nat), v7 = .pointer (some ⟨g, 0, none⟩) ∧ v11 = .int .i64 k ∧ k ≤ n ∧ k ≤ 50 ∧ RunSt w z wr g rb bs W L A c) (fun _ v11 _ => 50 - (intOf v11).toNat)
    case atStart => exact ⟨0, g, rb, bs, W, L0, A3, c3, rfl, rfl, by omega, by omega, HSA.out⟩
    case round =>
    clear HSA hpe HL0 w1 w5 h1 h5
    obtain ⟨k, g5, rb5, bs5, W5, L5, A5, c5, rfl, rfl, hk, hk5, hst⟩ := hrel
    have HST := Lib.hid hst
    clear hst
    have hpn := ptr_ne g5
    by_cases hlt : k < n ∧ k < 50
    · obtain ⟨hkn, hk50⟩ := hlt
      have hki : (k : Int) < n := by omega
      have hki5 : (k : Int) < 50 := by omega
      have hx : l[k]? = some (l[k]'(by have := HN.out; omega)) := List.getElem?_eq_getElem _
      generalize l[k]'(by have := HN.out; omega) = o at hx
      have hook := HOK.out o (List.mem_of_getElem? hx)
      obtain ⟨ab, off, rfl, hab, hcell⟩ := HS.out.open_ (by rw [oc_length]; have := HN.out; omega)
      have hrg : wr.rangeAt ab (off + k * 12) o.cells := fun j v hv => by
        rw [Nat.add_assoc]
        exact (HST.out.2.2.2.2.1.cell (p := ⟨ab, off + (k * 12 + j), none⟩) hab).trans (hcell _ v (oc_get hx hv))
      have HRG := Lib.hid hrg
      have HFW := Lib.hid (few_any o hook)
      have hok2 := hook.few
      have hs70 := few_s o
      generalize fewM o = p at HFW hok2 hs70
      have d0 := hok2.d0
      have d1 := hok2.d1
      have HOK2 := Lib.hid hok2
      clear hx hook hcell hrg hok2
      go_upto_region 13 with (first
        | ((with_reducible refine at_dst 77 ?_); refine wpList_load_mid rfl _ _ rfl ab (off + k * 12) rfl o.cells _ HRG.out Tryd.underlying36 rfl op_size ?_)
        | (go_at_call 10; refine (HFW.out wr).mono ?_; rintro e w2 ⟨rfl, hb2⟩; have HB2 := Lib.hid hb2; have HN2 := Lib.hid (Blk.new w2 36 ozero.cells); clear hb2)
        | ((with_reducible refine at_store 12 ?_); refine wpList_store_blk rfl _ _ _ rfl rfl w2.heap.size 0 _ ozero.cells p.cells rfl rfl HN2.out (by simp [OpV.len]) op_size p.one ?_; intro w5 hn5 hg5))
      have hn5' : Blk w5 w2.heap.size 36 p.cells := hn5
      have hb5 : Below w2.heap.size w2 w5 := ((Below.refl _ _).alloc (Nat.le_refl _) _).grown hg5 (by simp) (fun j hj => by injection hj with hj; omega)
      have HS5 := Lib.hid ((HST.out.below HB2.out).below hb5)
      have HO5 := Lib.hid hn5'
      have hob : wr.heap.size ≤ w2.heap.size := HB2.out.size
      have HOB := Lib.hid (show ∀ j, GrOwn g5 rb5 bs5 j → j < w2.heap.size from fun j hj => by have := HST.out.1.own_lt j hj; omega)
      have hzo : z < w2.heap.size := Nat.lt_of_lt_of_le HST.out.2.2.2.2.2.2 hob
      clear hn5 hn5' hg5 hb5 hob
      have c0 : w5.cell? ⟨w2.heap.size, 0, none⟩ = some (.int .u8 p.d) := HO5.out.cell 0
      generalize w2.heap.size = ob at HO5 HOB hzo c0 ⊢
      clear HST HB2 HN2 HRG HFW
      obtain ⟨kg, kz, kr, knz, kbw, klz, kzl⟩ := HS5.out
      have HG := Lib.hid kg
      have HZ := Lib.hid kz
      have HR := Lib.hid kr
      have HNZ := Lib.hid knz
      have HBW := Lib.hid kbw
      have HBT := Lib.hid (HT.out.below kbw hlo)
      have hwz := kbw.size
      clear kg kz kr knz kbw
      by_cases m9 : p.d % 10 = 9
      · have e9 : (p.d % 10 == 9) = true := by simp [m9]
        clear m9
        go_wp2_with (fail)
        refine (fork_any HG.out HBT.out).mono ?_
        rintro e wf ⟨g2, rb2, bs2, rfl, hgf, hbf⟩
        have hof := hgf.lo
        have HOF := Lib.hid hof
        have hol := HO5.out.lt
        have HRF := Lib.hid ((HR.out.mono (D' := fun j => j ≠ z ∧ ¬ GrOwn g5 rb5 bs5 j ∧ ¬ GrOwn g2 rb2 bs2 j) (fun j hj h => ⟨h.1, h.2, fun e => by have := hof j e; omega⟩)).below hbf)
        have HFF := Lib.hid hgf
        have HGF := Lib.hid (HG.out.below hbf)
        have HBF := Lib.hid hbf
        have hpe2 := ptr_eqn g2
        clear hgf hbf hof c0
        go_wp2_with (fail)
        refine (gsame_any HFF.out HGF.out).mono ?_
        rintro e ws ⟨rfl, hbs⟩
        rw [show decide (L5 = L5) = true by simp]
        have HB7 := Lib.hid (HBF.out.trans (hbs.mono HBF.out.size))
        have HG7 := Lib.hid (HGF.out.below hbs)
        have HF7 := Lib.hid (HFF.out.below hbs)
        have HR7 := Lib.hid (HRF.out.below hbs)
        have HT7 := Lib.hid (HT.out.below (HBW.out.trans (HB7.out.mono HBW.out.size)) hlo)
        clear hbs HGF HFF HRF HBF
        go_wp2_with (fail)
        refine (put_any HG7.out HT7.out hlo 0 0 [122, 122] 1 ⟨false, true, false, 0, 0⟩ (by simp)).mono ?_
        rintro e w8 ⟨rfl, hg8, hc8⟩
        generalize putM W5 L5 0 0 [122, 122] 1 ⟨false, true, false, 0, 0⟩ = P at hg8 ⊢
        have HG8 := Lib.hid hg8
        have HC8 := Lib.hid hc8
        have hw8 : w.heap.size ≤ w8.heap.size := by have := hc8.size; have := HB7.out.size; omega
        have HT8 := Lib.hid (HT7.out.below (hc8.below (B := w.heap.size) (by have := HB7.out.size; omega) (fun j hj => HG.out.lo j hj)) hlo)
        clear hg8 hc8
        go_wp2_with (fail)
        refine (scroll_ok HG8.out HT8.out hlo hw8 1 (by omega) (by omega)).mono ?_
        rintro e w6 ⟨rfl, bs9, _, _, hc9⟩
        have HC9 := Lib.hid hc9
        clear hc9
        go_upto_region 24 with fail
        have hap : ∀ j, GrOwn g2 rb2 bs2 j → ¬ GrOwn g5 rb5 bs5 j := fun j h1 h2 => by have := HOF.out j h1; have := HOB.out j h2; omega
        have HZ7 := Lib.hid (HZ.out.below HB7.out kzl)
        have HS6 : Hid (RunSt w z w6 g2 rb2 bs2 W5 L5 A5 c5) := by
          have q1 : Below w.heap.size w ws := HBW.out.trans (HB7.out.mono HBW.out.size)
          have q2 : Below w.heap.size w w8 := q1.trans (HC8.out.below q1.size (fun j hj => HG.out.lo j hj))
          have q3 : Below w.heap.size w w6 := q2.trans (HC9.out.below q2.size (fun j hj => HG.out.lo j hj))
          have f := (HF7.out.keep HC8.out hap).keep HC9.out hap
          refine ⟨{ f with lo := fun j hj => Nat.le_trans hwz (f.lo j hj) }, (HZ7.out.chg HC8.out HNZ.out).chg HC9.out HNZ.out, (((HR7.out.chg HC8.out (fun j _ h => h.2.1)).chg HC9.out (fun j _ h => h.2.1)).mono (fun j _ h => ⟨h.1, h.2.2⟩)), fun e => by have := HOF.out z e; omega, q3, klz, ?_⟩
          have := HB7.out.size
          have := HC8.out.size
          have := HC9.out.size
          omega
        have HO6 : Hid (Blk w6 ob 36 p.cells) := ((HO5.out.below HB7.out hol).chg HC8.out (fun e => by have := HOB.out _ e; omega)).chg HC9.out (fun e => by have := HOB.out _ e; omega)
        clear HG8 HC8 HC9 HT7 HT8 HR7 HF7 HG7 HB7 HZ7 HOF hap hw8 hol HG HZ HR HNZ HBW HBT HS5 HO5 HOB
        obtain ⟨kg, kz, kr, knz, kbw, klz, kzl⟩ := HS6.out
        have kh1 := kg.h1
        have kh5 := kg.h5
        have kw5 := kg.w5
        have kq := kg.rws_
        obtain ⟨q, hq⟩ : ∃ q, q = k % L5.length := ⟨_, rfl⟩
        have hql : q < L5.length := by rw [hq]; exact Nat.mod_lt _ (by omega)
        have hl : L5[q]? = some (L5.getD q []) := getD_some hql
        generalize L5.getD q [] = r at hl
        obtain ⟨hlen, hwf⟩ := kq.wd q r hl
        have e1 : Int.tmod (k : Int) (L5.length : Int) = (q : Int) := by rw [hq]; rfl
        have e2 : ((k : Int) % (L5.length : Int)) = (q : Int) := by rw [hq]; rfl
        have e3 : ((L5.length : Int) == 0) = false := by rw [beq_eq_false_iff_ne]; omega
        have e4 : ¬ ((L5.length : Int) = 0) := by omega
        have e5 : (0 : Int) < (L5.length : Int) := by omega
        have e6 : ((k % L5.length : Nat) : Int) = (q : Int) := by rw [hq]
        have qs : ∀ w', Below w6.heap.size w6 w' → Calls Tryd.prog 16 #[.pointer (some ⟨g2, 0, none⟩), .agg #[.int .i64 W5, .int .i64 L5.length, .slice A5 L5.length c5], .int .i64 p.row, .int .i64 p.col] w' fun e w'' => e = .returned (.bool true) ∧ Below w6.heap.size w6 w'' := fun w' hb => (samer_any (kg.below hb) (kr.below hb) p.row p.col).mono fun e w'' ⟨x, y⟩ => ⟨x, hb.trans (y.mono hb.size)⟩
        have qr : ∀ w', Below w6.heap.size w6 w' → Calls Tryd.prog 18 #[.pointer (some ⟨g2, 0, none⟩), .int .i64 q] w' fun e w'' => ∃ A1 c1, e = .returned (.slice A1 W5 c1) ∧ Sl w'' w''.heap.size A1 (rc r) ∧ Below w6.heap.size w6 w'' := fun w' hb => (row_yes (kg.below hb) q r hl).mono fun e w'' ⟨A1, c1, x, hs, y⟩ => ⟨A1, c1, x, hs, hb.trans (y.mono hb.size)⟩
        have QS := Lib.hid qs
        have QR := Lib.hid qr
        clear qs qr
        have hk9 : ∀ w', Below w6.heap.size w6 w' → Below w6.heap.size w6 w' ∧ w'.cell? ⟨z, 0, none⟩ = some (.int .i64 W5) ∧ w'.cell? ⟨z, 1, none⟩ = some (.int .i64 L5.length) ∧ w'.cell? ⟨z, 2, none⟩ = some (.slice A5 L5.length c5) ∧ w'.cell? ⟨ob, 1, none⟩ = some (.int .i64 p.row) ∧ w'.cell? ⟨ob, 2, none⟩ = some (.int .i64 p.col) := fun w' hb => by
          obtain ⟨f0, f1, f2⟩ := blk3 (kz.below hb kzl)
          have ho := HO6.out.below hb HO6.out.lt
          exact ⟨hb, f0, f1, f2, ho.cell 1, ho.cell 2⟩
        have HK9 := Lib.hid hk9
        have HLEN := Lib.hid hlen
        have HWF := Lib.hid hwf
        have HDR := Lib.hid ((Below.refl w6.heap.size w6).drew)
        clear kg kz kr knz kbw klz kzl kq hq hl hlen hwf hk9
        obtain ⟨_, f0, f1, f2, o1, o2⟩ := HK9.out _ (Below.refl _ _)
        go_wp2_with (go_at_call 16; refine (QS.out _ (Below.refl _ _)).mono ?_; rintro e wx ⟨rfl, hbx⟩; obtain ⟨_, f0, f1, f2, o1, o2⟩ := HK9.out _ hbx; have HBX := Lib.hid hbx; clear hbx)
        refine (QR.out _ HBX.out).mono ?_
        rintro e wy ⟨A1, c1, rfl, hs1, hby⟩
        have HS1 := Lib.hid hs1
        have HBY := Lib.hid hby
        clear hs1 hby
        go_wp2_with (fail)
        refine (whole_any r W5 A1 c1 _ HLEN.out.symm (by omega) HWF.out _ HS1.out (Nat.le_refl _)).mono ?_
        rintro e wz ⟨rfl, hbz⟩
        have hbx := HBY.out.trans (hbz.mono HBY.out.size)
        all_goals
          go_wp2_with (fail)
          go_roundw
          case rel => exact ⟨k + 1, g2, rb2, bs2, W5, L5, A5, c5, rfl, by go_num, by omega, by omega, HS6.out.below hbx⟩
          case measure => simp [intOf]; omega
      · have e9 : (p.d % 10 == 9) = false := by simp [m9]
        clear m9
        obtain ⟨f0, f1, f2⟩ := blk3 HZ.out
        go_upto_region 20 with fail
        go_wp2_with ((with_reducible refine at_dst 102 ?_); refine wpList_load_mid rfl _ _ rfl ob 0 rfl p.cells _ HO5.out.whole Tryd.underlying36 rfl op_size ?_)
        refine (step_any HG.out HBT.out hlo hwz HR.out (fun j _ h => h.2) p HOK2.out hs70).mono ?_
        rintro e w4 ⟨V, rb6, bs6, W6, L6, rfl, hg4, ⟨A6, c6, hV, hr4⟩, hown, hc4⟩
        subst hV
        have HG4 := Lib.hid hg4
        have HR4 := Lib.hid hr4
        have HC4 := Lib.hid hc4
        have HOWN := Lib.hid hown
        have HN4 := Lib.hid (Blk.new w4 29 (rgC 0 0 none 0))
        have HS4 := Lib.hid hc4.size
        have hol := HO5.out.lt
        clear hg4 hr4 hc4 hown f0 f1 f2 c0
        go_upto_region 24 with (first
          | ((with_reducible refine at_store 14 ?_); refine wpList_store_blk rfl _ _ _ rfl rfl w4.heap.size 0 _ (rgC 0 0 none 0) (rgC W6 L6.length A6 c6) rfl rfl HN4.out (by simp [rgC]) rg_size (rgC_one _ _ _ _) ?_; intro w7 hn7 hg7; obtain ⟨y0, y1, y2⟩ := blk3 (show Blk w7 w4.heap.size 29 (rgC W6 L6.length A6 c6) from hn7); have HB7 := Lib.hid (((Below.refl w4.heap.size w4).alloc (Nat.le_refl _) _).grown hg7 (by simp) (fun j hj => by injection hj with hj; omega)); have HZ7 := Lib.hid ((HZ.out.chg HC4.out HNZ.out).below HB7.out (Nat.lt_of_lt_of_le kzl HS4.out)))
          | ((with_reducible refine at_store 9 ?_); refine wpList_store_blk rfl _ _ _ rfl rfl z 0 _ (rgC W5 L5.length A5 c5) (rgC W6 L6.length A6 c6) rfl rfl HZ7.out (by simp [rgC]) rg_size (rgC_one _ _ _ _) ?_; intro w6 hn6 hg6))
        have HS6 : Hid (RunSt w z w6 g5 rb6 bs6 W6 L6 A6 c6) := by
          have hnz : ¬ GrOwn g5 rb6 bs6 z := fun e => by
            rcases HOWN.out z e with e | e
            · exact HNZ.out e
            · omega
          refine ⟨(HG4.out.below HB7.out).keep (chg_of_grown hg6) (fun j hj e => hnz (e ▸ hj)), hn6, ((HR4.out.mono (fun j _ h => ⟨h.1.elim (fun q => q.1) (fun q => by omega), h.2⟩)).below HB7.out).chg (chg_of_grown hg6) (fun j _ h e => h.1 e), hnz, ?_, klz, ?_⟩
          · have q1 : Below w.heap.size w w4 := HBW.out.trans (HC4.out.below hwz (fun j hj => HG.out.lo j hj))
            have q2 : Below w.heap.size w w7 := q1.trans (HB7.out.mono q1.size)
            exact q2.grown hg6 q2.size (fun j hj => by injection hj with hj; omega)
          · have := HB7.out.size
            have := (chg_of_grown hg6).size
            have := HS4.out
            omega
        have HO6 : Hid (Blk w6 ob 36 p.cells) := ((HO5.out.chg HC4.out (fun e => by have := HOB.out _ e; omega)).below HB7.out (Nat.lt_of_lt_of_le hol HS4.out)).chg (chg_of_grown hg6) (fun e => by have : ob = z := e; omega)
        clear HB7 HZ7 hn7 hg7 y0 y1 y2 hn6 hg6 HG4 HR4 HC4 HOWN HN4 HS4 hol HG HZ HR HNZ HBW HBT HS5 HO5 HOB
        obtain ⟨kg, kz, kr, knz, kbw, klz, kzl⟩ := HS6.out
        have kh1 := kg.h1
        have kh5 := kg.h5
        have kw5 := kg.w5
        have kq := kg.rws_
        obtain ⟨q, hq⟩ : ∃ q, q = k % L6.length := ⟨_, rfl⟩
        have hql : q < L6.length := by rw [hq]; exact Nat.mod_lt _ (by omega)
        have hl : L6[q]? = some (L6.getD q []) := getD_some hql
        generalize L6.getD q [] = r at hl
        obtain ⟨hlen, hwf⟩ := kq.wd q r hl
        have e1 : Int.tmod (k : Int) (L6.length : Int) = (q : Int) := by rw [hq]; rfl
        have e2 : ((k : Int) % (L6.length : Int)) = (q : Int) := by rw [hq]; rfl
        have e3 : ((L6.length : Int) == 0) = false := by rw [beq_eq_false_iff_ne]; omega
        have e4 : ¬ ((L6.length : Int) = 0) := by omega
        have e5 : (0 : Int) < (L6.length : Int) := by omega
        have e6 : ((k % L6.length : Nat) : Int) = (q : Int) := by rw [hq]
        have qs : ∀ w', Below w6.heap.size w6 w' → Calls Tryd.prog 16 #[.pointer (some ⟨g5, 0, none⟩), .agg #[.int .i64 W6, .int .i64 L6.length, .slice A6 L6.length c6], .int .i64 p.row, .int .i64 p.col] w' fun e w'' => e = .returned (.bool true) ∧ Below w6.heap.size w6 w'' := fun w' hb => (samer_any (kg.below hb) (kr.below hb) p.row p.col).mono fun e w'' ⟨x, y⟩ => ⟨x, hb.trans (y.mono hb.size)⟩
        have qr : ∀ w', Below w6.heap.size w6 w' → Calls Tryd.prog 18 #[.pointer (some ⟨g5, 0, none⟩), .int .i64 q] w' fun e w'' => ∃ A1 c1, e = .returned (.slice A1 W6 c1) ∧ Sl w'' w''.heap.size A1 (rc r) ∧ Below w6.heap.size w6 w'' := fun w' hb => (row_yes (kg.below hb) q r hl).mono fun e w'' ⟨A1, c1, x, hs, y⟩ => ⟨A1, c1, x, hs, hb.trans (y.mono hb.size)⟩
        have QS := Lib.hid qs
        have QR := Lib.hid qr
        clear qs qr
        have hk9 : ∀ w', Below w6.heap.size w6 w' → Below w6.heap.size w6 w' ∧ w'.cell? ⟨z, 0, none⟩ = some (.int .i64 W6) ∧ w'.cell? ⟨z, 1, none⟩ = some (.int .i64 L6.length) ∧ w'.cell? ⟨z, 2, none⟩ = some (.slice A6 L6.length c6) ∧ w'.cell? ⟨ob, 1, none⟩ = some (.int .i64 p.row) ∧ w'.cell? ⟨ob, 2, none⟩ = some (.int .i64 p.col) := fun w' hb => by
          obtain ⟨f0, f1, f2⟩ := blk3 (kz.below hb kzl)
          have ho := HO6.out.below hb HO6.out.lt
          exact ⟨hb, f0, f1, f2, ho.cell 1, ho.cell 2⟩
        have HK9 := Lib.hid hk9
        have HLEN := Lib.hid hlen
        have HWF := Lib.hid hwf
        have HDR := Lib.hid ((Below.refl w6.heap.size w6).drew)
        clear kg kz kr knz kbw klz kzl kq hq hl hlen hwf hk9
        obtain ⟨_, f0, f1, f2, o1, o2⟩ := HK9.out _ (Below.refl _ _)
        go_wp2_with (go_at_call 16; refine (QS.out _ (Below.refl _ _)).mono ?_; rintro e wx ⟨rfl, hbx⟩; obtain ⟨_, f0, f1, f2, o1, o2⟩ := HK9.out _ hbx; have HBX := Lib.hid hbx; clear hbx)
        refine (QR.out _ HBX.out).mono ?_
        rintro e wy ⟨A1, c1, rfl, hs1, hby⟩
        have HS1 := Lib.hid hs1
        have HBY := Lib.hid hby
        clear hs1 hby
        go_wp2_with (fail)
        refine (whole_any r W6 A1 c1 _ HLEN.out.symm (by omega) HWF.out _ HS1.out (Nat.le_refl _)).mono ?_
        rintro e wz ⟨rfl, hbz⟩
        have hbx := HBY.out.trans (hbz.mono HBY.out.size)
        all_goals
          go_wp2_with (fail)
          go_roundw
          case rel => exact ⟨k + 1, g5, rb6, bs6, W6, L6, A6, c6, rfl, by go_num, by omega, by omega, HS6.out.below hbx⟩
          case measure => simp [intOf]; omega
    · by_cases hkn : k < n
      · have hki : (k : Int) < n := by omega
        have hki5 : ¬ (k : Int) < 50 := by omega
        go_wp2
        go_ret
        exact ⟨rfl, HST.out.2.2.2.2.1⟩
      · have hki : ¬ (k : Int) < n := by omega
        go_wp2
        go_ret
        exact ⟨rfl, HST.out.2.2.2.2.1⟩
  · have hbad : sideB x = false ∨ sideB y = false := by
      cases h1 : sideB x <;> cases h2 : sideB y <;> simp_all
    have hnn := ptr_nn
    have hen := ptr_en
    have HNO := Lib.hid (new_no x y w hbad)
    have HRN := Lib.hid (fun w => rnew_no x y hbad w)
    clear hgood hbad
    go_wp2_with (fail)
    refine HNO.out.mono ?_
    rintro e w2 ⟨rfl, rfl⟩
    go_wp2_with (fail)
    refine (HRN.out _).mono ?_
    rintro e w3 ⟨rfl, hb3⟩
    have HB3 := Lib.hid hb3
    have HN3 := Lib.hid (Blk.new w3 29 (rgC 0 0 none 0))
    clear hb3 HNO HRN
    go_wp2_with ((with_reducible refine at_store 9 ?_); refine wpList_store_blk rfl _ _ _ rfl rfl w3.heap.size 0 _ (rgC 0 0 none 0) (rgC 0 0 none 0) rfl rfl HN3.out (by simp [rgC]) rg_size (rgC_one _ _ _ _) ?_; intro w4 hn4 hg4; have HB4 := Lib.hid (HB3.out.trans ((((Below.refl w3.heap.size w3).alloc (Nat.le_refl _) _).grown hg4 (by simp) (fun j hj => by injection hj with hj; omega)).mono HB3.out.size)))
    clear hn4 hg4
    refine (awake_any w4 (HT.out.below HB4.out hlo)).mono ?_
    rintro e wa ⟨rfl, hba⟩
    have HBA := Lib.hid (HB4.out.trans (hba.mono HB4.out.size))
    clear hba
    go_wp2_with (fail)
    go_loopw [7, 11] (fun v7 v11 wr => v7 = .pointer none ∧ v11 = .int .i64 0 ∧ Below w.heap.size w wr) (fun _ _ _ => 0)
    case atStart => exact ⟨rfl, rfl, HBA.out⟩
    case round =>
      obtain ⟨rfl, rfl, hb⟩ := hrel
      have HB := Lib.hid hb
      clear hb
      by_cases hn0 : 0 < n
      · have hki : (0 : Int) < n := by omega
        go_wp2
        go_ret
        exact ⟨rfl, HB.out⟩
      · have hki : ¬ (0 : Int) < n := by omega
        go_wp2
        go_ret
        exact ⟨rfl, HB.out⟩
end Go.Proofs.YtijbimofigkdkaaDoor
