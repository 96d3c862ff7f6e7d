/-
  The law FrameChecks, walked.
-/
import Derived.Test.YtaijiapolippaaaDoorFrFew
import Derived.Test.YtaijiapolippaaaDoorFrTold
import Derived.Test.YtaijiapolippaaaDoorFrSame
import Derived.Test.YtaijiapolippaaaDoorFrRefI
import Derived.Test.YtaijiapolippaaaDoorFrAwake
import Derived.Test.YtaijiapolippaaaDoorQuietB
import Derived.Test.YtaijiapolippaaaDoorLawFrm
namespace Go.Proofs.YtaijiapolippaaaDoor
open Go.RowKit Go.Sort
set_option linter.unusedVariables false
set_option linter.unusedSimpArgs false

theorem fewL_length (L : List (List Cl)) : (fewL L).length = min 70 L.length := by simp [fewL]
theorem fewL_row {L : List (List Cl)} {l : List Cl} (h : l ∈ fewL L) : ∃ m ∈ L, l = m.take 510 := by
  simp only [fewL, List.mem_map] at h
  obtain ⟨m, hm, rfl⟩ := h
  exact ⟨m, List.mem_of_mem_take hm, rfl⟩
theorem fewL_ok {L : List (List Cl)} (h : frWt L ≤ 1048576) {l : List Cl} (hl : l ∈ fewL L) : l.length ≤ 510 ∧ (lineM l).length ≤ 1048576 ∧ ∀ x ∈ l, x.s.length ≤ 1048576 := by
  obtain ⟨m, hm, rfl⟩ := fewL_row hl
  have h1 := frWt_row hm
  have h2 := flat_le_rowWt m
  have h3 := lineM_take_le m 510
  refine ⟨by rw [List.length_take]; omega, ?_, fun x hx => ?_⟩
  · have e : lineM m = m.flatMap (·.s) := rfl
    rw [e] at h3
    omega
  · have := rowWt_str (List.mem_of_mem_take hx)
    omega
theorem enters_few : ∀ args w, (callFunc 36 args).run Tryd.prog w = .ok (.enter 36 args) w := enters_of Tryd.func36 (by kernel_rfl) rfl

/-- a box that holds a frame -/
def frC (A : Option Addr) (n c : Nat) (row col : Int) (sn : Bool) : List Value := [.slice A n c, .int .i64 row, .int .i64 col, .bool sn]

set_option maxRecDepth 100000 in
set_option maxHeartbeats 16000000 in
theorem frameChecks_walk {A B : Option Addr} {c d : Nat} {L M : List (List Cl)} {row col row' col' : Int} {sn sn' : Bool} (x : Int) (hx0 : 0 ≤ x) (hx1 : x ≤ 255) (w : World) (hA : RfAt w (fun _ => True) A c L) (hB : RfAt w (fun _ => True) B d M)
    (hcA : c ≤ maxLen) (hcB : d ≤ maxLen) (hwA : frWt L ≤ 1048576) (hwB : frWt M ≤ 1048576) (hT : BlankT w) (hTab : Tabs w) :
    Calls Tryd.prog 5 #[.agg #[.slice A L.length c, .int .i64 row, .int .i64 col, .bool sn], .agg #[.slice B M.length d, .int .i64 row', .int .i64 col', .bool sn'], .int .u8 x] w fun e w' => e = .returned (.bool true) ∧ Below w.heap.size w w' := by
  obtain ⟨h, hh⟩ : ∃ h, h = w.heap.size := ⟨_, rfl⟩
  obtain ⟨n, hn⟩ : ∃ n, n = L.length := ⟨_, rfl⟩
  obtain ⟨n', hn'⟩ : ∃ n, n = M.length := ⟨_, rfl⟩
  have hnA : n ≤ 1048576 := by have := frWt_len L; omega
  have hnB : n' ≤ 1048576 := by have := frWt_len M; omega
  have hrA : ∀ l ∈ L, l.length ≤ maxLen := fun l hl => by have := frWt_row hl; have := rowWt_len l; unfold maxLen; omega
  have hrB : ∀ l ∈ M, l.length ≤ maxLen := fun l hl => by have := frWt_row hl; have := rowWt_len l; unfold maxLen; omega
  have hFA : ∀ W, Below h w W → h + 2 ≤ W.heap.size → Calls Tryd.prog 36 #[.agg #[.slice A n c, .int .i64 row, .int .i64 col, .bool sn]] W fun e w' => ∃ A' c', e = .returned (.agg #[.slice A' (fewL L).length c', .int .i64 row, .int .i64 col, .bool sn]) ∧ RfAt w' (fun b => b < h ∨ h + 2 ≤ b) A' c' (fewL L) ∧ Below W.heap.size W w' := fun W hW hz => by
    have h1 : RfAt W (fun b => b < h) A c L := (hA.mono (fun b hb _ => by rw [hh]; exact hb)).chg (Chg.of_below' (S := noB) hW (by omega)) (fun _ _ _ h => h)
    have := ffew_any h1 row col sn (by unfold maxLen; omega) hcA hrA
    rw [← hn] at this
    exact this.mono (fun e w' ⟨A', c', he, hr, hb⟩ => ⟨A', c', he, hr.mono (fun b _ hd => hd.imp id (fun k => by omega)), hb⟩)
  have hFB : ∀ W, Below h w W → h + 2 ≤ W.heap.size → Calls Tryd.prog 36 #[.agg #[.slice B n' d, .int .i64 row', .int .i64 col', .bool sn']] W fun e w' => ∃ A' c', e = .returned (.agg #[.slice A' (fewL M).length c', .int .i64 row', .int .i64 col', .bool sn']) ∧ RfAt w' (fun b => b < h ∨ h + 2 ≤ b) A' c' (fewL M) ∧ Below W.heap.size W w' := fun W hW hz => by
    have h1 : RfAt W (fun b => b < h) B d M := (hB.mono (fun b hb _ => by rw [hh]; exact hb)).chg (Chg.of_below' (S := noB) hW (by omega)) (fun _ _ _ h => h)
    have := ffew_any h1 row' col' sn' (by unfold maxLen; omega) hcB hrB
    rw [← hn'] at this
    exact this.mono (fun e w' ⟨A', c', he, hr, hb⟩ => ⟨A', c', he, hr.mono (fun b _ hd => hd.imp id (fun k => by omega)), hb⟩)
  have HFA := Lib.hid hFA
  have HFB := Lib.hid hFB
  have HOA := Lib.hid (fun l (hl : l ∈ fewL L) => fewL_ok hwA hl)
  have HOB := Lib.hid (fun l (hl : l ∈ fewL M) => fewL_ok hwB hl)
  have HHA := Lib.hid (fewL_length L)
  have HHB := Lib.hid (fewL_length M)
  have HT := Lib.hid hT
  have HTB := Lib.hid hTab
  have HH := Lib.hid hh
  rw [← hn, ← hn']
  clear hFA hFB hrA hrB hA hB hcA hcB hwA hwB hT hTab hn hn'
  generalize fewL L = LA at HFA HOA HHA
  generalize fewL M = LB at HFB HOB HHB
  obtain ⟨p, hp⟩ : ∃ p, p = LA.length := ⟨_, rfl⟩
  obtain ⟨q, hq⟩ : ∃ q, q = LB.length := ⟨_, rfl⟩
  rw [← hp] at HFA HHA
  rw [← hq] at HFB HHB
  have hp70 : p ≤ 70 := by have := HHA.out; omega
  have hq70 : q ≤ 70 := by have := HHB.out; omega
  have HP := Lib.hid hp
  have HQ := Lib.hid hq
  clear hp hq HHA HHB hnA hnB
  have hh1 : h ≤ w.heap.size := by omega
  go_enter Tryd.func5, Tryd.ntmps5
  go_upto_region 1 with (fail)
  rw [← hh]
  obtain ⟨W1, hW1⟩ : ∃ W1, W1 = (w.alloc (.cells #[.slice A n c, .int .i64 row, .int .i64 col, .bool sn] 74)).alloc (.cells #[.slice B n' d, .int .i64 row', .int .i64 col', .bool sn'] 74) := ⟨_, rfl⟩
  rw [← hW1]
  have a0 : Blk W1 h 74 (frC A n c row col sn) := by rw [hW1, hh]; exact (Blk.new w _ (frC A n c row col sn)).alloc _
  have a1 : Blk W1 (h + 1) 74 (frC B n' d row' col' sn') := by
    have := Blk.new (w.alloc (.cells #[.slice A n c, .int .i64 row, .int .i64 col, .bool sn] 74)) 74 (frC B n' d row' col' sn')
    rw [hW1, hh]; simpa [frC] using this
  have aB : Below h w W1 := by rw [hW1, hh]; exact ((Below.refl _ w).alloc (Nat.le_refl _) _).alloc (by simp) _
  have aS : h + 2 ≤ W1.heap.size := by rw [hW1, hh]; simp
  have A0 := Lib.hid a0
  have A1 := Lib.hid a1
  have AB := Lib.hid aB
  have CK : Hid (∀ W, Below W1.heap.size W1 W → (Below h w W ∧ h + 2 ≤ W.heap.size) ∧ (W.cell? ⟨h, 0, none⟩ = some (.slice A n c) ∧ W.cell? ⟨h, 1, none⟩ = some (.int .i64 row) ∧ W.cell? ⟨h, 2, none⟩ = some (.int .i64 col) ∧ W.cell? ⟨h, 3, none⟩ = some (.bool sn)) ∧
      (W.cell? ⟨h + 1, 0, none⟩ = some (.slice B n' d) ∧ W.cell? ⟨h + 1, 1, none⟩ = some (.int .i64 row') ∧ W.cell? ⟨h + 1, 2, none⟩ = some (.int .i64 col') ∧ W.cell? ⟨h + 1, 3, none⟩ = some (.bool sn')) ∧
      (W.frozen? ⟨h, 0, none⟩ = false ∧ W.frozen? ⟨h, 1, none⟩ = false ∧ W.frozen? ⟨h, 2, none⟩ = false ∧ W.frozen? ⟨h, 3, none⟩ = false) ∧
      (W.frozen? ⟨h + 1, 0, none⟩ = false ∧ W.frozen? ⟨h + 1, 1, none⟩ = false ∧ W.frozen? ⟨h + 1, 2, none⟩ = false ∧ W.frozen? ⟨h + 1, 3, none⟩ = false)) := Lib.hid (fun W hW => by
    have b0 := A0.out.below hW A0.out.lt
    have b1 := A1.out.below hW A1.out.lt
    have hz := hW.size
    exact ⟨⟨AB.out.trans (hW.mono (by omega)), by omega⟩, ⟨b0.cell 0, b0.cell 1, b0.cell 2, b0.cell 3⟩, ⟨b1.cell 0, b1.cell 1, b1.cell 2, b1.cell 3⟩, ⟨b0.frozen 0, b0.frozen 1, b0.frozen 2, b0.frozen 3⟩, ⟨b1.frozen 0, b1.frozen 1, b1.frozen 2, b1.frozen 3⟩⟩)
  have CR := Lib.hid (Below.refl W1.heap.size W1)
  clear hW1 a0 a1 aB hh
  obtain ⟨_, ⟨k0, k1, k2, k3⟩, ⟨m0, m1, m2, m3⟩, ⟨f0, f1, f2, f3⟩, ⟨g0, g1, g2, g3⟩⟩ := CK.out W1 CR.out
  go_region_law (first
    | (refine step_call rfl 36 _ _ rfl enters_few #[.agg #[.slice A n c, .int .i64 row, .int .i64 col, .bool sn]] (by simp [Act.eval, Act.put]) (HFA.out _ (by first | exact (CK.out _ CR.out).1.1 | exact (CK.out _ CR.out.drew).1.1 | exact (CK.out _ DB.out).1.1 | exact (CK.out _ DB.out.drew).1.1) (by first | exact (CK.out _ CR.out).1.2 | exact (CK.out _ CR.out.drew).1.2 | exact (CK.out _ DB.out).1.2 | exact (CK.out _ DB.out.drew).1.2)) ?_
       rintro e wa ⟨A3, c3, rfl, hra, hba⟩
       refine ⟨_, rfl, ?_⟩
       have RA := Lib.hid hra
       have DA : Hid (Below W1.heap.size W1 wa) := Lib.hid (by first | exact DB.out.trans (hba.mono DB.out.size) | exact DB.out.drew.trans (hba.mono DB.out.size) | exact CR.out.trans hba | exact CR.out.drew.trans hba)
       have BA := Lib.hid hba
       obtain ⟨_, ⟨ka0, ka1, ka2, ka3⟩, ⟨ma0, ma1, ma2, ma3⟩, ⟨fa0, fa1, fa2, fa3⟩, ⟨ga0, ga1, ga2, ga3⟩⟩ := CK.out wa DA.out
       clear hra hba)
    | (refine step_call rfl 36 _ _ rfl enters_few #[.agg #[.slice B n' d, .int .i64 row', .int .i64 col', .bool sn']] (by simp [Act.eval, Act.put]) (HFB.out _ (by first | exact (CK.out _ CR.out).1.1 | exact (CK.out _ CR.out.drew).1.1 | exact (CK.out _ DA.out).1.1 | exact (CK.out _ DA.out.drew).1.1) (by first | exact (CK.out _ CR.out).1.2 | exact (CK.out _ CR.out.drew).1.2 | exact (CK.out _ DA.out).1.2 | exact (CK.out _ DA.out.drew).1.2)) ?_
       rintro e wb ⟨B3, d3, rfl, hrb, hbb⟩
       refine ⟨_, rfl, ?_⟩
       have RB := Lib.hid hrb
       have DB : Hid (Below W1.heap.size W1 wb) := Lib.hid (by first | exact DA.out.trans (hbb.mono DA.out.size) | exact DA.out.drew.trans (hbb.mono DA.out.size) | exact CR.out.trans hbb | exact CR.out.drew.trans hbb)
       have BB := Lib.hid hbb
       obtain ⟨_, ⟨kb0, kb1, kb2, kb3⟩, ⟨mb0, mb1, mb2, mb3⟩, ⟨fb0, fb1, fb2, fb3⟩, ⟨gb0, gb1, gb2, gb3⟩⟩ := CK.out wb DB.out
       clear hrb hbb))
  all_goals
    obtain ⟨Z, hZ⟩ : ∃ Z, Z = (((((((wb.setCell ⟨h, 0, none⟩ (.slice A3 p c3)).setCell ⟨h, 1, none⟩ (.int .i64 row)).setCell ⟨h, 2, none⟩ (.int .i64 col)).setCell ⟨h, 3, none⟩ (.bool sn)).setCell ⟨h + 1, 0, none⟩ (.slice B3 q d3)).setCell ⟨h + 1, 1, none⟩ (.int .i64 row')).setCell ⟨h + 1, 2, none⟩ (.int .i64 col')).setCell ⟨h + 1, 3, none⟩ (.bool sn') := ⟨_, rfl⟩
    rw [← hZ]
    have hcz : Chg (fun j => j = h ∨ j = h + 1) wb Z := by
      rw [hZ]
      exact ((((((((Chg.refl (fun j => j = h ∨ j = h + 1) wb).setCell (p := ⟨h, 0, none⟩) (.inl (.inl rfl)) _).setCell (p := ⟨h, 1, none⟩) (.inl (.inl rfl)) _).setCell (p := ⟨h, 2, none⟩) (.inl (.inl rfl)) _).setCell (p := ⟨h, 3, none⟩) (.inl (.inl rfl)) _).setCell (p := ⟨h + 1, 0, none⟩) (.inl (.inr rfl)) _).setCell (p := ⟨h + 1, 1, none⟩) (.inl (.inr rfl)) _).setCell (p := ⟨h + 1, 2, none⟩) (.inl (.inr rfl)) _).setCell (p := ⟨h + 1, 3, none⟩) (.inl (.inr rfl)) _
    have hz0 : Blk Z h 74 (frC A3 p c3 row col sn) := by
      have hx := (A0.out.below DB.out A0.out.lt)
      have hy := ((((hx.set_ 0 (.slice A3 p c3)).set_ 1 (.int .i64 row)).set_ 2 (.int .i64 col)).set_ 3 (.bool sn))
      rw [hZ]
      exact hy.chg (S := one (h + 1)) (((((Chg.refl (one (h + 1)) _).setCell (p := ⟨h + 1, 0, none⟩) (.inl rfl) _).setCell (p := ⟨h + 1, 1, none⟩) (.inl rfl) _).setCell (p := ⟨h + 1, 2, none⟩) (.inl rfl) _).setCell (p := ⟨h + 1, 3, none⟩) (.inl rfl) _) (fun e => by have e' : h = h + 1 := e; omega)
    have hz1 : Blk Z (h + 1) 74 (frC B3 q d3 row' col' sn') := by
      have hx := (A1.out.below DB.out A1.out.lt).chg (S := one h) (((((Chg.refl (one h) wb).setCell (p := ⟨h, 0, none⟩) (.inl rfl) (.slice A3 p c3)).setCell (p := ⟨h, 1, none⟩) (.inl rfl) (.int .i64 row)).setCell (p := ⟨h, 2, none⟩) (.inl rfl) (.int .i64 col)).setCell (p := ⟨h, 3, none⟩) (.inl rfl) (.bool sn)) (fun e => by have e' : h + 1 = h := e; omega)
      have hy := ((((hx.set_ 0 (.slice B3 q d3)).set_ 1 (.int .i64 row')).set_ 2 (.int .i64 col')).set_ 3 (.bool sn'))
      rw [hZ]
      exact hy
    have hra : RfAt Z (fun _ => True) A3 c3 LA := ((RA.out.below BB.out).chg hcz (fun b _ hd e => by rcases e with e | e <;> rcases hd with hd | hd <;> omega)).mono (fun _ _ _ => trivial)
    have hrb : RfAt Z (fun _ => True) B3 d3 LB := (RB.out.chg hcz (fun b _ hd e => by rcases e with e | e <;> rcases hd with hd | hd <;> omega)).mono (fun _ _ _ => trivial)
    have hbz : Below h w Z := (CK.out _ DB.out).1.1.trans (hcz.below (Nat.le_trans hh1 (CK.out _ DB.out).1.1.size) (fun j e => by rcases e with e | e <;> omega))
    have Z0 := Lib.hid hz0
    have Z1 := Lib.hid hz1
    have ZA := Lib.hid hra
    have ZB := Lib.hid hrb
    have BZ := Lib.hid hbz
    clear hZ hcz hz0 hz1 hra hrb hbz RA RB DA DB BA BB CK CR A0 A1 AB
    clear k0 k1 k2 k3 m0 m1 m2 m3 f0 f1 f2 f3 g0 g1 g2 g3
    clear ka0 ka1 ka2 ka3 ma0 ma1 ma2 ma3 fa0 fa1 fa2 fa3 ga0 ga1 ga2 ga3
    clear kb0 kb1 kb2 kb3 mb0 mb1 mb2 mb3 fb0 fb1 fb2 fb3 gb0 gb1 gb2 gb3
    clear aS
    have hxm : (x.toNat : Int) = x := by omega
    obtain ⟨ms, hms⟩ : ∃ ms, ms = x.toNat := ⟨_, rfl⟩
    rw [← hms] at hxm
    have hm8 : ms ≤ 255 := by omega
    have hTX : ∀ W (most : Nat), most ≤ 255 → Below Z.heap.size Z W → Calls Tryd.prog 37 #[.agg #[.slice A3 p c3, .int .i64 row, .int .i64 col, .bool sn], .int .i64 most] W fun e w' => ∃ A1 c1, e = .returned (.tuple #[.slice A1 (min most p) c1, .bool true]) ∧
        (∃ base, OR w' base 9 A1 (min most p) c1 (sv ((LA.map lineM).take most))) ∧ Below W.heap.size W w' := fun W most hmo hW => by
      have := ltexts_any (ZA.out.below hW) row col sn (by have := HP.out; omega) (fun l hl => by have := HOA.out l hl; omega) most (by omega)
      rw [← HP.out] at this
      have e : ((LA.map lineM).take most).length = min most p := by rw [List.length_take, List.length_map, ← HP.out]
      rw [e] at this
      exact this.mono (fun e w' ⟨A1, c1, he, ho, hb⟩ => ⟨A1, c1, he, ⟨_, ho⟩, hb⟩)
    obtain ⟨m, hm⟩ : ∃ m, m = min ms p := ⟨_, rfl⟩
    have hT1 := hTX Z ms hm8 (Below.refl _ _)
    rw [← hm] at hT1
    have hT2 : ∀ W, Below Z.heap.size Z W → Calls Tryd.prog 37 #[.agg #[.slice A3 p c3, .int .i64 row, .int .i64 col, .bool sn], .int .i64 100] W fun e w' => ∃ A1 c1, e = .returned (.tuple #[.slice A1 p c1, .bool true]) ∧
        (∃ base, OR w' base 9 A1 p c1 (sv (LA.map lineM))) ∧ Below W.heap.size W w' := fun W hW => by
      have := hTX W 100 (by omega) hW
      have e1 : min 100 p = p := by omega
      have e2 : (LA.map lineM).take 100 = LA.map lineM := List.take_of_length_le (by rw [List.length_map, ← HP.out]; omega)
      rw [e1, e2] at this
      exact this
    have HT1 := Lib.hid hT1
    have HT2 := Lib.hid hT2
    have hmp : m ≤ p := by omega
    have hmm : min (p : Int) (ms : Int) = (m : Int) := by omega
    have HMM := Lib.hid hmm
    have HM := Lib.hid hm
    clear hTX hT1 hT2 hm hmm
    rw [← hxm]
    clear hxm hms
    go_upto_region 3 with (first
      | ((with_reducible refine at_dst 17 ?_); refine wpList_load_mid rfl _ _ rfl h 0 rfl (frC A3 p c3 row col sn) _ (fall Z0.out) Tryd.underlying74 rfl (by kernel_rfl) ?_)
      | (go_at_call 37; refine HT1.out.mono ?_; rintro e w2 ⟨A4, c4, rfl, ⟨base4, ho4⟩, hb4⟩; have O4 := Lib.hid ho4; have B4 := Lib.hid hb4; have Z2 := Lib.hid (Z0.out.below hb4 Z0.out.lt); clear ho4 hb4))
    go_upto_region 4 with (first
      | ((with_reducible refine at_dst 24 ?_); refine wpList_load_mid rfl _ _ rfl h 0 rfl (frC A3 p c3 row col sn) _ (fall Z2.out) Tryd.underlying74 rfl (by kernel_rfl) ?_)
      | (go_at_call 37; refine (HT2.out _ B4.out).mono ?_; rintro e w3 ⟨A5, c5, rfl, ⟨base5, ho5⟩, hb5⟩; have O5 := Lib.hid ho5; have B5 := Lib.hid hb5; clear ho5 hb5))
    have hb35 : Below Z.heap.size Z w3 := B4.out.trans (B5.out.mono B4.out.size)
    have O4b := Lib.hid (O4.out.below B5.out (fun g hg => (O4.out.blk_lt g hg).2))
    have Z3 := Lib.hid (Z0.out.below hb35 Z0.out.lt)
    have Y3 := Lib.hid (Z1.out.below hb35 Z1.out.lt)
    have A3Z := Lib.hid (ZA.out.below hb35)
    have B3Z := Lib.hid (ZB.out.below hb35)
    have BW3 := Lib.hid (BZ.out.trans (hb35.mono (by have := BZ.out.size; omega)))
    have z0 : w3.cell? ⟨h, 0, none⟩ = some (.slice A3 p c3) := Z3.out.cell 0
    have hmm := HMM.out
    clear hb35 O4 B4 B5 Z0 Z1 Z2 ZA ZB BZ HT1 HT2
    go_wp2_with (fail)
    clear hmm z0
    go_loopw [11] (fun v11 wr => ∃ k : Nat, v11 = .int .i64 k ∧ k ≤ p ∧ Below w3.heap.size w3 wr) (fun v11 _ => p - (intOf v11).toNat)
    case atStart => exact ⟨0, rfl, by omega, Below.refl _ _⟩
    case round =>
      obtain ⟨k, rfl, hk, hbel⟩ := hrel
      have HBE := Lib.hid hbel
      clear hbel
      by_cases hlt : k < p
      · have hki : (k : Int) < p := by omega
        have hkl : k < LA.length := by have := HP.out; omega
        have hl : LA[k]? = some LA[k] := List.getElem?_eq_getElem hkl
        have hls := HOA.out _ (List.getElem_mem hkl)
        have hTk : (LA.map lineM)[k]? = some (lineM LA[k]) := by rw [List.getElem?_map, hl]; rfl
        generalize LA[k] = l at hl hls hTk
        obtain ⟨b', off', Ai, ci, e', hba, hca, ⟨hni, hci⟩, hsd⟩ := (A3Z.out.below HBE.out).at_ hl
        obtain ⟨b5, o5, e5, hb5, hc5⟩ := (Sl.own (O5.out.below HBE.out (fun g hg => (O5.out.blk_lt g hg).2)).1).open_ (by rw [sv_length, List.length_map]; omega)
        have c5k : wr.cell? ⟨b5, o5 + k, none⟩ = some (.string ⟨(lineM l).toArray⟩) := hc5 k _ (strs_get hTk)
        have c0 := cell_regrown (show wr.cell? ⟨h, 0, none⟩ = some (.slice A3 p c3) from (Z3.out.below HBE.out Z3.out.lt).cell 0)
        have c1 := cell_regrown hca
        have c2 := cell_regrown c5k
        have Q1 := Lib.hid (fun dd os => Calls.regrown_of ((rline_any l l.length ci _ Ai (grow (redrawn wr dd) os) rfl (by omega) (by omega) ((hsd.below (below_regrown wr dd os)).sl)).mono fun e w' ⟨a, b⟩ => ⟨a, b ▸ Below.refl _ _⟩))
        by_cases hkm : k < m
        · have hkmi : (k : Int) < m := by omega
          obtain ⟨b4, o4, e4, hb4, hc4⟩ := (Sl.own (O4b.out.below HBE.out (fun g hg => (O4b.out.blk_lt g hg).2)).1).open_ (by rw [sv_length, List.length_take, List.length_map]; have := HM.out; have := HP.out; omega)
          have c4k : wr.cell? ⟨b4, o4 + k, none⟩ = some (.string ⟨(lineM l).toArray⟩) := hc4 k _ (strs_get (by rw [List.getElem?_take, if_pos (by have := HM.out; omega)]; exact hTk))
          have c3' := cell_regrown c4k
          generalize lineM l = t at Q1 c2 c3'
          subst e' e4 e5
          clear hl hls hTk hba hca hsd hc5 c5k hc4 c4k hni hb4 hb5
          go_upto_region 9 with (fail)
          refine region_below0 (by kernel_rfl) (by kernel_rfl) ?_
          repeat (first
            | go_big_quiet_step (with_reducible exact Q1.out _ _)
            | quiet_step (with_reducible exact Q1.out _ _))
          refine wpQuiet_nil ?_
          intro _ hw'
          obtain ⟨⟨dq, osq⟩, hw''⟩ := hw'
          subst hw''
          have HB2 := Lib.hid (HBE.out.trans ((below_regrown wr dq osq).mono HBE.out.size))
          clear c0 c1 c2 c3' Q1
          generalize grow (redrawn wr dq) osq = w5 at HB2 ⊢
          go_wp2
          go_roundw
          case rel => exact ⟨k + 1, by go_num, by omega, HB2.out⟩
          case measure => simp [intOf]; omega
        · have hkmi : ¬ (k : Int) < m := by omega
          generalize lineM l = t at Q1 c2
          subst e' e5
          clear hl hls hTk hba hca hsd hc5 c5k hni hb5
          go_upto_region 9 with (fail)
          refine region_below0 (by kernel_rfl) (by kernel_rfl) ?_
          repeat (first
            | go_big_quiet_step (with_reducible exact Q1.out _ _)
            | quiet_step (with_reducible exact Q1.out _ _))
          refine wpQuiet_nil ?_
          intro _ hw'
          obtain ⟨⟨dq, osq⟩, hw''⟩ := hw'
          subst hw''
          have HB2 := Lib.hid (HBE.out.trans ((below_regrown wr dq osq).mono HBE.out.size))
          clear c0 c1 c2 Q1
          generalize grow (redrawn wr dq) osq = w5 at HB2 ⊢
          go_wp2
          go_roundw
          case rel => exact ⟨k + 1, by go_num, by omega, HB2.out⟩
          case measure => simp [intOf]; omega
      · have hki : ¬ (k : Int) < p := by omega
        go_upto_region 11 with (fail)
        have hbr : ∀ dd os, Below w3.heap.size w3 (grow (redrawn wr dd) os) := fun dd os => HBE.out.trans ((below_regrown wr dd os).mono HBE.out.size)
        have hbw : ∀ dd os, Below h w (grow (redrawn wr dd) os) := fun dd os => BW3.out.trans ((hbr dd os).mono (by have := BW3.out.size; omega))
        have hbw' : ∀ dd os, Below w.heap.size w (grow (redrawn wr dd) os) := fun dd os => by have := hbw dd os; rwa [HH.out] at this
        have hz := Z3.out.below HBE.out Z3.out.lt
        have hy := Y3.out.below HBE.out Y3.out.lt
        have c0 := cell_regrown (show wr.cell? ⟨h, 0, none⟩ = some (.slice A3 p c3) from hz.cell 0)
        have c1 := cell_regrown (show wr.cell? ⟨h, 1, none⟩ = some (.int .i64 row) from hz.cell 1)
        have c2 := cell_regrown (show wr.cell? ⟨h, 2, none⟩ = some (.int .i64 col) from hz.cell 2)
        have c4 := cell_regrown (show wr.cell? ⟨h, 3, none⟩ = some (.bool sn) from hz.cell 3)
        have d0 := cell_regrown (show wr.cell? ⟨h + 1, 0, none⟩ = some (.slice B3 q d3) from hy.cell 0)
        have d1 := cell_regrown (show wr.cell? ⟨h + 1, 1, none⟩ = some (.int .i64 row') from hy.cell 1)
        have d2 := cell_regrown (show wr.cell? ⟨h + 1, 2, none⟩ = some (.int .i64 col') from hy.cell 2)
        have d4 := cell_regrown (show wr.cell? ⟨h + 1, 3, none⟩ = some (.bool sn') from hy.cell 3)
        have hsA : ∀ l ∈ LA, l.length ≤ 100000 ∧ ∀ x ∈ l, x.s.length ≤ 2000000 := fun l hl => by
          have := HOA.out l hl
          exact ⟨by omega, fun x hx => by have := this.2.2 x hx; omega⟩
        have hlA : ∀ l ∈ LA, l.length ≤ 100000 := fun l hl => (hsA l hl).1
        have hlB : ∀ l ∈ LB, l.length ≤ 100000 := fun l hl => by have := HOB.out l hl; omega
        have hpA : LA.length ≤ 100000 := by have := HP.out; omega
        have hpB : LB.length ≤ 100000 := by have := HQ.out; omega
        have q1 := fun dd os => fcheck_any (A3Z.out.below (hbr dd os)) row col sn hsA hpA (HTB.out.below (hbw' dd os))
        have q2 := fun dd os => rfis_any (A3Z.out.below (hbr dd os)) row col sn hsA hpA
        have q3 := fun dd os => fsame_any (A3Z.out.below (hbr dd os)) (B3Z.out.below (hbr dd os)) row col row' col' sn sn' hlA hlB hpA hpB
        have q4 := fun dd os => rfsame_any (A3Z.out.below (hbr dd os)) (B3Z.out.below (hbr dd os)) row col row' col' sn sn' hlA hlB hpA hpB
        have q5 := fun dd os => fsame_any (A3Z.out.below (hbr dd os)) (A3Z.out.below (hbr dd os)) row col row col sn sn hlA hlA hpA hpA
        have q6 := fun dd os => fawake_any (grow (redrawn wr dd) os) (HT.out.bel (hbw' dd os)) (HTB.out.below (hbw' dd os))
        rw [← HP.out] at q1 q2 q3 q4 q5
        rw [← HQ.out] at q3 q4
        rw [decide_eq_true (show LA = LA ∧ row = row ∧ col = col ∧ sn = sn from ⟨rfl, rfl, rfl, rfl⟩)] at q5
        generalize fvalB LA row col = v at q1 q2
        generalize decide (LA = LB ∧ row = row' ∧ col = col' ∧ sn = sn') = u at q3 q4
        have HBB := Lib.hid (fun dd os => hbw' dd os)
        clear hbr hbw hbw' hz hy hsA hlA hlB hpA hpB
        cases v
        all_goals
          simp only [if_true, if_false, Bool.false_eq_true, reduceIte] at q1
          have Q1 := Lib.hid (fun dd os => Calls.regrown_of (q1 dd os))
          have Q2 := Lib.hid (fun dd os => Calls.regrown_of (q2 dd os))
          have Q3 := Lib.hid (fun dd os => Calls.regrown_of (q3 dd os))
          have Q4 := Lib.hid (fun dd os => Calls.regrown_of (q4 dd os))
          have Q5 := Lib.hid (fun dd os => Calls.regrown_of (q5 dd os))
          have Q6 := Lib.hid (fun dd os => Calls.regrown_of (q6 dd os))
          clear q1 q2 q3 q4 q5 q6
          refine region_below0 (by kernel_rfl) (by kernel_rfl) ?_
          repeat (first
            | go_big_quiet_step (first | with_reducible exact Q1.out _ _ | with_reducible exact Q2.out _ _ | with_reducible exact Q3.out _ _ | with_reducible exact Q4.out _ _ | with_reducible exact Q5.out _ _ | with_reducible exact Q6.out _ _)
            | quiet_step (first | with_reducible exact Q1.out _ _ | with_reducible exact Q2.out _ _ | with_reducible exact Q3.out _ _ | with_reducible exact Q4.out _ _ | with_reducible exact Q5.out _ _ | with_reducible exact Q6.out _ _))
          refine wpQuiet_nil ?_
          intro _ hw'
          obtain ⟨⟨dq, osq⟩, hw''⟩ := hw'
          subst hw''
          have HB2 := Lib.hid (HBB.out dq osq)
          clear c0 c1 c2 c4 d0 d1 d2 d4 Q1 Q2 Q3 Q4 Q5 Q6 HBB
          generalize grow (redrawn wr dq) osq = w5 at HB2 ⊢
          go_wp2
          go_ret
          exact ⟨rfl, HB2.out⟩
end Go.Proofs.YtaijiapolippaaaDoor
