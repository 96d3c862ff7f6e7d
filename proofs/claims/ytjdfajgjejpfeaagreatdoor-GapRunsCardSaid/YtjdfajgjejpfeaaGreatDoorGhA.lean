/-
  Walk: the document's with (a row with others in the place of some of it).
  Walks: the document's buffer: held, At.
  Walk: the document's buffer: New.
  Walks: the document's buffer: Move.
-/
import Derived.Test.YtjdfajgjejpfeaaGreatDoorGpOpen
import Derived.Test.YtjdfajgjejpfeaaGreatDoorGfS
namespace Go.Proofs.YtjdfajgjejpfeaaGreatDoor
open Go.RowKit Go.Sort
set_option linter.unusedVariables false
set_option linter.unusedSimpArgs false

theorem rsl_h (A : Option Addr) (n C hi : Nat) (h2 : hi ≤ C) (w : World) :
    (Instr.slice 27 (.slice A n C) none (some (.int .i64 hi)) none).run Tryz.prog w = .ok (.slice A hi C) w := by
  rw [run_slice_h w 27 A n C strs_elem .i64 hi (by omega) (by omega), strs_esize]
  cases A <;> simp [Result.andThen, sliced, Addr.add]
theorem sl_drop {w : World} {B : Nat} {A : Option Addr} {xs : List Value} (h : Sl w B A xs) (C k : Nat) (hC : xs.length ≤ C) (hk : k ≤ xs.length) : Sl w B (bh A C k) (xs.drop k) := by
  rcases Nat.lt_or_ge k xs.length with hlt | hge
  · rcases h with h | ⟨b, off, hA, hb, hc⟩
    · subst h; cases hlt
    · subst hA
      unfold bh
      rw [if_neg (by omega)]
      exact .inr ⟨b, off + k, by by_cases h0 : k = 0 <;> simp [Addr.add, h0], hb, fun j u hu => by
        rw [List.getElem?_drop] at hu
        rw [show off + k + j = off + (k + j) by omega]
        exact hc _ u hu⟩
  · rw [List.drop_of_length_le hge]; exact .inl rfl
theorem bh_nil {A : Option Addr} {C k : Nat} (hA : A = none → C = 0) (h : bh A C k = none) : C - k = 0 := by
  unfold bh at h
  split at h
  · omega
  · cases A with
    | none => have := hA rfl; omega
    | some a => cases h
/-- what with hands back -/
def WithP (w : World) (N : Nat) (xs : List Value) (e : Ending) (w' : World) : Prop := ∃ A c, e = .returned (.slice A N c) ∧ OR w' w.heap.size 9 A N c xs ∧ Below w.heap.size w w'
set_option maxRecDepth 100000 in
set_option maxHeartbeats 4000000 in
theorem rwith_any (l more : List (List UInt8)) (A X : Option Addr) (n c m d i j : Nat) (hn : n = l.length) (hm : m = more.length) (hnc : n ≤ c) (hA : A = none → c = 0) (hX0 : X = none → d = 0) (hij : i ≤ j) (hjn : j ≤ n) (hlim : n + m ≤ 1000000) (w : World) (hS : Sl w w.heap.size A (sv l)) (hX : Sl w w.heap.size X (sv more)) :
    Calls Tryz.prog 52 #[.slice A n c, .int .i64 i, .int .i64 j, .slice X m d] w (WithP w (i + m + (n - j)) (sv (l.take i ++ more ++ l.drop j))) := by
  have E1 := fun V => rsl_h A n c i (by omega) V
  have E2 := fun V => sl_l A n c j hjn V
  have hb0 : Below w.heap.size w (w.alloc (.cells #[] 9)) := (Below.refl _ w).alloc (Nat.le_refl _) _
  have HL : Hid ((sv l).length = n) := Lib.hid (by rw [sv_length, hn])
  have HM : Hid ((sv more).length = m) := Lib.hid (by rw [sv_length, hm])
  have HT : Hid ((sv (l.take i)).length = i) := Lib.hid (by rw [sv_length, List.length_take]; omega)
  have HD : Hid ((sv (l.drop j)).length = n - j) := Lib.hid (by rw [sv_length, List.length_drop]; omega)
  have hs1 : Sl w w.heap.size A (sv (l.take i)) := by have := hS.take i; rwa [sv_take] at this
  have hs2 : Sl w w.heap.size (bh A c j) (sv (l.drop j)) := by have := sl_drop hS c j (by rw [sv_length]; omega) (by rw [sv_length]; omega); rwa [sv_drop] at this
  have HS1 := Lib.hid hs1
  have HS2 := Lib.hid hs2
  have HX := Lib.hid hX
  have HA := Lib.hid hA
  have HX0 := Lib.hid hX0
  have HB0 := Lib.hid hb0
  have HAP : Hid (sv (l.take i ++ more ++ l.drop j) = (sv (l.take i) ++ sv more) ++ sv (l.drop j)) := Lib.hid (by simp [sv])
  have HN0 : Hid (OR (w.alloc (.cells #[] 9)) w.heap.size 9 (some ⟨w.heap.size, 0, none⟩) 0 0 []) := Lib.hid ⟨by have := World.ownsRow_lit (base := w.heap.size) (e := 9) (size := 1) w #[] 0 (Nat.le_refl _) (by simp only [maxLen]; omega) (by simp); simpa using this, fun e => by cases e⟩
  clear hs1 hs2 hX hA hX0 hb0 hS hn hm
  go_enter Tryz.func52, Tryz.ntmps52
  go_wp2_with (first
    | (at_builtin; refine wpList_app Tryz.underlying27 str_info rfl (by omega) _ rfl (.tmp 10) (.tmp 13) rfl w.heap.size (some ⟨w.heap.size, 0, none⟩) 0 0 [] rfl HN0.out A i c (sv (l.take i)) w.heap.size rfl (HS1.out.below HB0.out) HT.out.symm HA.out (sv_one _) i (by omega) (by omega) (by simp) ?_; intro A1 c1 w1 ho1 hg1 hat1; have hb1 : Below w.heap.size w w1 := HB0.out.grown hg1 (by simp) (fun k hk => by simp [blk] at hk; omega); have HB1 := Lib.hid hb1; have HO1 := Lib.hid ho1; clear hb1 ho1 hg1 hat1)
    | (at_builtin; refine wpList_app Tryz.underlying27 str_info rfl (by omega) _ rfl (.tmp 15) (.tmp 16) rfl w.heap.size A1 i c1 _ rfl HO1.out X m d (sv more) w.heap.size rfl (HX.out.below HB1.out) HM.out.symm HX0.out (sv_one _) (i + m) rfl (by omega) HB1.out.size ?_; intro A2 c2 w2 ho2 hg2 hat2; have hb2 : Below w.heap.size w w2 := HB1.out.grown hg2 HB1.out.size (fun k hk => (HO1.out.blk_lt k hk).1); have HB2 := Lib.hid hb2; have HO2 := Lib.hid ho2; clear hb2 ho2 hg2 hat2)
    | (at_builtin; refine wpList_app Tryz.underlying27 str_info rfl (by omega) _ rfl (.tmp 18) (.tmp 21) rfl w.heap.size A2 (i + m) c2 _ rfl HO2.out (bh A c j) (n - j) (c - j) (sv (l.drop j)) w.heap.size rfl (HS2.out.below HB2.out) HD.out.symm (bh_nil HA.out) (sv_one _) (i + m + (n - j)) rfl (by omega) HB2.out.size ?_; intro A3 c3 w3 ho3 hg3 hat3; have hb3 : Below w.heap.size w w3 := HB2.out.grown hg3 HB2.out.size (fun k hk => (HO2.out.blk_lt k hk).1); have HB3 := Lib.hid hb3; have HO3 := Lib.hid ho3; clear hb3 ho3 hg3 hat3))
  go_ret
  exact ⟨A3, c3, rfl, by rw [HAP.out]; exact HO3.out, HB3.out⟩
end Go.Proofs.YtjdfajgjejpfeaaGreatDoor

namespace Go.Proofs.YtjdfajgjejpfeaaGreatDoor
open Go.RowKit Go.Sort
set_option linter.unusedVariables false
set_option linter.unusedSimpArgs false

/-- the document's buffer as cells -/
def rgp (A : Option Addr) (n c i most : Nat) : List Value := [.slice A n c, .int .i64 i, .int .i64 most]
set_option maxRecDepth 100000 in
set_option maxHeartbeats 2000000 in
theorem rheld_any (A : Option Addr) (n c i most : Nat) (a : Int) (w : World) :
    Calls Tryz.prog 51 #[.agg (rgp A n c i most).toArray, .int .i64 a] w fun e w' => e = .returned (.int .i64 (clampN a n : Nat)) ∧ Below w.heap.size w w' := by
  have hb0 : Below w.heap.size w (w.alloc (.cells (rgp A n c i most).toArray 29)) := (Below.refl _ w).alloc (Nat.le_refl _) _
  have hB := Blk.new w 29 (rgp A n c i most)
  have hc := hB.cell 0
  simp only [rgp] at hc hb0 ⊢
  clear hB
  go_enter Tryz.func51, Tryz.ntmps51
  go_wp2_with (fail)
  all_goals
    go_ret
    exact ⟨ret_int (by unfold clampN; omega), hb0⟩

set_option maxRecDepth 100000 in
set_option maxHeartbeats 2000000 in
theorem rat_yes (l : List (List UInt8)) (A : Option Addr) (n c i most a : Nat) (x : List UInt8) (hn : n = l.length) (hx : l[a]? = some x) (w : World) (hS : Sl w w.heap.size A (sv l)) :
    Calls Tryz.prog 28 #[.agg (rgp A n c i most).toArray, .int .i64 a] w fun e w' => e = .returned (.tuple #[.string ⟨x.toArray⟩, .bool true]) ∧ Below w.heap.size w w' := by
  have hb0 : Below w.heap.size w (w.alloc (.cells (rgp A n c i most).toArray 29)) := (Below.refl _ w).alloc (Nat.le_refl _) _
  have hB := Blk.new w 29 (rgp A n c i most)
  have hc := hB.cell 0
  obtain ⟨hal, rfl⟩ := List.getElem?_eq_some_iff.1 hx
  obtain ⟨b, off, rfl, hbb, hcell⟩ : ∃ b off, A = some ⟨b, off, none⟩ ∧ b < w.heap.size ∧ w.cell? ⟨b, off + a, none⟩ = some (.string ⟨(l[a]).toArray⟩) := by
    rcases hS with h | ⟨b, off, hA, hb, hc⟩
    · have : l = [] := by simpa [sv] using h
      subst this; cases hal
    · exact ⟨b, off, hA, hb, hc a _ (by simp [sv, List.getElem?_eq_getElem hal])⟩
  have hcr := (hb0.cell (p := ⟨b, off + a, none⟩) hbb).trans hcell
  have h1 : ¬ ((a : Int) < 0) := by omega
  have h2 : ¬ ((a : Int) ≥ (n : Int)) := by omega
  have h3 : (a : Int) < (n : Int) := by omega
  simp only [rgp] at hc hb0 hcr ⊢
  generalize l[a] = d at hcr hcell
  clear hB hx hS hcell hn hal
  go_enter Tryz.func28, Tryz.ntmps28
  go_wp2_with (fail)
  go_ret2
  exact ⟨rfl, hb0⟩
set_option maxRecDepth 100000 in
set_option maxHeartbeats 2000000 in
theorem rat_no (A : Option Addr) (n c i most : Nat) (a : Int) (ha : hasB a n = false) (w : World) :
    Calls Tryz.prog 28 #[.agg (rgp A n c i most).toArray, .int .i64 a] w fun e w' => e = .returned (.tuple #[.string ⟨#[]⟩, .bool false]) ∧ Below w.heap.size w w' := by
  have hb0 : Below w.heap.size w (w.alloc (.cells (rgp A n c i most).toArray 29)) := (Below.refl _ w).alloc (Nat.le_refl _) _
  have hB := Blk.new w 29 (rgp A n c i most)
  have hc := hB.cell 0
  simp only [rgp] at hc hb0 ⊢
  clear hB
  by_cases h1 : a < 0
  · clear ha
    go_enter Tryz.func28, Tryz.ntmps28
    go_wp2_with (fail)
    go_ret2
    exact ⟨rfl, hb0⟩
  · have h2 : a ≥ (n : Int) := by
      unfold hasB at ha
      have := of_decide_eq_false ha
      omega
    clear ha
    go_enter Tryz.func28, Tryz.ntmps28
    go_wp2_with (fail)
    go_ret2
    exact ⟨rfl, hb0⟩
end Go.Proofs.YtjdfajgjejpfeaaGreatDoor

namespace Go.Proofs.YtjdfajgjejpfeaaGreatDoor
open Go.RowKit Go.Sort
set_option linter.unusedVariables false
set_option linter.unusedSimpArgs false

theorem Blk.hwhole {w : World} {g : Nat} {t : TypeId} {cs : List Value} (h : Blk w g t cs) : w.rangeAt g 0 cs := h.range 0 cs (fun j v hv => by simpa using hv)
theorem hgetD_eq {v : Value} {tmps : Array Value} {a : Nat} (h : tmps.getD a undef = v) : tmps[a]?.getD undef = v := by simpa using h
theorem hresults_ct {fn : Func} {tmps : Array Value} {a t b : Nat} {ad : Nat} {cs : List Value} {v : Value} {w : World} {d : TypeDesc} (hf : fn.results = #[.cell a t, .tmp b]) (ha : tmps.getD a undef = .pointer (some ⟨ad, 0, none⟩)) (hb : tmps.getD b undef = v)
    (hc : w.rangeAt ad 0 cs) (hu : Tryz.prog.underlying t = some d) (hd : d.isRow = true) (hi : (Tryz.prog.info? t).map (·.size) = some cs.length) : (results fn tmps).run Tryz.prog w = .ok (.tuple #[.agg cs.toArray, v]) w := by
  have hl := run_loadVar_mid (P := Tryz.prog) w ad 0 t cs d hc hu hd hi
  have ha' := hgetD_eq ha
  have hb' := hgetD_eq hb
  unfold results
  simp [hf, ha', hb', asAddr, hl]
set_option maxRecDepth 100000 in
set_option maxHeartbeats 2000000 in
theorem rgnew_ok (most : Nat) (h1 : 1 ≤ most) (h2 : most ≤ 4096) (w : World) :
    Calls Tryz.prog 5 #[.int .i64 most] w fun e w' => e = .returned (.tuple #[.agg (rgp none 0 0 0 most).toArray, .int .i64 0]) ∧ Below w.heap.size w w' := by
  have h1i : ¬ ((most : Int) < 1) := by omega
  have h2i : ¬ ((most : Int) > 4096) := by omega
  go_enter Tryz.func5, Tryz.ntmps5
  go_wp2_with (fail)
  exact bodyPost_ret (hresults_ct rfl rfl rfl (Blk.new w 29 (rgp none 0 0 0 most)).hwhole Tryz.underlying29 rfl (by kernel_rfl)) rfl ⟨rfl, (Below.refl _ w).alloc (Nat.le_refl _) _⟩
set_option maxRecDepth 100000 in
set_option maxHeartbeats 2000000 in
theorem rgnew_no (most : Int) (h : most < 1 ∨ 4096 < most) (w : World) :
    Calls Tryz.prog 5 #[.int .i64 most] w fun e w' => e = .returned (.tuple #[.agg (rgp none 0 0 0 0).toArray, .int .i64 120]) ∧ Below w.heap.size w w' := by
  by_cases h1 : most < 1
  · clear h
    go_enter Tryz.func5, Tryz.ntmps5
    go_wp2_with (fail)
    exact bodyPost_ret (hresults_ct rfl rfl rfl (Blk.new w 29 (rgp none 0 0 0 0)).hwhole Tryz.underlying29 rfl (by kernel_rfl)) rfl ⟨rfl, (Below.refl _ w).alloc (Nat.le_refl _) _⟩
  · have h2 : most > 4096 := by omega
    clear h
    go_enter Tryz.func5, Tryz.ntmps5
    go_wp2_with (fail)
    exact bodyPost_ret (hresults_ct rfl rfl rfl (Blk.new w 29 (rgp none 0 0 0 0)).hwhole Tryz.underlying29 rfl (by kernel_rfl)) rfl ⟨rfl, (Below.refl _ w).alloc (Nat.le_refl _) _⟩
end Go.Proofs.YtjdfajgjejpfeaaGreatDoor

namespace Go.Proofs.YtjdfajgjejpfeaaGreatDoor
open Go.RowKit Go.Sort
set_option linter.unusedVariables false
set_option linter.unusedSimpArgs false
set_option maxRecDepth 100000

/-- the box of the document's buffer and of its result -/
structure BR (w : World) (b r : Nat) (xs ys : List Value) : Prop where
  hb : Blk w b 29 xs
  hr : Blk w r 29 ys
  ne : b ≠ r
namespace BR
variable {w w' : World} {b r : Nat} {xs ys : List Value}
theorem new (w : World) (xs ys : List Value) : BR ((w.alloc (.cells xs.toArray 29)).alloc (.cells ys.toArray 29)) w.heap.size (w.heap.size + 1) xs ys :=
  ⟨(Blk.new w 29 xs).alloc _, (by have := Blk.new (w.alloc (.cells xs.toArray 29)) 29 ys; simpa using this), (by omega)⟩
theorem sb (h : BR w b r xs ys) (i : Nat) (u : Value) : BR (w.setCell ⟨b, i, none⟩ u) b r (xs.set i u) ys :=
  ⟨h.hb.set_ i u, h.hr.chg ((Chg.refl (one b) w).setCell (p := ⟨b, i, none⟩) (.inl rfl) u) (fun e => h.ne (show r = b from e).symm), h.ne⟩
theorem sr (h : BR w b r xs ys) (i : Nat) (u : Value) : BR (w.setCell ⟨r, i, none⟩ u) b r xs (ys.set i u) :=
  ⟨h.hb.chg ((Chg.refl (one r) w).setCell (p := ⟨r, i, none⟩) (.inl rfl) u) (fun e => h.ne (show b = r from e)), h.hr.set_ i u, h.ne⟩
theorem bel (h : BR w b r xs ys) (hb : Below w.heap.size w w') : BR w' b r xs ys := ⟨h.hb.below hb h.hb.lt, h.hr.below hb h.hr.lt, h.ne⟩
theorem fb (h : BR w b r xs ys) (i : Nat) : w.frozen? ⟨b, i, none⟩ = false := h.hb.frozen i
theorem fr (h : BR w b r xs ys) (i : Nat) : w.frozen? ⟨r, i, none⟩ = false := h.hr.frozen i
theorem cb (h : BR w b r xs ys) (i : Nat) : w.cell? ⟨b, i, none⟩ = xs[i]? := h.hb.cell i
theorem cr (h : BR w b r xs ys) (i : Nat) : w.cell? ⟨r, i, none⟩ = ys[i]? := h.hr.cell i
end BR
/-- the walks' facts of both blocks -/
theorem BR.all {w : World} {b r : Nat} {x0 x1 x2 y0 y1 y2 : Value} (h : BR w b r [x0, x1, x2] [y0, y1, y2]) :
    ((w.cell? ⟨b, 0, none⟩ = some x0 ∧ w.cell? ⟨b, 1, none⟩ = some x1 ∧ w.cell? ⟨b, 2, none⟩ = some x2) ∧ (w.frozen? ⟨b, 0, none⟩ = false ∧ w.frozen? ⟨b, 1, none⟩ = false ∧ w.frozen? ⟨b, 2, none⟩ = false)) ∧
    ((w.cell? ⟨r, 0, none⟩ = some y0 ∧ w.cell? ⟨r, 1, none⟩ = some y1 ∧ w.cell? ⟨r, 2, none⟩ = some y2) ∧ (w.frozen? ⟨r, 0, none⟩ = false ∧ w.frozen? ⟨r, 1, none⟩ = false ∧ w.frozen? ⟨r, 2, none⟩ = false)) :=
  ⟨⟨⟨h.cb 0, h.cb 1, h.cb 2⟩, ⟨h.fb 0, h.fb 1, h.fb 2⟩⟩, ⟨⟨h.cr 0, h.cr 1, h.cr 2⟩, ⟨h.fr 0, h.fr 1, h.fr 2⟩⟩⟩

set_option maxHeartbeats 4000000 in
theorem rmove_any (A : Option Addr) (n c i most : Nat) (a : Int) (w : World) :
    Calls Tryz.prog 19 #[.agg (rgp A n c i most).toArray, .int .i64 a] w fun e w' => e = .returned (.tuple #[.agg (rgp A n c (clampN a n) most).toArray, .int .i64 (clampN a n : Nat)]) ∧ Below w.heap.size w w' := by
  obtain ⟨W, hW⟩ : ∃ W, W = (w.alloc (.cells (rgp A n c i most).toArray 29)).alloc (.cells #[.slice none 0 0, .int .i64 0, .int .i64 0] 29) := ⟨_, rfl⟩
  have hBR : BR W w.heap.size (w.heap.size + 1) (rgp A n c i most) [.slice none 0 0, .int .i64 0, .int .i64 0] := by rw [hW]; exact BR.new w _ _
  have hb0 : Below w.heap.size w W := by rw [hW]; exact ((Below.refl _ w).alloc (Nat.le_refl _) _).alloc (by simp) _
  have hs0 : W.heap.size = w.heap.size + 2 := by rw [hW]; simp
  have HBR := Lib.hid hBR
  have HB0 := Lib.hid hb0
  have HS0 := Lib.hid hs0
  simp only [rgp] at hW ⊢
  have hq := fun W => rheld_any A n c i most a W
  simp only [rgp] at hq
  have HQ := Lib.hid hq
  obtain ⟨k, hk⟩ : ∃ k, k = clampN a n := ⟨_, rfl⟩
  rw [← hk] at HQ ⊢
  clear hk hq hBR hb0 hs0
  obtain ⟨⟨⟨a0, a1, a2⟩, ⟨f0, f1, f2⟩⟩, ⟨⟨b0, b1, b2⟩, ⟨g0, g1, g2⟩⟩⟩ := HBR.out.all
  go_enter Tryz.func19, Tryz.ntmps19
  go_upto_region 1 with (fail)
  rw [← hW]
  clear hW
  go_wp2_with (go_at_call 51; refine (HQ.out _).mono ?_; rintro e w1 ⟨rfl, hb1⟩; have H1 := Lib.hid (HBR.out.bel hb1); have HB1 := Lib.hid (HB0.out.trans (hb1.mono HB0.out.size)); clear hb1 a0 a1 a2 f0 f1 f2 b0 b1 b2 g0 g1 g2; obtain ⟨⟨⟨a0, a1, a2⟩, ⟨f0, f1, f2⟩⟩, ⟨⟨b0, b1, b2⟩, ⟨g0, g1, g2⟩⟩⟩ := H1.out.all)
  go_region_with (fail)
  all_goals
    go_wp2_with (fail)
    refine bodyPost_ret (hresults_ct (ad := w.heap.size + 1) (cs := rgp A n c k most) rfl rfl rfl (Blk.hwhole (t := 29) ?_) Tryz.underlying29 rfl (by kernel_rfl)) rfl ?_
    · exact ((((H1.out.sb 1 _).sr 0 _).sr 1 _).sr 2 _).hr
    · exact ⟨rfl, ((((HB1.out.setCell (p := ⟨w.heap.size, 1, none⟩) (by simp) _).setCell (p := ⟨w.heap.size + 1, 0, none⟩) (by simp) _).setCell (p := ⟨w.heap.size + 1, 1, none⟩) (by simp) _).setCell (p := ⟨w.heap.size + 1, 2, none⟩) (by simp) _).drew⟩
end Go.Proofs.YtjdfajgjejpfeaaGreatDoor

