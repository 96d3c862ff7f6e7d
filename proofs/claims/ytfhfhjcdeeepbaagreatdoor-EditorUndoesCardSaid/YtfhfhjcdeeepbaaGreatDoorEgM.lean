/-
  An editor of the program as it lies in memory; walks of made, state, begin, enter.
  Walks: made, state, begin.
  Walk: edit, whatever is done.
  Walks: insert of a state, Insert of an editor.
-/
import Derived.Test.YtfhfhjcdeeepbaaGreatDoorEgA
import Derived.Test.YtfhfhjcdeeepbaaGreatDoorGpFork
import Derived.Deep.CutRange
namespace Go.Proofs.YtfhfhjcdeeepbaaGreatDoor
open Go.RowKit Go.Sort
set_option linter.unusedVariables false
set_option linter.unusedSimpArgs false

/-- the clusters of a text, made flat -/
def cutF (x : ByteArray) : List (List UInt8) := (cls (rs (x.data.toList.map fl1))).map eb
theorem cutF_is (x : ByteArray) : ∀ c ∈ cutF x, isC c = true := by
  intro c hc
  obtain ⟨d, hd, rfl⟩ := List.mem_map.1 hc
  exact gisC_wf (cls_wf (rs_isR _) d hd)
theorem cutF_len (x : ByteArray) : (cutF x).length ≤ x.size := by
  unfold cutF
  rw [List.length_map]
  have h := cls_len (x.data.toList.map fl1)
  rw [List.length_map] at h
  have : x.data.toList.length = x.size := by rw [Array.length_toList]; rfl
  omega
theorem flatB_cut (x : ByteArray) : flatB x.data.toList = (cutF x).flatten := by
  unfold flatB cleanB cutF
  rw [eb_flatten]
theorem cutF_flat (x : ByteArray) : (cls (rs (flatB x.data.toList))).map eb = cutF x := by
  unfold flatB cleanB cutF
  have h : ∀ c ∈ cls (rs (x.data.toList.map fl1)), wf c := cls_wf (rs_isR _)
  rw [rs_eb (flat_isR h), cls_flat h]
/-- what is put behind each other is cut into the same clusters -/
theorem cut_back {l : List (List UInt8)} (h : ∀ c ∈ l, isC c = true) : (cls (rs l.flatten)).map eb = l := by
  have : ∃ C : List (List Int), (∀ c ∈ C, wf c) ∧ C.map eb = l := by
    induction l with
    | nil => exact ⟨[], (fun c hc => by cases hc), rfl⟩
    | cons a t ih =>
      obtain ⟨C, h1, h2⟩ := ih (fun c hc => h c (List.mem_cons_of_mem _ hc))
      obtain ⟨d, hd, hde⟩ := gisC_inv (h a (List.mem_cons_self ..))
      exact ⟨d :: C, (fun c hc => by rcases List.mem_cons.1 hc with rfl | hc; exact hd; exact h1 c hc), by rw [List.map_cons, hde, h2]⟩
  obtain ⟨C, h1, rfl⟩ := this
  rw [← eb_flatten, rs_eb (flat_isR h1), cls_flat h1]

/-- what enter leaves where there is room -/
def EntP (w : World) (lo g : Nat) (A : Option Addr) (most : Nat) (p s : List (List UInt8)) (d : Bool) (e : Ending) (w' : World) : Prop :=
  e = .returned (.bool d) ∧ ∃ A' n' C' t', GpAt w' lo g A' n' C' most p.length t' p s ∧ Chg (GpOwn g A) w w' ∧ ∀ k, blk A' = some k → blk A = some k ∨ w.heap.size ≤ k
set_option maxRecDepth 100000 in
set_option maxHeartbeats 4000000 in
theorem lenter_no {w : World} {lo g n C most f t : Nat} {A : Option Addr} {p s : List (List UInt8)} (h : GpAt w lo g A n C most f t p s) (hT : Tabs w) (x : ByteArray) (hx : x.size ≤ 30000) (hr : most - ln p s < (cutF x).length) :
    Calls Tryz.prog 45 #[.agg #[.pointer (some ⟨g, 0, none⟩)], .string x] w fun e w' => e = .returned (.bool false) ∧ Below w.heap.size w w' := by
  obtain ⟨hb0, hx0⟩ := line_box (w := w) (v := .pointer (some ⟨g, 0, none⟩))
  have G0 := Lib.hid (h.below hb0)
  have HB0 := Lib.hid hb0
  have HX0 := Lib.hid hx0
  have HT := Lib.hid (hT.below hb0)
  have hfl : (flatB x.data.toList).length ≤ 4000000 := by
    rw [flatB_cut]
    have h1 := flat_le (fun c hc => isC_len (cutF_is x c hc))
    have h2 := cutF_len x
    omega
  have hq := fun (W : World) (hW : Tabs W) => ccut_any ⟨(flatB x.data.toList).toArray⟩ (by rw [size_of]; exact hfl) W hW
  rw [show (⟨(flatB x.data.toList).toArray⟩ : ByteArray).data.toList = flatB x.data.toList from rfl] at hq
  have hcl : (cls (rs (flatB x.data.toList))).length = (cutF x).length := by rw [← cutF_flat x, List.length_map]
  rw [cutF_flat, hcl] at hq
  have hm5 := cutF_len x
  have hri : ((cutF x).length : Int) > ((most - ln p s : Nat) : Int) := by omega
  have HQ := Lib.hid hq
  clear h hT hb0 hx0 hq hcl hfl hr
  generalize (cutF x).length = m at *
  go_enter Tryz.func45, Tryz.ntmps45
  go_wp2_with (first
    | (go_at_call 47; refine (cflat_any x (by omega) _ HT.out).mono ?_; rintro e w1 ⟨rfl, hb1⟩; have HB1 := Lib.hid hb1; clear hb1)
    | (go_at_call 46; refine (HQ.out _ (HT.out.below HB1.out)).mono ?_; rintro e w2 ⟨A2, c2, rfl, ho2, hb2⟩; have hk2 := Boxed.cell (box_bel (box_bel HX0.out HB1.out) hb2); have HB2 := Lib.hid hb2; have G2 := Lib.hid ((G0.out.below HB1.out).below hb2); clear hb2 ho2)
    | (go_at_call 68; refine (groom_any G2.out).mono ?_; rintro e w3 ⟨rfl, hb3⟩))
  go_ret
  exact ⟨rfl, HB0.out.trans ((HB1.out.trans ((HB2.out.trans (hb3.mono HB2.out.size)).mono HB1.out.size)).mono HB0.out.size)⟩
set_option maxRecDepth 100000 in
set_option maxHeartbeats 4000000 in
theorem lenter_yes {w : World} {lo g n C most f t : Nat} {A : Option Addr} {p s : List (List UInt8)} (h : GpAt w lo g A n C most f t p s) (hlo : w.heap.size ≥ lo) (hT : Tabs w) (x : ByteArray) (hx : x.size ≤ 30000) (hr : (cutF x).length ≤ most - ln p s) (hTg : ∀ W, Chg (GpOwn g A) w W → Tabs W) :
    Calls Tryz.prog 45 #[.agg #[.pointer (some ⟨g, 0, none⟩)], .string x] w (EntP w lo g A most (joinP p (rs x.data.toList) ++ cutF x) s (!decide (joinP p (rs x.data.toList) = p) || decide (0 < (cutF x).length))) := by
  obtain ⟨hb0, hx0⟩ := line_box (w := w) (v := .pointer (some ⟨g, 0, none⟩))
  have G0 := Lib.hid (h.below hb0)
  have HB0 := Lib.hid hb0
  have HX0 := Lib.hid hx0
  have HT := Lib.hid (hT.below hb0)
  have hfl : (flatB x.data.toList).length ≤ 4000000 := by
    rw [flatB_cut]
    have h1 := flat_le (fun c hc => isC_len (cutF_is x c hc))
    have h2 := cutF_len x
    omega
  have hq := fun (W : World) (hW : Tabs W) => ccut_any ⟨(flatB x.data.toList).toArray⟩ (by rw [size_of]; exact hfl) W hW
  rw [show (⟨(flatB x.data.toList).toArray⟩ : ByteArray).data.toList = flatB x.data.toList from rfl] at hq
  have hcl : (cls (rs (flatB x.data.toList))).length = (cutF x).length := by rw [← cutF_flat x, List.length_map]
  rw [cutF_flat, hcl] at hq
  have hm5 := cutF_len x
  obtain ⟨L, hL⟩ : ∃ L, L = cutF x := ⟨_, rfl⟩
  have hLi : ∀ c ∈ L, isC c = true := by rw [hL]; exact cutF_is x
  rw [← hL] at hq hm5 hr ⊢
  obtain ⟨m, hm⟩ : ∃ m, m = L.length := ⟨_, rfl⟩
  rw [← hm] at hq hm5 hr ⊢
  have hri : ¬ ((m : Int) > ((most - ln p s : Nat) : Int)) := by omega
  have hq2 := fun (W : World) (hW : GpAt W lo g A n C most f t p s) (hTW : Tabs W) => ljoin_any hW hTW x (by omega)
  have hjl : ln (joinP p (rs x.data.toList)) s = ln p s := by unfold ln; rw [joinP_length]
  generalize joinP p (rs x.data.toList) = p1 at *
  have hq3 := fun (W : World) (hW : GpAt W lo g A n C most f t p1 s) (hTW : Tabs W) (X : Option Addr) (d : Nat) (hX : Sl W W.heap.size X (sv L)) (hXg : ∀ b off, X = some ⟨b, off, none⟩ → b ≠ g) =>
    ginsert_ok hW hTW L X m d hm (by omega) hX hXg (fun c hc => by have := isC_len (hLi c hc); omega) hLi (by omega)
  have HQ := Lib.hid hq
  have HQ2 := Lib.hid hq2
  have HQ3 := Lib.hid hq3
  have HTG := Lib.hid hTg
  have HOW := Lib.hid h.own_lt
  have HPL : Hid ((p1 ++ L).length = (p1 ++ L).length) := Lib.hid rfl
  clear h hT hb0 hx0 hq hcl hfl hr hq2 hq3 hTg hjl hL hLi hm hlo
  obtain ⟨d, hd⟩ : ∃ d, d = !decide (p1 = p) := ⟨_, rfl⟩
  rw [← hd] at HQ2 ⊢
  clear hd
  cases d
  all_goals go_enter Tryz.func45, Tryz.ntmps45
  all_goals go_wp2_with (first
    | (go_at_call 47; refine (cflat_any x (by omega) _ HT.out).mono ?_; rintro e w1 ⟨rfl, hb1⟩; have HB1 := Lib.hid hb1; clear hb1)
    | (go_at_call 46; refine (HQ.out _ (HT.out.below HB1.out)).mono ?_; rintro e w2 ⟨A2, c2, rfl, ho2, hb2⟩; have hk2 := Boxed.cell (box_bel (box_bel HX0.out HB1.out) hb2); have HB2 := Lib.hid hb2; have HO2 := Lib.hid ho2; have G2 := Lib.hid ((G0.out.below HB1.out).below hb2); clear hb2 ho2)
    | (go_at_call 68; refine (groom_any G2.out).mono ?_; rintro e w3 ⟨rfl, hb3⟩; have hk3 := Boxed.cell (box_bel (box_bel (box_bel HX0.out HB1.out) HB2.out) hb3); have HB3 := Lib.hid hb3; have G3 := Lib.hid (G2.out.below hb3); clear hb3)
    | (go_at_call 69; refine (HQ2.out _ G3.out (((HT.out.below HB1.out).below HB2.out).below HB3.out)).mono ?_; rintro e w4 ⟨rfl, hg4, hc4⟩; have hk4 := hc4.cell (p := ⟨w.heap.size, 0, none⟩) hk3 (fun e => absurd (HOW.out w.heap.size e).2 (Nat.lt_irrefl _)); have G4 := Lib.hid hg4; have HC4 := Lib.hid hc4; clear hg4 hc4
       have hbw3 : Below w.heap.size w w3 := HB0.out.trans ((HB1.out.trans ((HB2.out.trans (HB3.out.mono HB2.out.size)).mono HB1.out.size)).mono HB0.out.size)
       have hcw4 : Chg (GpOwn g A) w w4 := (Chg.of_below hbw3).trans HC4.out (fun _ h => .inl h)
       have HCW4 := Lib.hid hcw4
       have hTW4 := HTG.out _ hcw4
       have hs13 : w.heap.size ≤ w1.heap.size := by have h1 := HB0.out.size; have h2 := HB1.out.size; omega
       have hA2 : ∀ b off, A2 = some ⟨b, off, none⟩ → w.heap.size ≤ b := fun b off e => by have := (HO2.out.blk_lt b (by rw [e]; rfl)).1; omega
       have hsl4 : Sl w4 w4.heap.size A2 (sv L) := (HC4.out.sl ((HO2.out.sl.below HB3.out).more HB3.out.size) (Nat.le_refl _) (fun b off e => fun hk => by have h1 := (HOW.out _ hk).2; have h2 := hA2 b off e; omega)).more HC4.out.size
       have hXg : ∀ b off, A2 = some ⟨b, off, none⟩ → b ≠ g := fun b off e => by have h1 := (HOW.out g (.inl rfl)).2; have h2 := hA2 b off e; omega
       have HSL4 := Lib.hid hsl4
       have HXG := Lib.hid hXg
       have HT4 := Lib.hid hTW4
       clear hbw3 hcw4 hTW4 hs13 hA2 hsl4 hXg hk2 hk3)
    | (go_at_call 70; refine (HQ3.out _ G4.out HT4.out A2 c2 HSL4.out HXG.out).mono ?_; rintro e w5 ⟨rfl, A', n', C', t', hg5, hc5, hk5⟩; have G5 := Lib.hid hg5; have HC5 := Lib.hid hc5; have HK5 := Lib.hid hk5; clear hg5 hc5 hk5))
  all_goals go_ret
  all_goals exact ⟨rfl, A', n', C', t', G5.out, HCW4.out.trans HC5.out (fun _ h => .inl h), fun k hk => (HK5.out k hk).imp id (fun h => Nat.le_trans HCW4.out.size h)⟩

/-! ## An editor in memory -/
/-- what an editor holds -/
structure EdM where
  p : List (List UInt8)
  s : List (List UInt8)
  ks : List (List (List UInt8))
  ps : List (List (List UInt8) × Nat)
  kd : Bool
  yd : Bool
  ki : Nat
  fr : Nat
/-- where it lies -/
structure EdC where
  g : Nat
  A : Option Addr
  n : Nat
  C : Nat
  t : Nat
  K : Option Addr
  kc : Nat
  Q : Option Addr
  qc : Nat
def flatV (l : List (List UInt8)) : Value := .string ⟨(l.flatten).toArray⟩
def kV (ks : List (List (List UInt8))) : List Value := ks.map flatV
def nC (x : List (List UInt8) × Nat) : List Value := [flatV x.1, .int .i64 x.2]
def nV (ps : List (List (List UInt8) × Nat)) : List Value := ps.flatMap nC
theorem kV_one (ks : List (List (List UInt8))) : ∀ v ∈ kV ks, v.oneCell' = true := by
  intro v hv
  obtain ⟨k, _, rfl⟩ := List.mem_map.1 hv
  rfl
theorem nV_one (ps : List (List (List UInt8) × Nat)) : ∀ v ∈ nV ps, v.oneCell' = true := by
  intro v hv
  obtain ⟨k, _, hv⟩ := List.mem_flatMap.1 hv
  simp [nC] at hv
  rcases hv with rfl | rfl <;> rfl
def edc (b : Nat) (c : EdC) (m : EdM) : List Value :=
  [.pointer (some ⟨b, 0, none⟩), .pointer (some ⟨c.g, 0, none⟩), .slice c.K m.ks.length c.kc, .slice c.Q m.ps.length c.qc, .bool m.kd, .bool m.yd, .int .i64 m.ki, .int .i64 m.fr]
/-- An editor at block b. -/
structure EdAt (w : World) (lo b : Nat) (c : EdC) (most : Nat) (m : EdM) : Prop where
  st : Blk w b 52 (edc b c m)
  buf : GpAt w lo c.g c.A c.n c.C most m.p.length c.t m.p m.s
  ks : w.ownsRow lo 9 1 (.slice c.K m.ks.length c.kc) m.ks.length (kV m.ks)
  ps : w.ownsRow lo 64 2 (.slice c.Q m.ps.length c.qc) m.ps.length (nV m.ps)
  ap : ∀ k, blk c.A = some k → blk c.K ≠ some k
  lo : lo ≤ b
/-- its blocks -/
def EdOwn (b : Nat) (c : EdC) (k : Nat) : Prop := k = b ∨ GpOwn c.g c.A k ∨ blk c.K = some k ∨ blk c.Q = some k
theorem row_blk {w : World} {base n c Z : Nat} {E : TypeId} {A : Option Addr} {xs : List Value} (h : w.ownsRow base E Z (.slice A n c) n xs) {k : Nat} (hk : blk A = some k) : ∃ cs, Blk w k E cs := by
  rcases h with ⟨hl, ⟨hv, h0⟩ | ⟨g, cap, cur, hv, hb, hh, hnc, hc, hcur, ht⟩⟩
  · injection hv with h1; subst h1; cases hk
  · injection hv with h1; subst h1
    have : g = k := by simpa [blk] using hk
    subst this
    exact ⟨cur.toList, by unfold Blk; rw [Array.toArray_toList]; exact hh⟩
namespace EdAt
variable {w w' : World} {lo b most : Nat} {c : EdC} {m : EdM}
theorem gA (h : EdAt w lo b c most m) {k : Nat} (hk : GpOwn c.g c.A k) : ∃ T cs, Blk w k T cs ∧ (T = 82 ∨ T = 9) := by
  rcases hk with rfl | hk
  · exact ⟨_, _, h.buf.head, .inl rfl⟩
  · rcases h.buf.all with ⟨h0, _⟩ | ⟨ab, tl, e, _, _, hb, _⟩
    · rw [h0] at hk; cases hk
    · rw [e] at hk
      have : ab = k := by simpa [blk] using hk
      subst this
      exact ⟨_, _, hb, .inr rfl⟩
theorem b_gp (h : EdAt w lo b c most m) : ¬ GpOwn c.g c.A b := fun hk => by
  obtain ⟨T, cs, hb, hT⟩ := h.gA hk
  rcases hT with rfl | rfl <;> exact h.st.ne_ hb (by decide) rfl
theorem b_K (h : EdAt w lo b c most m) : blk c.K ≠ some b := fun hk => by
  obtain ⟨cs, hb⟩ := row_blk h.ks hk
  exact h.st.ne_ hb (by decide) rfl
theorem b_Q (h : EdAt w lo b c most m) : blk c.Q ≠ some b := fun hk => by
  obtain ⟨cs, hb⟩ := row_blk h.ps hk
  exact h.st.ne_ hb (by decide) rfl
theorem gp_Q (h : EdAt w lo b c most m) {k : Nat} (hk : GpOwn c.g c.A k) : blk c.Q ≠ some k := fun hq => by
  obtain ⟨cs, hb⟩ := row_blk h.ps hq
  obtain ⟨T, cs', hb', hT⟩ := h.gA hk
  rcases hT with rfl | rfl <;> exact hb'.ne_ hb (by decide) rfl
theorem gp_K (h : EdAt w lo b c most m) {k : Nat} (hk : GpOwn c.g c.A k) : blk c.K ≠ some k := fun hq => by
  rcases hk with rfl | hk
  · obtain ⟨cs, hb⟩ := row_blk h.ks hq
    exact h.buf.head.ne_ hb (by decide) rfl
  · exact h.ap k hk hq
theorem K_Q (h : EdAt w lo b c most m) {k : Nat} (hk : blk c.K = some k) : blk c.Q ≠ some k := fun hq => by
  obtain ⟨cs, hb⟩ := row_blk h.ps hq
  obtain ⟨cs', hb'⟩ := row_blk h.ks hk
  exact hb'.ne_ hb (by decide) rfl
theorem own_lt (h : EdAt w lo b c most m) (k : Nat) (hk : EdOwn b c k) : lo ≤ k ∧ k < w.heap.size := by
  rcases hk with rfl | hk | hk | hk
  · exact ⟨h.lo, h.st.lt⟩
  · exact h.buf.own_lt k hk
  · exact Go.Proofs.YtfhfhjcdeeepbaaGreatDoor.own_lt h.ks k hk
  · exact Go.Proofs.YtfhfhjcdeeepbaaGreatDoor.own_lt h.ps k hk
theorem keep {S : Nat → Prop} (h : EdAt w lo b c most m) (hc : Chg S w w') (hn : ∀ k, EdOwn b c k → ¬ S k) : EdAt w' lo b c most m :=
  ⟨h.st.chg hc (hn _ (.inl rfl)), h.buf.keep hc (fun k hk => hn k (.inr (.inl hk))), own_chg h.ks hc (fun k hk => hn k (.inr (.inr (.inl hk)))), own_chg h.ps hc (fun k hk => hn k (.inr (.inr (.inr hk)))), h.ap, h.lo⟩
theorem below (h : EdAt w lo b c most m) (hb : Below w.heap.size w w') : EdAt w' lo b c most m := h.keep (Chg.of_below (S := noB) hb) (fun _ _ h => h)
/-- the buffer turned -/
theorem buf' (h : EdAt w lo b c most m) {A' : Option Addr} {n' C' t' : Nat} {p' s' : List (List UInt8)} (hg : GpAt w' lo c.g A' n' C' most p'.length t' p' s') (hc : Chg (GpOwn c.g c.A) w w') (hk : ∀ k, blk A' = some k → blk c.A = some k ∨ w.heap.size ≤ k) :
    EdAt w' lo b { c with A := A', n := n', C := C', t := t' } most { m with p := p', s := s' } ∧ Chg (EdOwn b c) w w' ∧ ∀ k, EdOwn b { c with A := A', n := n', C := C', t := t' } k → EdOwn b c k ∨ w.heap.size ≤ k := by
  refine ⟨⟨h.st.chg hc h.b_gp, hg, own_chg h.ks hc (fun k hk' hs => h.gp_K hs hk'), own_chg h.ps hc (fun k hk' hs => h.gp_Q hs hk'), fun k hA hK => ?_, h.lo⟩, hc.mono (fun k hk => .inl (.inr (.inl hk))), fun k hk' => ?_⟩
  · rcases hk k hA with hA | hA
    · exact h.ap k hA hK
    · have := (Go.Proofs.YtfhfhjcdeeepbaaGreatDoor.own_lt h.ks k hK).2; omega
  · rcases hk' with rfl | (rfl | hk') | hk'
    · exact .inl (.inl rfl)
    · exact .inl (.inr (.inl (.inl rfl)))
    · exact (hk k hk').imp (fun h => .inr (.inl (.inr h))) id
    · exact .inl (.inr (.inr hk'))
end EdAt
/-- What a call of an editor leaves. -/
def EdR (w : World) (lo b : Nat) (c : EdC) (most : Nat) (m : EdM) (w' : World) : Prop :=
  ∃ c', c'.g = c.g ∧ EdAt w' lo b c' most m ∧ Chg (EdOwn b c) w w' ∧ ∀ k, EdOwn b c' k → EdOwn b c k ∨ w.heap.size ≤ k
def EdStep (w : World) (lo b : Nat) (c : EdC) (most : Nat) (m : EdM) (d : Bool) (e : Ending) (w' : World) : Prop :=
  e = .returned (.bool d) ∧ EdR w lo b c most m w'
end Go.Proofs.YtfhfhjcdeeepbaaGreatDoor

namespace Go.Proofs.YtfhfhjcdeeepbaaGreatDoor
open Go.RowKit Go.Sort
set_option linter.unusedVariables false
set_option linter.unusedSimpArgs false

/-- the tables lie, and ahead of lo -/
structure TL (lo : Nat) (w : World) : Prop where
  tb : Tabs w
  ml : 1 < lo
  wl : 0 < lo
theorem TL.chg {lo : Nat} {w w' : World} {S : Nat → Prop} (h : TL lo w) (hc : Chg S w w') (hs : ∀ k, S k → lo ≤ k) : TL lo w' :=
  ⟨h.tb.same (hc.block _ h.tb.mg (fun e => by have := hs _ e; have := h.ml; omega)) (hc.block _ h.tb.wg (fun e => by have := hs _ e; have := h.wl; omega)) hc.size, h.ml, h.wl⟩
theorem TL.below {lo : Nat} {w w' : World} (h : TL lo w) (hb : Below w.heap.size w w') : TL lo w' := ⟨h.tb.below hb, h.ml, h.wl⟩

theorem ed_ptr_info : (Tryz.prog.info? 52).isSome = true := by kernel_rfl
theorem ed_eql_self (a : Addr) (w : World) : Sem.run Tryz.prog (binOp .eql 23 (.pointer (some a)) (.pointer (some a))) w = .ok (.bool true) w := by
  obtain ⟨j, hj⟩ := Option.isSome_iff_exists.1 ed_ptr_info
  have h : ∀ d : Nat, (Op.equalIn (d + 1) 23 (.pointer (some a)) (.pointer (some a))).run Tryz.prog w = .ok true w := fun d => by
    simp [Op.equalIn, run_underlying Tryz.underlying23, sizeOf, typeInfo, hj, run_sameAddr_same]
  simp only [binOp]
  simp [Op.equal, Op.maxDepth, h 9999]
theorem ed_eql_none (a : Addr) (w : World) : Sem.run Tryz.prog (binOp .eql 23 (.pointer none) (.pointer (some a))) w = .ok (.bool false) w := by
  have h : ∀ d : Nat, (Op.equalIn (d + 1) 23 (.pointer none) (.pointer (some a))).run Tryz.prog w = .ok false w := fun d => by
    simp [Op.equalIn, run_underlying Tryz.underlying23]
  simp only [binOp]
  simp [Op.equal, Op.maxDepth, h 9999]
set_option maxHeartbeats 400000 in
theorem emade_yes (b : Nat) (w : World) (hp : w.cell? ⟨b, 0, none⟩ = some (.pointer (some ⟨b, 0, none⟩))) :
    Calls Tryz.prog 34 #[.pointer (some ⟨b, 0, none⟩)] w fun e w' => e = .returned (.bool true) ∧ w = w' := by
  have he := ed_eql_self ⟨b, 0, none⟩
  go_enter Tryz.func34, Tryz.ntmps34
  go_wp2
  go_ret
  exact ⟨rfl, rfl⟩
/-- An editor that nobody made. -/
def EdNo (w : World) (p : Option Addr) : Prop := p = none ∨ ∃ g, p = some ⟨g, 0, none⟩ ∧ w.cell? ⟨g, 0, none⟩ = some (.pointer none)
theorem EdNo.below {w w' : World} {p : Option Addr} (h : EdNo w p) (hb : Below w.heap.size w w') : EdNo w' p := by
  rcases h with h | ⟨g, h1, h2⟩
  · exact .inl h
  · exact .inr ⟨g, h1, (hb.cell (p := ⟨g, 0, none⟩) (World.block_lt_of_cell? w _ h2)).trans h2⟩
set_option maxHeartbeats 400000 in
theorem emade_not {w : World} {p : Option Addr} (h : EdNo w p) : Calls Tryz.prog 34 #[.pointer p] w fun e w' => e = .returned (.bool false) ∧ w = w' := by
  rcases h with rfl | ⟨g, rfl, hp⟩
  · go_enter Tryz.func34, Tryz.ntmps34
    go_wp2
    go_ret
    exact ⟨rfl, rfl⟩
  · have he := ed_eql_none ⟨g, 0, none⟩
    go_enter Tryz.func34, Tryz.ntmps34
    go_wp2
    go_ret
    exact ⟨rfl, rfl⟩
set_option maxHeartbeats 1000000 in
theorem estate_yes (b : Nat) (w : World) (hp : w.cell? ⟨b, 0, none⟩ = some (.pointer (some ⟨b, 0, none⟩))) :
    Calls Tryz.prog 24 #[.pointer (some ⟨b, 0, none⟩)] w fun e w' => e = .returned (.pointer (some ⟨b, 1, none⟩)) ∧ w = w' := by
  go_enter Tryz.func24, Tryz.ntmps24
  go_wp2_with (go_at_call 34; refine (emade_yes b w hp).mono ?_; rintro e w1 ⟨rfl, rfl⟩)
  go_ret
  exact ⟨rfl, rfl⟩
/-- the blank state -/
def stc (kd yd : Bool) (ki fr : Int) : List Value := [.pointer none, .slice none 0 0, .slice none 0 0, .bool kd, .bool yd, .int .i64 ki, .int .i64 fr]
set_option maxHeartbeats 1000000 in
theorem estate_not {w : World} {p : Option Addr} (h : EdNo w p) :
    Calls Tryz.prog 24 #[.pointer p] w fun e w' => e = .returned (.pointer (some ⟨w.heap.size, 0, none⟩)) ∧ w' = w.alloc (.cells (stc false false 0 0).toArray 50) := by
  have H := Lib.hid h
  clear h
  go_enter Tryz.func24, Tryz.ntmps24
  go_wp2_with (go_at_call 34; refine (emade_not H.out).mono ?_; rintro e w1 ⟨rfl, rfl⟩)
  go_ret
  exact ⟨rfl, rfl⟩

/-- what the last call left is taken -/
def EdM.begun (m : EdM) : EdM := { m with kd := false, yd := false, ki := 0, fr := 0 }
/-- a state's block, wherever in it the state lies -/
theorem pre_set (pre L : List Value) (o k : Nat) (ds : List Value) (hp : pre.length = o) (h : k + ds.length ≤ L.length) : splice (pre ++ L) (o + k) ds = pre ++ splice L k ds := by
  subst hp
  unfold splice
  rw [List.take_append, List.take_of_length_le (by omega), Nat.add_sub_cancel_left, List.append_assoc, List.drop_append, List.drop_of_length_le (by omega), List.nil_append]
  rw [show pre.length + k + ds.length - pre.length = k + ds.length by omega]
set_option maxRecDepth 100000 in
set_option maxHeartbeats 2000000 in
theorem begin_any (w : World) (b o : Nat) (T : TypeId) (pre : List Value) (x0 x1 x2 : Value) (kd yd : Bool) (ki fr : Int) (hp : pre.length = o) (hb : Blk w b T (pre ++ [x0, x1, x2, .bool kd, .bool yd, .int .i64 ki, .int .i64 fr])) :
    Calls Tryz.prog 42 #[.pointer (some ⟨b, o, none⟩)] w fun e w' => e = .returned (.agg #[.bool kd, .bool yd, .int .i64 ki, .int .i64 fr]) ∧ Blk w' b T (pre ++ [x0, x1, x2, .bool false, .bool false, .int .i64 0, .int .i64 0]) ∧ Chg (one b) w w' := by
  have hc : ∀ j v, ([x0, x1, x2, .bool kd, .bool yd, .int .i64 ki, .int .i64 fr] : List Value)[j]? = some v → w.cell? ⟨b, o + j, none⟩ = some v := fun j v hj => by
    rw [hb.cell, ← hp, List.getElem?_append_right (by omega), Nat.add_sub_cancel_left]; exact hj
  have c3 := hc 3 _ rfl
  have c4 := hc 4 _ rfl
  have c5 := hc 5 _ rfl
  have c6 := hc 6 _ rfl
  have f3 := hb.frozen (o + 3)
  have f4 := hb.frozen (o + 3 + 1)
  have f5 := hb.frozen (o + 3 + 2)
  have f6 := hb.frozen (o + 3 + 3)
  have hlt := hb.lt
  have HB := Lib.hid hb
  have HP := Lib.hid hp
  clear hb hp hc
  go_enter Tryz.func42, Tryz.ntmps42
  go_wp2_with (fail)
  have hset : ∀ (L : List Value) (k : Nat) (v : Value), (pre ++ L).set (o + k) v = pre ++ L.set k v := fun L k v => by
    have := HP.out
    subst this
    rw [List.set_append_right _ _ (by omega), Nat.add_sub_cancel_left]
  have hb4 : Blk ((((w.setCell ⟨b, o + 3, none⟩ (.bool false)).setCell ⟨b, o + 3 + 1, none⟩ (.bool false)).setCell ⟨b, o + 3 + 2, none⟩ (.int .i64 0)).setCell ⟨b, o + 3 + 3, none⟩ (.int .i64 0)) b T (pre ++ [x0, x1, x2, .bool false, .bool false, .int .i64 0, .int .i64 0]) := by
    have := (((HB.out.set_ (o + 3) (.bool false)).set_ (o + 3 + 1) (.bool false)).set_ (o + 3 + 2) (.int .i64 0)).set_ (o + 3 + 3) (.int .i64 0)
    rw [hset, Nat.add_assoc, hset, Nat.add_assoc, hset, Nat.add_assoc, hset] at this
    exact this
  have hc4 : Chg (one b) w ((((w.setCell ⟨b, o + 3, none⟩ (.bool false)).setCell ⟨b, o + 3 + 1, none⟩ (.bool false)).setCell ⟨b, o + 3 + 2, none⟩ (.int .i64 0)).setCell ⟨b, o + 3 + 3, none⟩ (.int .i64 0)) :=
    ((((Chg.refl (one b) w).setCell (p := ⟨b, o + 3, none⟩) (.inl rfl) _).setCell (p := ⟨b, o + 3 + 1, none⟩) (.inl rfl) _).setCell (p := ⟨b, o + 3 + 2, none⟩) (.inl rfl) _).setCell (p := ⟨b, o + 3 + 3, none⟩) (.inl rfl) _
  have hs4 : ((((w.setCell ⟨b, o + 3, none⟩ (.bool false)).setCell ⟨b, o + 3 + 1, none⟩ (.bool false)).setCell ⟨b, o + 3 + 2, none⟩ (.int .i64 0)).setCell ⟨b, o + 3 + 3, none⟩ (.int .i64 0)).heap.size = w.heap.size := by simp
  generalize ((((w.setCell ⟨b, o + 3, none⟩ (.bool false)).setCell ⟨b, o + 3 + 1, none⟩ (.bool false)).setCell ⟨b, o + 3 + 2, none⟩ (.int .i64 0)).setCell ⟨b, o + 3 + 3, none⟩ (.int .i64 0)) = W4 at *
  have hr : Blk ((W4.alloc (.cells #[.bool kd, .bool yd, .int .i64 ki, .int .i64 fr] 48)).alloc (.cells #[.bool kd, .bool yd, .int .i64 ki, .int .i64 fr] 48)) w.heap.size 48 [.bool kd, .bool yd, .int .i64 ki, .int .i64 fr] := by
    rw [← hs4]
    exact (Blk.new W4 48 [.bool kd, .bool yd, .int .i64 ki, .int .i64 fr]).alloc _
  exact bodyPost_ret (gresults_c rfl rfl hr.gwhole Tryz.underlying48 rfl (by kernel_rfl)) rfl ⟨rfl, (hb4.alloc _).alloc _, (hc4.alloc _).alloc _⟩
theorem ebegin_any {w : World} {lo b most : Nat} {c : EdC} {m : EdM} (h : EdAt w lo b c most m) :
    Calls Tryz.prog 42 #[.pointer (some ⟨b, 1, none⟩)] w fun e w' => e = .returned (.agg #[.bool m.kd, .bool m.yd, .int .i64 m.ki, .int .i64 m.fr]) ∧ EdAt w' lo b c most m.begun ∧ Chg (one b) w w' := by
  refine (begin_any w b 1 52 [.pointer (some ⟨b, 0, none⟩)] (.pointer (some ⟨c.g, 0, none⟩)) (.slice c.K m.ks.length c.kc) (.slice c.Q m.ps.length c.qc) m.kd m.yd m.ki m.fr rfl h.st).mono ?_
  rintro e w' ⟨rfl, hb, hc⟩
  refine ⟨rfl, ⟨hb, h.buf.keep hc (fun k hk e => h.b_gp ((show k = b from e) ▸ hk)), own_chg h.ks hc (fun k hk e => h.b_K ((show k = b from e) ▸ hk)), own_chg h.ps hc (fun k hk e => h.b_Q ((show k = b from e) ▸ hk)), h.ap, h.lo⟩, hc⟩
end Go.Proofs.YtfhfhjcdeeepbaaGreatDoor

namespace Go.Proofs.YtfhfhjcdeeepbaaGreatDoor
open Go.RowKit Go.Sort
set_option linter.unusedVariables false
set_option linter.unusedSimpArgs false

theorem nV_cons (x : List (List UInt8) × Nat) (ps : List (List (List UInt8) × Nat)) : nV (x :: ps) = nC x ++ nV ps := by simp [nV]
theorem nV_length (ps : List (List (List UInt8) × Nat)) : (nV ps).length = ps.length * 2 := by
  induction ps with
  | nil => rfl
  | cons x t ih => rw [nV_cons, List.length_append, ih, List.length_cons]; simp [nC]; omega
theorem nV_take (ps : List (List (List UInt8) × Nat)) : ∀ k, (nV ps).take (k * 2) = nV (ps.take k) := by
  induction ps with
  | nil => intro k; simp [nV]
  | cons x t ih =>
    intro k
    cases k with
    | zero => simp [nV]
    | succ k =>
      rw [nV_cons, List.take_succ_cons, nV_cons, List.take_append, List.take_of_length_le (by simp [nC]; omega), show (k + 1) * 2 - (nC x).length = k * 2 by simp [nC]; omega, ih]
theorem List.take_min_length' {α : Type} (l : List α) (k : Nat) : l.take (min l.length k) = l.take k := by
  rcases Nat.le_total l.length k with h | h
  · rw [Nat.min_eq_left h, List.take_length, List.take_of_length_le h]
  · rw [Nat.min_eq_right h]
/-- what is noted of a change -/
def EdM.noted (m1 m : EdM) : EdM := if m1.p ++ m1.s = m.p ++ m.s then m1 else { m1 with ps := (m.p ++ m.s, m.p.length) :: m1.ps.take 63 }
theorem EdAt.cells {w : World} {lo b most : Nat} {c : EdC} {m : EdM} (h : EdAt w lo b c most m) : w.cell? ⟨b, 1, none⟩ = some (.pointer (some ⟨c.g, 0, none⟩)) ∧ w.cell? ⟨b, 2, none⟩ = some (.slice c.K m.ks.length c.kc) ∧ w.cell? ⟨b, 3, none⟩ = some (.slice c.Q m.ps.length c.qc) :=
  ⟨h.st.cell 1, h.st.cell 2, h.st.cell 3⟩
/-- the undo list turned -/
theorem EdAt.ps' {w w' : World} {lo b most : Nat} {c : EdC} {m : EdM} (h : EdAt w lo b c most m) {A : Option Addr} {n cc : Nat} {ps' : List (List (List UInt8) × Nat)} (hn : n = ps'.length) (ho : w'.ownsRow lo 64 2 (.slice A n cc) n (nV ps')) (hc : Chg (fun k => blk c.Q = some k) w w') (hk : ∀ k, blk A = some k → blk c.Q = some k ∨ w.heap.size ≤ k) :
    EdAt (w'.setCell ⟨b, 3, none⟩ (.slice A n cc)) lo b { c with Q := A, qc := cc } most { m with ps := ps' } ∧ Chg (EdOwn b c) w (w'.setCell ⟨b, 3, none⟩ (.slice A n cc)) ∧ ∀ k, EdOwn b { c with Q := A, qc := cc } k → EdOwn b c k ∨ w.heap.size ≤ k := by
  subst hn
  have h1 := h.keep (S := fun k => blk c.Q = some k ∨ False) (hc.mono (fun k hk => .inl (.inl hk)))
  have hbQ := h.b_Q
  have hst : Blk w' b 52 (edc b c m) := h.st.chg hc hbQ
  have hset := hst.set_ 3 (.slice A ps'.length cc)
  have hcs : Chg (one b) w' (w'.setCell ⟨b, 3, none⟩ (.slice A ps'.length cc)) := (Chg.refl (one b) w').setCell (p := ⟨b, 3, none⟩) (.inl rfl) _
  have hnA : ∀ k, blk A = some k → k ≠ b := fun k hA e => by
    subst e
    rcases hk k hA with hq | hq
    · exact hbQ hq
    · have := h.st.lt; omega
  refine ⟨⟨hset, (h.buf.keep hc (fun k hk' hq => h.gp_Q hk' hq)).keep hcs (fun k hk' e => h.b_gp ((show k = b from e) ▸ hk')), own_chg (own_chg h.ks hc (fun k hk' hq => h.K_Q hk' hq)) hcs (fun k hk' e => h.b_K ((show k = b from e) ▸ hk')), own_chg ho hcs (fun k hk' e => hnA k hk' e), h.ap, h.lo⟩,
    (hc.mono (fun k hk' => .inl (.inr (.inr (.inr hk'))))).trans hcs (fun k e => .inl (.inl e)), fun k hk' => ?_⟩
  rcases hk' with rfl | hk' | hk' | hk'
  · exact .inl (.inl rfl)
  · exact .inl (.inr (.inl hk'))
  · exact .inl (.inr (.inr (.inl hk')))
  · exact (hk k hk').imp (fun h => .inr (.inr (.inr h))) id

set_option maxRecDepth 100000 in
set_option maxHeartbeats 4000000 in
theorem edit_any {w : World} {lo b most : Nat} {c : EdC} {m m1 : EdM} {d : Bool} (h : EdAt w lo b c most m) (hlo : lo ≤ w.heap.size) (gf : Nat) (cap : Array Value) (eg : ∀ args w, (callFunc gf args).run Tryz.prog w = .ok (.enter gf args) w)
    (hdo : ∀ W, Below w.heap.size w W → Calls Tryz.prog gf cap W (EdStep W lo b c most m1 d)) (hps : m1.ps.length ≤ 64) :
    Calls Tryz.prog 43 #[.pointer (some ⟨b, 1, none⟩), .func (.func gf) #[] cap] w (EdStep w lo b c most (m1.noted m) d) := by
  have kb := h.cells.1
  have HB := Lib.hid h.buf
  have hln : ln m.p m.s ≤ 4096 := by have := h.buf.ln_le; have := h.buf.m4; omega
  have hi : ∀ x ∈ m.p ++ m.s, isC x = true := h.buf.is
  have hlt := h.st.lt
  have hownlt := h.own_lt
  obtain ⟨l, hl⟩ : ∃ l, l = m.p ++ m.s := ⟨_, rfl⟩
  obtain ⟨n, hn⟩ : ∃ n, n = ln m.p m.s := ⟨_, rfl⟩
  have hnl : n = l.length := by rw [hn, hl, ln_eq]
  obtain ⟨f, hf⟩ : ∃ f, f = m.p.length := ⟨_, rfl⟩
  have q1 := fun (W : World) (hW : GpAt W lo c.g c.A c.n c.C most m.p.length c.t m.p m.s) => (gline_any hW)
  rw [← hl, ← hn] at q1
  have q2 := fun (W : World) (hW : GpAt W lo c.g c.A c.n c.C most m.p.length c.t m.p m.s) => (by rw [hf]; exact gcursor_any hW : Calls Tryz.prog 26 #[.pointer (some ⟨c.g, 0, none⟩)] W fun e w' => e = .returned (.int .i64 f) ∧ Below W.heap.size W w')
  have hno : m1.noted m = if m1.p ++ m1.s = l then m1 else { m1 with ps := (l, f) :: m1.ps.take 63 } := by unfold EdM.noted; rw [← hl, ← hf]
  rw [hno]
  rw [← hl] at hi
  rw [← hn] at hln
  have Q1 := Lib.hid q1
  have Q2 := Lib.hid q2
  have HI := Lib.hid hi
  have HNL := Lib.hid hnl
  have HDO := Lib.hid hdo
  have HLT := Lib.hid hlt
  have HOL := Lib.hid hownlt
  have HFL := Lib.hid (show l.flatten.length ≤ 100000000 by
    have h1 := flat_le (fun c hc => isC_len (hi c hc))
    omega)
  clear q1 q2 hi hnl hdo hlt hownlt hl hn hf hno h
  go_enter Tryz.func43, Tryz.ntmps43
  go_wp2_with (fail)
  go_cut [5, 6] from 8 to 19 (fun v5 v6 wr => ∃ (A2 : Option Addr) (c2 : Nat), v5 = .slice A2 n c2 ∧ v6 = .int .i64 f ∧ OR wr w.heap.size 9 A2 n c2 (sv l) ∧ Below w.heap.size w wr)
  case first =>
    go_region_law (first
      | (refine step_call rfl 30 _ _ rfl (enters_of Tryz.func30 (by kernel_rfl) rfl) #[.pointer (some ⟨c.g, 0, none⟩)] (by simp [Act.eval, Act.put]) (Q1.out w.drew (HB.out.drewN 1)) ?_; rintro e w2 ⟨A2, c2, rfl, ho, hb2⟩; refine ⟨_, rfl, ?_⟩; have hb12 : Below w.heap.size w w2 := ((Below.refl _ w).drew).trans hb2; have k2 : w2.cell? ⟨b, 1, none⟩ = some (.pointer (some ⟨c.g, 0, none⟩)) := (hb12.cell (p := ⟨b, 1, none⟩) HLT.out).trans kb; have G2 := Lib.hid (HB.out.below hb12); have HO2 := Lib.hid ho; have HB12 := Lib.hid hb12; clear ho hb2 hb12)
      | (refine step_call rfl 26 _ _ rfl (enters_of Tryz.func26 (by kernel_rfl) rfl) #[.pointer (some ⟨c.g, 0, none⟩)] (by simp [Act.eval, Act.put]) (Q2.out _ G2.out) ?_; rintro e w3 ⟨rfl, hb3⟩; refine ⟨_, rfl, ?_⟩; have HB3 := Lib.hid hb3; clear hb3))
    all_goals (go_wp2_with (fail); go_meet; exact ⟨A2, c2, rfl, rfl, HO2.out.below HB3.out (fun k hk => (HO2.out.blk_lt k hk).2), HB12.out.trans (HB3.out.mono HB12.out.size)⟩)
  case rest =>
    obtain ⟨A2, c2, rfl, rfl, ho, hbel⟩ := hcut
    have HO := Lib.hid ho
    have HBEL := Lib.hid hbel
    clear ho hbel kb
    go_wp2_with (go_at_fn gf; refine (HDO.out _ HBEL.out).mono ?_; rintro e w3 ⟨rfl, c', hg, h3, hc3, hk3⟩; have kb3 := h3.cells.1; have H3 := Lib.hid h3; have HC3 := Lib.hid hc3; have HK3 := Lib.hid hk3; have HG := Lib.hid hg; clear h3 hc3 hk3 hg)
    have hA2 : ∀ k, blk A2 = some k → w.heap.size ≤ k := fun k hk => (HO.out.blk_lt k hk).1
    have hn2 : ∀ k off, A2 = some ⟨k, off, none⟩ → ¬ EdOwn b c k := fun k off e hk => by
      have h1 := (HOL.out k hk).2
      have h2 := hA2 k (by rw [e]; rfl)
      omega
    have hsl3 : Sl w3 w3.heap.size A2 (sv l) := (HC3.out.sl HO.out.sl (Nat.le_refl _) hn2).more HC3.out.size
    have HSL3 := Lib.hid hsl3
    have hc2n : n ≤ c2 := HO.out.cap
    have hwc3 : Chg (EdOwn b c) w w3 := (Chg.of_below HBEL.out).trans HC3.out (fun _ h => .inl h)
    have HWC3 := Lib.hid hwc3
    have HK3' : Hid (∀ k, EdOwn b c' k → EdOwn b c k ∨ w.heap.size ≤ k) := Lib.hid (fun k hk => (HK3.out k hk).imp id (fun h => Nat.le_trans HBEL.out.size h))
    have q3 := fun (W : World) (hW : EdAt W lo b c' most m1) hX => lis_any hW.buf l A2 n c2 HNL.out (by omega) hX
    have Q3 := Lib.hid q3
    clear hA2 hn2 hsl3 hwc3 q3
    by_cases hsame : m1.p ++ m1.s = l
    · have hd1 : decide (m1.p ++ m1.s = l) = true := decide_eq_true hsame
      rw [hd1] at Q3
      have HS := Lib.hid hsame
      clear hsame hd1
      refine (Q3.out _ H3.out HSL3.out).mono ?_
      rintro e w4 ⟨rfl, hb4⟩
      have HB4 := Lib.hid hb4
      clear hb4
      go_wp2_with (fail)
      go_ret
      exact ⟨rfl, c', HG.out, H3.out.below HB4.out, HWC3.out.trans (Chg.of_below (S := EdOwn b c) HB4.out) (fun _ h => .inl h), HK3'.out⟩
    · have hd1 : decide (m1.p ++ m1.s = l) = false := decide_eq_false hsame
      rw [hd1] at Q3
      have HS := Lib.hid hsame
      clear hsame hd1
      refine (Q3.out _ H3.out HSL3.out).mono ?_
      rintro e w4 ⟨rfl, hb4⟩
      have HB4 := Lib.hid hb4
      have H4 := Lib.hid (H3.out.below hb4)
      have kq4 := H4.out.cells.2.2
      have HSL4 := Lib.hid ((HSL3.out.below hb4).more hb4.size)
      have HL4 : Hid (b < w4.heap.size) := Lib.hid H4.out.st.lt
      have HLO4 : Hid (lo ≤ w4.heap.size) := Lib.hid (by have h1 := HWC3.out.size; have h2 := hb4.size; omega)
      have q5 := fun (W : World) (hb : Below w4.heap.size w4 W) => firstN_any lo c'.Q m1.ps.length c'.qc (nV m1.ps) W (H4.out.below hb).ps ⟨(l.flatten).toArray⟩ f (nV_one _) hps (by have := HLO4.out; have := hb.size; omega)
      have q6 := join_any l A2 n c2 w4.heap.size HNL.out hc2n w4.drew HSL4.out.drew (Nat.le_refl _) (by have := HNL.out; omega) HFL.out
      have Q5 := Lib.hid q5
      have Q6 := Lib.hid q6
      have HBQ := Lib.hid H4.out.b_Q
      clear hb4 q5 q6 kb3
      go_wp2_with (fail)
      go_region_law (first
        | (refine step_call rfl 67 _ _ rfl (enters_of Tryz.func67 (by kernel_rfl) rfl) #[.slice A2 n c2, .string ⟨#[]⟩] (by simp [Act.eval, Act.put]) Q6.out ?_; rintro e w5 ⟨rfl, hb5⟩; refine ⟨_, rfl, ?_⟩; have hb45 : Below w4.heap.size w4 w5 := ((Below.refl _ w4).drew).trans hb5; have kq5 : w5.cell? ⟨b, 3, none⟩ = some (.slice c'.Q m1.ps.length c'.qc) := (hb45.cell (p := ⟨b, 3, none⟩) HL4.out).trans kq4; have HB45 := Lib.hid hb45; clear hb5 hb45)
        | (refine step_call rfl 66 _ _ rfl (enters_of Tryz.func66 (by kernel_rfl) rfl) #[.agg #[.string ⟨(l.flatten).toArray⟩, .int .i64 f], .slice c'.Q m1.ps.length c'.qc, .int .i64 64] (by simp [Act.eval, Act.put]) (Q5.out _ HB45.out) ?_; rintro e w6 ⟨A6, c6, rfl, ho6, hc6, hk6⟩; refine ⟨_, rfl, ?_⟩; have hst6 := (H4.out.below HB45.out).st.chg hc6 HBQ.out; have kq6 : w6.cell? ⟨b, 3, none⟩ = some (.slice c'.Q m1.ps.length c'.qc) := hst6.cell 3; have fq6 : w6.frozen? ⟨b, 3, none⟩ = false := hst6.frozen 3; have HO6 := Lib.hid ho6; have HC6 := Lib.hid hc6; have HK6 := Lib.hid hk6; clear ho6 hc6 hk6 hst6))
      all_goals
        clear kq4 kq5 kq6 fq6
        go_wp2_with (fail)
        go_ret
        have e5 := H4.out.below HB45.out
        have hrow : w6.ownsRow lo 64 2 (.slice A6 (min m1.ps.length 63 + 1) c6) (min m1.ps.length 63 + 1) (nV ((l, f) :: m1.ps.take 63)) := by
          have := HO6.out
          rw [nV_take, List.take_min_length'] at this
          rw [nV_cons]
          exact this
        obtain ⟨e7, c7, k7⟩ := e5.ps' (by rw [List.length_cons, List.length_take]; omega) hrow HC6.out HK6.out
        refine ⟨rfl, { c' with Q := A6, qc := c6 }, HG.out, e7, ((HWC3.out.trans (Chg.of_below (S := EdOwn b c) (HB4.out.trans (HB45.out.mono HB4.out.size))) (fun _ h => .inl h)).trans c7 (fun k hk => ?_)), fun k hk => ?_⟩
        · exact (HK3'.out k hk).imp id id
        · rcases k7 k hk with h7 | h7
          · exact HK3'.out k h7
          · exact .inr (by have h1 := HWC3.out.size; have h2 := HB4.out.size; have h3 := HB45.out.size; omega)
end Go.Proofs.YtfhfhjcdeeepbaaGreatDoor

namespace Go.Proofs.YtfhfhjcdeeepbaaGreatDoor
open Go.RowKit Go.Sort
set_option linter.unusedVariables false
set_option linter.unusedSimpArgs false

/-- what a text entered leaves -/
def EdM.entered (m : EdM) (most : Nat) (x : ByteArray) : EdM := if (cutF x).length ≤ most - ln m.p m.s then { m with p := joinP m.p (rs x.data.toList) ++ cutF x } else m
def EdM.entB (m : EdM) (most : Nat) (x : ByteArray) : Bool := decide ((cutF x).length ≤ most - ln m.p m.s) && (!decide (joinP m.p (rs x.data.toList) = m.p) || decide (0 < (cutF x).length))
theorem EdStep.of_below {w w' : World} {lo b most : Nat} {c : EdC} {m : EdM} {d : Bool} (h : EdAt w lo b c most m) (hb : Below w.heap.size w w') : EdStep w lo b c most m d (.returned (.bool d)) w' :=
  ⟨rfl, c, rfl, h.below hb, Chg.of_below hb, fun _ h => .inl h⟩
theorem EdStep.ent {w w' : World} {lo b most : Nat} {c : EdC} {m : EdM} {d : Bool} {e : Ending} {p' s' : List (List UInt8)} (h : EdAt w lo b c most m) (he : EntP w lo c.g c.A most p' s' d e w') : EdStep w lo b c most { m with p := p', s := s' } d e w' := by
  obtain ⟨rfl, A', n', C', t', hg, hc, hk⟩ := he
  obtain ⟨h1, h2, h3⟩ := h.buf' hg hc hk
  exact ⟨rfl, { c with A := A', n := n', C := C', t := t' }, rfl, h1, h2, h3⟩
theorem enter_any {W : World} {lo b most : Nat} {c : EdC} {m : EdM} (h : EdAt W lo b c most m) (hT : TL lo W) (hlo : lo ≤ W.heap.size) (x : ByteArray) (hx : x.size ≤ 30000) :
    Calls Tryz.prog 45 #[.agg #[.pointer (some ⟨c.g, 0, none⟩)], .string x] W (EdStep W lo b c most (m.entered most x) (m.entB most x)) := by
  unfold EdM.entered EdM.entB
  by_cases hr : (cutF x).length ≤ most - ln m.p m.s
  · rw [if_pos hr, decide_eq_true hr, Bool.true_and]
    exact (lenter_yes h.buf hlo hT.tb x hx hr (fun W' hc => (hT.chg hc (fun k hk => (h.buf.own_lt k hk).1)).tb)).mono fun e w' he => EdStep.ent h he
  · rw [if_neg hr, decide_eq_false hr, Bool.false_and]
    refine (lenter_no h.buf hT.tb x hx (by omega)).mono ?_
    rintro e w' ⟨rfl, hb⟩
    exact EdStep.of_below h hb
/-- from an earlier world -/
theorem EdR.viac {w w1 : World} {lo b most : Nat} {c : EdC} {m : EdM} {w' : World} (hb : Chg (EdOwn b c) w w1) (h : EdR w1 lo b c most m w') : EdR w lo b c most m w' := by
  obtain ⟨c', hg, h1, h2, h3⟩ := h
  exact ⟨c', hg, h1, hb.trans h2 (fun _ h => .inl h), fun k hk => (h3 k hk).imp id (fun h => Nat.le_trans hb.size h)⟩
theorem EdR.via {w w1 : World} {lo b most : Nat} {c : EdC} {m : EdM} {w' : World} (hb : Below w.heap.size w w1) (h : EdR w1 lo b c most m w') : EdR w lo b c most m w' := h.viac (Chg.of_below hb)
theorem EdR.below {w w1 : World} {lo b most : Nat} {c : EdC} {m : EdM} {w' : World} (h : EdR w lo b c most m w1) (hb : Below w1.heap.size w1 w') : EdR w lo b c most m w' := by
  obtain ⟨c', hg, h1, h2, h3⟩ := h
  exact ⟨c', hg, h1.below hb, h2.trans (Chg.of_below (S := EdOwn b c) hb) (fun _ h => .inl h), h3⟩
theorem EdR.refl {w : World} {lo b most : Nat} {c : EdC} {m : EdM} (h : EdAt w lo b c most m) : EdR w lo b c most m w := ⟨c, rfl, h, Chg.refl _ _, fun _ h => .inl h⟩

set_option maxRecDepth 100000 in
set_option maxHeartbeats 2000000 in
theorem insc_any {W : World} {lo b most : Nat} {c : EdC} {m : EdM} (h : EdAt W lo b c most m) (hT : TL lo W) (hlo : lo ≤ W.heap.size) (x : ByteArray) (hx : x.size ≤ 30000) (h1 h2 : Nat) (hb1 : Boxed W h1 61 (.pointer (some ⟨b, 1, none⟩))) (hb2 : Boxed W h2 9 (.string x)) :
    Calls Tryz.prog 44 #[.pointer (some ⟨h1, 0, none⟩), .pointer (some ⟨h2, 0, none⟩)] W (EdStep W lo b c most (m.entered most x) (m.entB most x)) := by
  have k1 := hb1.cell
  have k2 := hb2.cell
  have kb := h.cells.1
  have hq := enter_any (W := W.drew) (h.below ((Below.refl _ W).drew)) (hT.below ((Below.refl _ W).drew)) hlo x hx
  have HQ := Lib.hid hq
  clear hb1 hb2 h hT hlo hx hq
  generalize m.entered most x = m1 at *
  generalize m.entB most x = d at *
  go_enter Tryz.func44, Tryz.ntmps44
  go_wp2_with (fail)
  go_region_law (refine step_call rfl 45 _ _ rfl (enters_of Tryz.func45 (by kernel_rfl) rfl) #[.agg #[.pointer (some ⟨c.g, 0, none⟩)], .string x] (by simp [Act.eval, Act.put]) HQ.out ?_; rintro e w2 ⟨rfl, hr⟩; refine ⟨_, rfl, ?_⟩; have HR := Lib.hid (EdR.via ((Below.refl _ W).drew) hr); clear hr)
  all_goals (go_wp2_with (fail); go_ret; exact ⟨rfl, HR.out⟩)

set_option maxRecDepth 100000 in
set_option maxHeartbeats 2000000 in
theorem stins_any {w : World} {lo b most : Nat} {c : EdC} {m : EdM} (h : EdAt w lo b c most m) (hT : TL lo w) (hlo : lo ≤ w.heap.size) (hps : m.ps.length ≤ 64) (x : ByteArray) (hx : x.size ≤ 30000) :
    Calls Tryz.prog 27 #[.pointer (some ⟨b, 1, none⟩), .string x] w (EdStep w lo b c most ((m.begun.entered most x).noted m.begun) (m.entB most x)) := by
  have hb0 : Below w.heap.size w ((w.alloc (.cells #[.pointer (some ⟨b, 1, none⟩)] 61)).alloc (.cells #[.string x] 9)) := ((Below.refl _ w).alloc (Nat.le_refl _) _).alloc (by simp) _
  have y0 := (Boxed.new w 61 (.pointer (some ⟨b, 1, none⟩))).alloc (.cells #[.string x] 9)
  have y1 := Boxed.new (w.alloc (.cells #[.pointer (some ⟨b, 1, none⟩)] 61)) 9 (.string x)
  simp only [World.size_alloc] at y1
  have hq := ebegin_any (h.below hb0)
  have HQ := Lib.hid hq
  have HB0 := Lib.hid hb0
  have HY0 := Lib.hid y0
  have HY1 := Lib.hid y1
  have HLT := Lib.hid h.st.lt
  have HT0 := Lib.hid (hT.below hb0)
  have hlob := h.lo
  have hps1 : (m.begun.entered most x).ps.length ≤ 64 := by unfold EdM.entered EdM.begun; split <;> exact hps
  have he : m.begun.entB most x = m.entB most x := rfl
  have HE := Lib.hid he
  clear hb0 y0 y1 h hT hq hps he
  go_enter Tryz.func27, Tryz.ntmps27
  go_wp2_with (first
    | (go_at_call 42; refine HQ.out.mono ?_; rintro e w1 ⟨rfl, h1, hc1⟩
       have hn : ∀ k, w.heap.size ≤ k → ¬ one b k := fun k hk e => by have h9 : k = b := e; have := HLT.out; omega
       have z0 : Boxed w1 w.heap.size 61 (.pointer (some ⟨b, 1, none⟩)) := hc1.heap HY0.out (hn _ (Nat.le_refl _))
       have z1 : Boxed w1 (w.heap.size + 1) 9 (.string x) := hc1.heap HY1.out (hn _ (by omega))
       have k0 := z0.cell
       have HZ0 := Lib.hid z0
       have HZ1 := Lib.hid z1
       have H1 := Lib.hid h1
       have HC1 := Lib.hid hc1
       have HT1 := Lib.hid (HT0.out.chg hc1 (fun k e => by have h9 : k = b := e; omega))
       have HLO1 : Hid (lo ≤ w1.heap.size) := Lib.hid (by have h1 := HB0.out.size; have h2 := hc1.size; omega)
       clear hn z0 z1 h1 hc1)
    | (go_at_call 43; refine (edit_any H1.out HLO1.out 44 #[.pointer (some ⟨w.heap.size, 0, none⟩), .pointer (some ⟨w.heap.size + 1, 0, none⟩)] (enters_of Tryz.func44 (by kernel_rfl) rfl)
          (fun V hV => insc_any (H1.out.below hV) (HT1.out.below hV) (Nat.le_trans HLO1.out hV.size) x hx w.heap.size (w.heap.size + 1) (box_bel HZ0.out hV) (box_bel HZ1.out hV)) hps1).mono ?_
       rintro e w2 ⟨rfl, hr⟩
       have HR := Lib.hid (EdR.viac (w := w) ((Chg.of_below HB0.out).trans HC1.out (S' := one b) (fun k hk => .inl (.inl hk))) hr)
       clear hr))
  go_ret
  rw [← HE.out]
  exact ⟨rfl, HR.out⟩
set_option maxHeartbeats 1000000 in
theorem einsert_any {w : World} {lo b most : Nat} {c : EdC} {m : EdM} (h : EdAt w lo b c most m) (hT : TL lo w) (hlo : lo ≤ w.heap.size) (hps : m.ps.length ≤ 64) (x : ByteArray) (hx : x.size ≤ 30000) :
    Calls Tryz.prog 10 #[.pointer (some ⟨b, 0, none⟩), .string x] w (EdStep w lo b c most ((m.begun.entered most x).noted m.begun) (m.entB most x)) := by
  have hc0 : w.cell? ⟨b, 0, none⟩ = some (.pointer (some ⟨b, 0, none⟩)) := h.st.cell 0
  have hq := stins_any h hT hlo hps x hx
  have HQ := Lib.hid hq
  clear h hT hlo hps hx hq
  generalize (m.begun.entered most x).noted m.begun = m1 at *
  generalize m.entB most x = d at *
  go_enter Tryz.func10, Tryz.ntmps10
  go_wp2_with (first
    | (go_at_call 24; refine (estate_yes b w hc0).mono ?_; rintro e w1 ⟨rfl, rfl⟩)
    | (go_at_call 27; refine HQ.out.mono ?_; rintro e w2 ⟨rfl, hr⟩; have HR := Lib.hid hr; clear hr))
  go_ret
  exact ⟨rfl, HR.out⟩
end Go.Proofs.YtfhfhjcdeeepbaaGreatDoor

