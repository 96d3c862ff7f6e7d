/-
  Walks: the iterator of Rows has its contract: each row that it hands out is a block of its own, which it leaves alone.
-/
import Derived.Test.YtaijiapolippaaaDoorGfI
import Derived.Outline
import Derived.IntWalk
namespace Go.Proofs.YtaijiapolippaaaDoor
open Go.RowKit Go.Shelf
attribute [local go_sem] Oper.semAt_some
set_option linter.unusedVariables false
set_option linter.unusedSimpArgs false

/-- a row's number and where its copy lies -/
def encW (W : Nat) (x : Nat × Option Addr × Nat) : Array Value := #[.int .i64 (x.1 : Int), .slice x.2.1 W x.2.2]
/-- a row of such cells lies in a block of its own, from 'base' on -/
def RowB (X : World) (base : Nat) (f : Nat → Prop) (A : Option Addr) (c : Nat) (l : List Cl) : Prop :=
  ∃ b cs, A = some ⟨b, 0, none⟩ ∧ ¬ f b ∧ base ≤ b ∧ l.length ≤ c ∧ 0 < l.length ∧ Blk X b 123 cs ∧ cs.take (l.length * 7) = rc l
def elW (L : List (List Cl)) (base : Nat) (x : Nat × Option Addr × Nat) (f : Nat → Prop) (X : World) : Prop := ∃ l, L[x.1]? = some l ∧ RowB X base f x.2.1 x.2.2 l
set_option maxRecDepth 100000 in
set_option maxHeartbeats 4000000 in
theorem clone_new (l : List Cl) (m cap b off B : Nat) (hm : m = l.length) (h0 : 0 < m) (h1 : m ≤ 100000) (w : World) (hS : Sl w B (some ⟨b, off, none⟩) (rc l)) (hB : B ≤ w.heap.size) :
    Calls Tryd.prog 155 #[.slice (some ⟨b, off, none⟩) m cap] w fun e w' => ∃ b' c cs, e = .returned (.slice (some ⟨b', 0, none⟩) m c) ∧ w.heap.size ≤ b' ∧ m ≤ c ∧ Blk w' b' 123 cs ∧ cs.take (m * 7) = rc l ∧ Below w.heap.size w w' := by
  obtain ⟨i0, hi0, hz0, hz1, hz2⟩ := info_parts cl_info
  have HI0 := Lib.hid hi0
  have HZ0 := Lib.hid hz0
  have HZ1 := Lib.hid hz1
  have HZ2 := Lib.hid hz2
  have HM := Lib.hid hm
  have HS := Lib.hid (hS.more hB)
  clear hi0 hz0 hz1 hz2 hm hS
  have he := run_eql_snil ⟨b, off, none⟩ m cap
  go_enter Tryd.func155, Tryd.ntmps155
  go_wp2_with (at_builtin; go_loud (refine wpList_append_sl _ rfl (.tmp 5) (.tmp 6) _ rfl w.heap.size 123 i0 _ 7 48 Tryd.underlying79 HI0.out HZ0.out HZ1.out HZ2.out rfl (by omega) (.slice (some ⟨w.heap.size, 0, none⟩) 0 0) 0 [] rfl (by have := World.ownsRow_lit (base := w.heap.size) (e := 123) (size := 7) w #[] 0 (Nat.le_refl _) (by simp only [maxLen]; omega) (by simp); simpa using this) w.heap.size (some ⟨b, off, none⟩) m cap (rc l) rfl (HS.out.alloc (Nat.le_refl _) _) (by rw [rc_length, HM.out]) (fun h => by cases h) (rc_one l) (by simp only [maxLen]; omega) (by omega) (by simp) ?_); intro v' w2 ho hg hat)
  obtain ⟨A', c', hv', _, _⟩ := own_of ho
  rw [Nat.zero_add, List.nil_append] at ho
  rw [Nat.zero_add] at hv'
  subst hv'
  go_wp2
  go_ret
  obtain ⟨g, cap', cur, hv, hbg, hblk, htk, hle⟩ := own_blk ho h0
  have hcap := own_cap ho
  injection hv with hA _ _
  subst hA
  exact ⟨g, c', cur, rfl, hbg, hcap, hblk, htk, ((Below.refl _ _).alloc (Nat.le_refl _) _).grown hg (by simp) (fun k hk => by simp [Value.ownBlock] at hk; omega)⟩
/-- what the iterator calls its own -/
def RwOwn (B g rb : Nat) (bs : List Nat) (k : Nat) : Prop := k = B ∨ GrOwn g rb bs k

structure RwI (W0 : World) (h : Nat) (F0 : Nat → Prop) (J : List (Nat × Option Addr × Nat) → (Nat → Prop) → World → Prop) (is : List Nat) (X : World) : Prop where
  sz : W0.heap.size ≤ X.heap.size
  own : ∀ k, (F0 k ∨ k = h ∨ k = h + 1) → X.heap[k]? = W0.heap[k]?
  j : ∃ ys f, J ys f X ∧ ys.map (·.1) = is ∧ ∀ k, (F0 k ∨ k = h ∨ k = h + 1) ↔ f k

def YW (base : Nat) (J Jx : List (Nat × Option Addr × Nat) → (Nat → Prop) → World → Prop) (q : List (Nat × Option Addr × Nat)) (f : Nat → Prop) (X : World) (b : Bool) (W' : World) : Prop :=
  (b = true ∧ J q f W' ∧ Rk base f X W') ∨ (b = false ∧ Jx q f W' ∧ KeepsFrom base X W')
theorem fin_vals (n : Nat) : (List.finRange n).map (·.val) = List.range n := List.ext_getElem (by simp) (by intros; simp)
theorem KpF.t {f0 : Nat → Prop} {A B C : World} (h : KpF f0 A B) (k : KpF f0 B C) : KpF f0 A C := fun j hj => (k j hj).trans (h j hj)
theorem keepsFrom_below {A B : World} (b : Nat) (h : Below A.heap.size A B) : KeepsFrom b A B := ⟨h.size, fun k o _ ho _ => by rw [h.block k (Array.getElem?_eq_some_iff.1 ho).1]; exact ho⟩
theorem keepsFrom_tr {a b : Nat} {A B C : World} (h : KeepsFrom a A B) (k : KeepsFrom b B C) (hab : b ≤ a) : KeepsFrom a A C :=
  ⟨Nat.le_trans h.size k.size, fun j o hj ho hc => k.same j o (by omega) (h.same j o hj ho hc) hc⟩

set_option maxRecDepth 100000 in
set_option maxHeartbeats 8000000 in
theorem rows_own {lo g rb WW B : Nat} {bs : List Nat} {L : List (List Cl)} (w : World) (hB : Boxed w B 162 (.pointer (some ⟨g, 0, none⟩))) (hG : GrAt w lo g rb bs WW L) :
    SeqF Fence.wide 8 Tryd.prog 153 #[.pointer (some ⟨B, 0, none⟩)] (encW WW) (RwOwn B g rb bs) (elW L w.heap.size) (fun ys => ys.map (·.1) = List.range L.length) (fun pre => pre.map (·.1) <+: List.range L.length) L.length w := by
  intro l J Jx W hsz hf0 hJ hJx hY h0
  have hY' : ∀ m pre x f W1, J pre f W1 → pre.length < L.length → elW L w.heap.size x f W1 → YieldAt Fence.wide m Tryd.prog l (encW WW x) W1 fun e W' =>
      (e = .returned (.bool true) ∧ J (pre ++ [x]) f W' ∧ Rk W.heap.size f W1 W') ∨ (e = .returned (.bool false) ∧ Jx (pre ++ [x]) f W' ∧ KeepsFrom W.heap.size W1 W') := fun m pre x f W1 hj hl he => YieldAt.deepG m (hY pre x f W1 hj hl he)
  have hBW : Boxed W B 162 (.pointer (some ⟨g, 0, none⟩)) := (hf0 B (.inl rfl)).trans hB
  have hGW : GrAt W lo g rb bs WW L := hG.same (fun k hk => hf0 k (.inr hk))
  have hlen : bs.length = L.length := hG.len
  have h5 := hG.h5
  have hw5 := hG.w5
  have hw1 := hG.w1
  have hown : ∀ k, RwOwn B g rb bs k → k < W.heap.size := fun k hk => by
    rcases hk with rfl | hk
    · exact hBW.lt
    · exact hGW.own_lt k hk
  have HJ := Lib.hid hJ
  have HJx := Lib.hid hJx
  have HY := Lib.hid hY'
  have H0 := Lib.hid h0
  have HG := Lib.hid hGW
  have HB := Lib.hid hBW
  have HLEN := Lib.hid hlen
  have HOWN := Lib.hid hown
  have hcB := (hBW.alloc (.cells #[.func (.yield l) #[] #[]] 216)).cell
  clear hJ hJx hY hY' h0 hf0 hB hG hBW hGW hlen hown
  refine callsIn_of_wp_marks Tryd.func153 rfl trivial ?_ rfl
  simp only [Tryd.ntmps153, List.size_toArray, List.length_cons, List.length_nil, Nat.reduceAdd, Nat.reduceSub, Array.replicate_succ, Array.replicate_zero, List.push_toArray, List.append_toArray, List.nil_append, List.cons_append]
  gi_wp2_with (refine ⟨trivial, ?_⟩; gi_at_call 154; refine (callsIn_wide.2 (lines_any _ _)).mono ?_; rintro e w' ⟨rfl, rfl⟩)
  obtain ⟨h, hh⟩ : ∃ h, h = W.heap.size := ⟨_, rfl⟩
  rw [← hh]
  rw [← hh] at HJ HJx HOWN HY
  have hwh : w.heap.size ≤ h := by omega
  obtain ⟨W0, hW0⟩ : ∃ W0, W0 = (W.alloc (.cells #[.func (.yield l) #[] #[]] 216)).alloc (.cells #[.pointer (some ⟨g, 0, none⟩)] 162) := ⟨_, rfl⟩
  have hsz0 : W0.heap.size = h + 2 := by rw [hW0, hh]; simp
  have hB0 : Below W.heap.size W W0 := by rw [hW0]; exact ((Below.refl _ W).alloc (Nat.le_refl _) _).alloc (by simp) _
  have hx0 : Boxed W0 h 216 (.func (.yield l) #[] #[]) := by rw [hW0, hh]; exact (Boxed.new W _ _).alloc _
  have hx1 : Boxed W0 (h + 1) 162 (.pointer (some ⟨g, 0, none⟩)) := by
    have := Boxed.new (W.alloc (.cells #[.func (.yield l) #[] #[]] 216)) 162 (.pointer (some ⟨g, 0, none⟩))
    rw [hW0, hh]; simpa using this
  have hG0 := HG.out.below hB0
  rw [← hW0]
  have hI0 : RwI W0 h (RwOwn B g rb bs) J [] W0 := ⟨Nat.le_refl _, fun _ _ => rfl, [], fun k => RwOwn B g rb bs k ∨ k = h ∨ k = h + 1,
    HJ.out _ (RwOwn B g rb bs) _ W W0 H0.out (by rw [hh]; exact Turn.of_below hB0) (fun k hk => hk.imp id (fun hk => ⟨by omega, by omega⟩)), rfl, fun _ => Iff.rfl⟩
  have hlt0 : ∀ k, (RwOwn B g rb bs k ∨ k = h ∨ k = h + 1) → k < W0.heap.size := fun k hk => by
    rcases hk with hk | hk
    · have := HOWN.out k hk; omega
    · omega
  have HX0 := Lib.hid hx0
  have HG0 := Lib.hid hG0
  have HLT := Lib.hid hlt0
  have HSZ := Lib.hid hsz0
  clear hW0 hB0 hx0 hh hcB hlt0 HB
  have hSZ : W0.heap.size = h + 2 := hsz0
  refine wpIn_rangeFunc_ownG rfl (by omega) (gf := 188) (lb := #[.pointer (some ⟨h + 1, 0, none⟩)]) rfl trivial (enters_of Tryd.func188 (by kernel_rfl) rfl)
    (lines_keeps (h + 1) g rb WW bs (by rw [HLEN.out]; exact h5) (fun k => RwOwn B g rb bs k ∨ k = h ∨ k = h + 1) W0 hx1.cell hG0.ptr (by rw [HLEN.out]; exact hG0.rws) (fun k b hb => by rw [hG0.rows.cell, List.getElem?_map, hb]; rfl) (.inr (.inr rfl)) (.inl (.inr (.inl rfl))) (.inl (.inr (.inr (.inl rfl)))) HLT.out)
    (fun a b => KpF.t a b) (fun X j o o' hj ho hc hw => fun k hk => World.putObj_heap_other (by have := HLT.out k hk; omega)) (Below.refl _ _) (fun _ => rfl)
    (fun pre X => RwI W0 h (RwOwn B g rb bs) J (pre.map (·.val)) X)
    (fun c pre X => c = .ret ∧ ∃ ys f, Jx ys f X ∧ ys.map (·.1) = pre.map (·.val))
    (fun pre X Y row hi hg hr => by
      obtain ⟨h1, h2, ys, f, h3, h4, h6⟩ := hi
      refine ⟨Nat.le_trans h1 hg.size, fun k hk => (hg.block k (by have := HLT.out k hk; omega) (fun e => ?_)).trans (h2 k hk), ys, f, HJ.out _ f f X Y h3 (Turn.of_grown hg (fun k e => ⟨by have := (hr k e).1; omega, .inr (hr k e).2⟩)) (fun _ h => .inl h), h4, h6⟩
      have h7 := (hr k e.symm).1
      have h8 := HLT.out k hk
      omega)
    (fun c pre X Y row hi hg hr => by
      obtain ⟨h1, ys, f, h3, h4⟩ := hi
      exact ⟨h1, ys, f, HJx.out _ f f X Y h3 (Turn.of_grown hg (fun k e => ⟨by have := (hr k e).1; omega, .inr (hr k e).2⟩)) (fun _ h => .inl h), h4⟩)
    hI0
    (fun x => { tmps := #[.func (.yield l) #[] #[], .pointer (some ⟨B, 0, none⟩), .pointer (some ⟨h, 0, none⟩), .int .i64 (x.val : Int), .slice (some ⟨bs[x.val], 0, none⟩) WW WW, .pointer (some ⟨g, 0, none⟩),
      .func (.func 188) #[] #[.pointer (some ⟨h + 1, 0, none⟩)], .int .i64 (x.val : Int), .slice (some ⟨bs[x.val], 0, none⟩) WW WW, undef, undef, undef, undef, undef, undef], defers := [] }) ?assign ?body ?done ?stop
  case assign =>
    intro l x X K hK
    simp only [encF, rowV]
    gi_wp2
    exact hK
  case body =>
    rintro lo' pre x X hI hlen
    obtain ⟨h1, h2, ys, f, h3, h4, h6⟩ := hI
    have hxl : x.val < L.length := by have := x.isLt; have := HLEN.out; omega
    have HX := HG0.out.same (w' := X) (fun k hk => h2 k (.inl (.inr hk)))
    obtain ⟨b, l1, hbi, hl1, hrv, hlen1, hwf1, hbl⟩ := HX.at_ hxl
    obtain rfl : b = bs[x.val] := by rw [List.getElem?_eq_getElem x.isLt] at hbi; injection hbi with hbi; exact hbi.symm
    have hx0 : Boxed X h 216 (.func (.yield l) #[] #[]) := (h2 h (.inr (.inl rfl))).trans HX0.out
    have hcy := hx0.cell
    have hyl : ys.length < L.length := by
      have e1 : (ys.map (·.1)).length = (pre.map (·.val)).length := by rw [h4]
      rw [List.length_map, List.length_map] at e1
      have := HLEN.out
      omega
    have H1 := Lib.hid h1
    have H2 := Lib.hid h2
    have H3 := Lib.hid h3
    have H4 := Lib.hid h4
    have H6 := Lib.hid h6
    have HX0' := Lib.hid hx0
    have HL1 := Lib.hid hl1
    have HBL := Lib.hid hbl
    have HEN := Lib.hid hlen1
    have HYL := Lib.hid hyl
    clear h1 h2 h3 h4 h6 hx0 hl1 hbl hlen1 hyl hI0 hx1 HX hrv hwf1 hbi hlen hG0
    have hcl : CallsIn (Fence.wide.inRound lo') 5 Tryd.prog 155 #[.slice (some ⟨bs[x.val], 0, none⟩) WW WW] X.drew (fun e w2 => ∃ b' c, e = .returned (.slice (some ⟨b', 0, none⟩) WW c) ∧ RowB w2 w.heap.size f (some ⟨b', 0, none⟩) c l1 ∧ Below X.heap.size X w2) :=
      (CallsIn.inRound lo' (callsIn_wide.2 (clone_new l1 WW WW bs[x.val] 0 X.heap.size HEN.out.symm hw1 (by omega) X.drew HBL.out.sl (Nat.le_refl _)))).mono (by
        rintro e w2 ⟨b', c, cs, rfl, q1, q2, q3, q4, hb2⟩
        have q1' : X.heap.size ≤ b' := q1
        exact ⟨b', c, rfl, ⟨b', cs, rfl, fun hf => by have := HLT.out b' ((H6.out b').2 hf); have := H1.out; omega, by have := H1.out; have := HSZ.out; omega, by rw [HEN.out]; exact q2, by rw [HEN.out]; exact hw1, q3, by rw [HEN.out]; exact q4⟩, ((Below.refl X.heap.size X).drew).trans hb2⟩)
    have hmap : ∀ (A : Option Addr) (c : Nat), (ys ++ [(x.val, A, c)]).map (fun y : Nat × Option Addr × Nat => y.1) = (pre ++ [x]).map (fun i : Fin bs.length => i.val) := fun A c => by rw [List.map_append, List.map_append, H4.out]; rfl
    have fin1 : ∀ w2 A c W3, Below X.heap.size X w2 → J (ys ++ [(x.val, A, c)]) f W3 → Rk h f w2 W3 → (KeepsFrom W0.heap.size X W3 ∧ KpF (fun k => RwOwn B g rb bs k ∨ k = h ∨ k = h + 1) X W3 ∧ RwI W0 h (RwOwn B g rb bs) J ((pre ++ [x]).map (·.val)) W3) := fun w2 A c W3 hb hj hk => by
      have hb : Below X.heap.size X w2 := hb
      have hk : Rk h f w2 W3 := hk
      have hkp : KpF (fun k => RwOwn B g rb bs k ∨ k = h ∨ k = h + 1) X W3 := fun k hk' => (hk.mine k ((H6.out k).1 hk')).trans (hb.block k (by have := HLT.out k hk'; have := H1.out; omega))
      exact ⟨keepsFrom_tr (keepsFrom_below W0.heap.size hb) hk.keeps (by have := HSZ.out; omega), hkp, Nat.le_trans H1.out (Nat.le_trans hb.size hk.keeps.size), fun k hk' => (hkp k hk').trans (H2.out k hk'), _, f, hj, hmap A c, H6.out⟩
    have fin2 : ∀ w2 A c W3, Below X.heap.size X w2 → Jx (ys ++ [(x.val, A, c)]) f W3 → KeepsFrom h w2 W3 → (KeepsFrom W0.heap.size X W3 ∧ ∃ ys f, Jx ys f W3 ∧ ys.map (·.1) = (pre ++ [x]).map (·.val)) := fun w2 A c W3 hb hj hk =>
      ⟨keepsFrom_tr (keepsFrom_below W0.heap.size hb) hk (by have := HSZ.out; omega), _, f, hj, hmap A c⟩
    have FIN1 := Lib.hid fin1
    have FIN2 := Lib.hid fin2
    have HCL := Lib.hid hcl
    clear hcl fin1 fin2 hmap
    gi_wp2
    gi_region_with (first
      | (refine hR.mono ?_; rintro e W3 ⟨b, rfl, hw3⟩)
      | (refine ⟨trivial, ?_⟩; refine HCL.out.mono ?_; rintro e w2 ⟨b', c, rfl, hs2, hb3⟩; have hcy := (hb3.cell (p := ⟨h, 0, none⟩) HX0'.out.lt).trans HX0'.out.cell; have hj2 := HJ.out _ f f X w2 H3.out (Turn.of_below hb3) (fun _ h => .inl h); have hyy : YieldAt Fence.wide 5 Tryd.prog l (encW WW (x.val, some ⟨b', 0, none⟩, c)) w2 (fun e W' => ∃ b, e = .returned (.bool b) ∧ YW h J Jx (ys ++ [(x.val, some ⟨b', 0, none⟩, c)]) f w2 b W') := (HY.out 5 ys (x.val, some ⟨b', 0, none⟩, c) f w2 hj2 HYL.out ⟨l1, HL1.out, hs2⟩).mono (by rintro e W' (⟨rfl, hq1, hq2⟩ | ⟨rfl, hq1, hq2⟩); exact ⟨true, rfl, .inl ⟨rfl, hq1, hq2⟩⟩; exact ⟨false, rfl, .inr ⟨rfl, hq1, hq2⟩⟩); obtain ⟨fn, tmps, assign, body, hy, hR⟩ := hyy; simp only [encW] at hy))
    all_goals
      clear hR hy hcy hj2 hs2 HCL
      have HB3 := Lib.hid hb3
      clear hb3
      rcases hw3 with ⟨rfl, q1, q2⟩ | ⟨rfl, q1, q2⟩
      · have hfin := FIN1.out _ _ _ _ HB3.out q1 q2
        have HFN := Lib.hid hfin
        clear hfin q1 q2 FIN1 FIN2
        gi_wp2
        exact HFN.out
      · have hfin := FIN2.out _ _ _ _ HB3.out q1 q2
        have HFN := Lib.hid hfin
        clear hfin q1 q2 FIN1 FIN2
        gi_wp2
        exact ⟨HFN.out.1, rfl, HFN.out.2⟩
  case done =>
    rintro D ys X hD rfl hI hK
    obtain ⟨h1, h2, zs, f, h3, h4, h6⟩ := hI
    have e : zs.map (·.1) = List.range L.length := by rw [h4, fin_vals, HLEN.out]
    have hD5 : h ≤ D := by have := HSZ.out; omega
    have hfin := HJ.out.put (.deferred none) h3 hD5 hK rfl
    have HE := Lib.hid e
    have HFN := Lib.hid hfin
    clear h1 h2 h3 h4 h6 e hfin
    gi_wp2
    refine ⟨by simp, .inl ⟨_, _, rfl, run_takeDeferred hK, ?_⟩⟩
    exact ⟨_, results_none rfl _ _ _, ⟨_, rfl⟩, .inl ⟨zs, f, HE.out, HFN.out⟩⟩
  case stop =>
    rintro D c pre X hD hpre ⟨rfl, zs, f, h3, h4⟩ hK
    have e : zs.map (·.1) <+: List.range L.length := by
      rw [h4, ← HLEN.out, ← fin_vals]
      exact hpre.map _
    have hD5 : h ≤ D := by have := HSZ.out; omega
    have hfin := HJx.out.put (.deferred none) h3 hD5 hK rfl
    have HE := Lib.hid e
    have HFN := Lib.hid hfin
    clear h3 h4 e hfin hpre
    gi_wp2
    refine ⟨by simp, .inl ⟨_, _, rfl, run_takeDeferred hK, ?_⟩⟩
    exact ⟨_, results_none rfl _ _ _, ⟨_, rfl⟩, .inr ⟨zs, f, HE.out, HFN.out⟩⟩
end Go.Proofs.YtaijiapolippaaaDoor
