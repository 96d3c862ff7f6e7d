/-
  Walks: taken and its iterator.
-/
import Derived.Test.YteolafeeggjblaaDoorKnTake
import Derived.Test.YteolafeeggjblaaDoorIterV
import Derived.RangeFuncNested
import Derived.RangeFuncBound
import Derived.RangeFuncCalls
import Derived.RangeFuncLeaves
import Derived.Shelf.Abstract
import Derived.Shelf.RegionOpen
import Derived.OwnWalkIn
import Derived.TacticsInMore
import Derived.LoopNIn
import Derived.LoopIn
import Derived.IntWalk
import Derived.Stop.RegionWithIn
namespace Go.Proofs.YteolafeeggjblaaDoor
open Go.RowKit Go.Shelf Go.Sort
attribute [local go_sem] Oper.semAt_some
set_option linter.unusedVariables false
set_option linter.unusedSimpArgs false

/-- how many bytes have been taken, with the keys that the last of them completed -/
def tkL (d : KD) (i : Nat) : List UInt8 → List (Nat × List Kv)
  | [] => []
  | b :: t => (i + 1, (takeK d b).2) :: tkL (takeK d b).1 (i + 1) t
theorem tkL_len : ∀ (L : List UInt8) (d : KD) (i : Nat), (tkL d i L).length = L.length
  | [], d, i => rfl
  | b :: t, d, i => by unfold tkL; rw [List.length_cons, List.length_cons, tkL_len t]
theorem tkL_keys : ∀ (L : List UInt8) (d : KD) (i : Nat), (tkL d i L).flatMap (·.2) = (feedK d L).2
  | [], d, i => rfl
  | b :: t, d, i => by unfold tkL feedK; rw [List.flatMap_cons, tkL_keys t]
theorem tkL_get : ∀ (L : List UInt8) (d : KD) (i j : Nat) (hj : j < L.length), (tkL d i L)[j]? = some (i + j + 1, (takeK (feedK d (L.take j)).1 L[j]).2)
  | b :: t, d, i, 0, hj => rfl
  | b :: t, d, i, j + 1, hj => by
    unfold tkL
    rw [List.getElem?_cons_succ, tkL_get t _ (i + 1) j (by simp at hj; omega), List.take_succ_cons, List.getElem_cons_succ]
    conv => rhs; unfold feedK
    simp only
    rw [show i + 1 + j + 1 = i + (j + 1) + 1 by omega]
theorem runK_len : ∀ (f : Nat) (d : KD) (ks : List Kv), (runK f d ks).1.B.length ≤ d.B.length
  | 0, d, ks => Nat.le_refl _
  | f + 1, d, ks => by
    unfold runK
    split
    · exact Nat.le_refl _
    · refine Nat.le_trans (runK_len f _ _) ?_
      simp
theorem takeK_len (d : KD) (b : UInt8) : (takeK d b).1.B.length ≤ d.B.length + 1 := by
  obtain ⟨s, P⟩ := d
  cases P with
  | none =>
    have h := runK_len (s.length + 1) ⟨s ++ [b], none⟩ []
    simp only [List.length_append, List.length_singleton] at h
    exact h
  | some r =>
    obtain ⟨p, m⟩ := r
    unfold takeK
    simp only
    split <;> simp
theorem feedK_len : ∀ (L : List UInt8) (d : KD), (feedK d L).1.B.length ≤ d.B.length + L.length
  | [], d => Nat.le_refl _
  | b :: t, d => by
    unfold feedK
    have h1 := feedK_len t (takeK d b).1
    have h2 := takeK_len d b
    rw [List.length_cons]
    simp only
    omega
theorem runK_cnt : ∀ (f : Nat) (d : KD) (ks : List Kv), (runK f d ks).2.length ≤ ks.length + f
  | 0, d, ks => Nat.le_refl _
  | f + 1, d, ks => by
    unfold runK
    split
    · simp only; omega
    · refine Nat.le_trans (runK_cnt f _ _) ?_
      split
      · omega
      · rw [List.length_append, List.length_singleton]; omega
theorem takeK_cnt (d : KD) (b : UInt8) : (takeK d b).2.length ≤ d.B.length + 1 := by
  obtain ⟨s, P⟩ := d
  cases P with
  | none =>
    have h := runK_cnt (s.length + 1) ⟨s ++ [b], none⟩ []
    simp only [List.length_nil, Nat.zero_add] at h
    exact h
  | some r =>
    obtain ⟨p, m⟩ := r
    unfold takeK
    simp only
    split <;> simp
theorem feedK_snoc (d : KD) (L : List UInt8) (j : Nat) (hj : j < L.length) : (feedK d (L.take (j + 1))).1 = (takeK (feedK d (L.take j)).1 L[j]).1 := by
  rw [List.take_succ_eq_append_getElem hj, feedK_append]
  rfl

abbrev TE := Nat × Value × List Kv
def encK (x : TE) : Array Value := #[.int .i64 x.1, x.2.1]
def elK (x : TE) (W : World) : Prop := KRow W x.2.1 x.2.2 ∧ x.2.2.length ≤ 90001
def prK (x : TE) : Nat × List Kv := (x.1, x.2.2)
theorem KRow.kept {W W' : World} {v : Value} {ks : List Kv} (h : KRow W v ks) (hz : W.heap.size ≤ W'.heap.size) (hk : ∀ p u, W.cell? p = some u → W'.cell? p = some u) : KRow W' v ks := by
  obtain ⟨A, n, c, rfl, rfl, hs, hn⟩ := h
  refine ⟨A, _, c, rfl, rfl, ?_, hn⟩
  rcases hs with e | ⟨b, off, rfl, hb, hc⟩
  · exact .inl e
  · exact .inr ⟨b, off, rfl, by omega, fun j u hu => hk _ _ (hc j u hu)⟩
theorem KRow.below {W W' : World} {v : Value} {ks : List Kv} (h : KRow W v ks) (hb : Below W.heap.size W W') : KRow W' v ks :=
  h.kept hb.size (fun p u hu => (World.cell?_of_block (w := W) (a := p) (hb.block p.block (World.block_lt_of_cell? W p hu))).trans hu)
theorem elK_put (x : TE) (W : World) (l : Nat) (o o' : Obj) (ho : W.heap[l]? = some o) (hc : o.isCells = false) (h : elK x W) : elK x (W.putObj l o') := by
  refine ⟨KRow.kept h.1 (by simp) (fun p u hu => ?_), h.2⟩
  have hne : p.block ≠ l := by
    intro e
    subst e
    simp only [World.cell?, ho] at hu
    cases o <;> simp_all [Obj.isCells]
  exact (World.cell?_of_block (w := W) (a := p) (World.putObj_heap_other hne)).trans hu

/-- the blocks that the iterator only reads: its two boxes and the bytes -/
def fixB (bd bb : Nat) (A : Option Addr) : Nat → Prop := fun k => k = bd ∨ k = bb ∨ blk A = some k
/-- the slice's block, if it shows anything -/
def blA (L : List UInt8) (A : Option Addr) : Option Addr := if L = [] then none else A
/-- what holds behind so many bytes -/
def TkS (D : Nat) (d : KD) (L : List UInt8) (w0 : World) (F : Nat → Prop) (xs : List TE) (f : Nat → Prop) (W : World) : Prop :=
  xs.map prK = (tkL d 0 L).take xs.length ∧ xs.length ≤ L.length ∧ (∃ O', DAt W D O' (feedK d (L.take xs.length)).1 ∧ ∀ j, O' j → f j ∧ ¬ F j) ∧ ∀ k, F k → W.heap[k]? = w0.heap[k]?
def TkE (D : Nat) (d : KD) (L : List UInt8) (w0 : World) (F : Nat → Prop) (xs : List TE) (f : Nat → Prop) (W : World) : Prop := TkS D d L w0 F xs f W ∧ xs.length = L.length
/-- the bytes lie where the slice shows -/
def ByL (w : World) (A : Option Addr) (L : List UInt8) : Prop := L = [] ∨ ∃ bk off, A = some ⟨bk, off, none⟩ ∧ ∀ j (hj : j < L.length), w.cell? ⟨bk, off + j, none⟩ = some (.int .u8 L[j].toNat)
theorem ByL.of {w : World} {Bn : Nat} {A : Option Addr} {L : List UInt8} (h : Sl w Bn A (bv L)) : ByL w A L := by
  rcases Nat.eq_zero_or_pos L.length with h0 | h0
  · exact .inl (List.length_eq_zero_iff.1 h0)
  · obtain ⟨bk, off, rfl, _, hc⟩ := h.open_ (by simp [bv]; omega)
    exact .inr ⟨bk, off, rfl, fun j hj => hc j _ (by simp [bv, hj])⟩
theorem ByL.same {w w' : World} {A : Option Addr} {L : List UInt8} (h : ByL w A L) (hs : ∀ g, blk (blA L A) = some g → w'.heap[g]? = w.heap[g]?) : ByL w' A L := by
  rcases h with h | ⟨bk, off, rfl, hc⟩
  · exact .inl h
  · rcases Nat.eq_zero_or_pos L.length with h0 | h0
    · exact .inl (List.length_eq_zero_iff.1 h0)
    · refine .inr ⟨bk, off, rfl, fun j hj => (World.cell?_of_block (w := w) (a := ⟨bk, off + j, none⟩) (hs bk ?_)).trans (hc j hj)⟩
      unfold blA
      rw [if_neg (by rintro rfl; simp at h0)]
      rfl
theorem ByL.lt {w : World} {A : Option Addr} {L : List UInt8} (h : ByL w A L) (g : Nat) (hg : blk (blA L A) = some g) : g < w.heap.size := by
  unfold blA at hg
  split at hg
  · cases hg
  · next hne =>
    rcases h with h | ⟨bk, off, rfl, hc⟩
    · exact absurd h hne
    · have h0 : 0 < L.length := List.length_pos_iff.2 hne
      have e : bk = g := by simpa [blk] using hg
      subst e
      exact cell_lt' (hc 0 h0)

theorem YieldAt.deepG {m : Nat} (m' : Nat) {P : Program} {l : Nat} {args : Array Value} {W : World} {R : Ending → World → Prop} (h : YieldAt Fence.wide m P l args W R) : YieldAt Fence.wide m' P l args W R := by
  obtain ⟨fn, tmps, assign, body, hy, hR⟩ := h
  exact ⟨fn, tmps, assign, body, hy, hR.1, fun c cs _ => hR.2 c cs (fun d h => by cases h)⟩

set_option maxRecDepth 100000 in
set_option maxHeartbeats 1000000 in
theorem taken_any (p : Option Addr) (A : Option Addr) (n c : Nat) (w : World) :
    Calls Tryd.prog 19 #[.pointer p, .slice A n c] w fun e w' => e = .returned (.func (.func 30) #[] #[.pointer (some ⟨w.heap.size, 0, none⟩), .pointer (some ⟨w.heap.size + 1, 0, none⟩)]) ∧ w' = (w.alloc (.cells #[.pointer p] 24)).alloc (.cells #[.slice A n c] 22) := by
  go_enter Tryd.func19, Tryd.ntmps19
  go_wp2
  go_ret
  exact ⟨rfl, rfl⟩

/-- the iterator's state behind so many bytes -/
structure TkI (w0 W : World) (D : Nat) (d : KD) (L : List UInt8) (A : Option Addr) (c bd bb : Nat) (O : Nat → Prop) (i : Nat) (pre : List TE) (O' : Nat → Prop) (wr : World) : Prop where
  hi : i ≤ L.length
  pl : pre.length = i
  pr : pre.map prK = (tkL d 0 L).take i
  dec : DAt wr D O' (feedK d (L.take i)).1
  own : ∀ k, O' k → O k ∨ W.heap.size ≤ k
  bxd : Boxed wr bd 24 (.pointer (some ⟨D, 0, none⟩))
  bxb : Boxed wr bb 22 (.slice A L.length c)
  byl : ByL wr A L
  siz : W.heap.size ≤ wr.heap.size
  fx : ∀ k, fixB bd bb (blA L A) k → wr.heap[k]? = w0.heap[k]?
theorem tk_J {base : Nat} {J : List TE → (Nat → Prop) → World → Prop} {pre : List TE} {O' F : Nat → Prop} {wr w1 : World} (hJ : AbV base J) (h : J pre (fun k => O' k ∨ F k) wr) (hc : Chg O' wr.drew w1) : J pre (fun k => grownO O' wr.drew w1 k ∨ F k) w1 := by
  refine hJ pre _ _ wr w1 h ⟨hc.os, hc.tape, hc.output, hc.size, fun k o ho hk _ => hc.heap (a := wr.drew) ho (fun e => hk (.inl e))⟩ (fun k hk => ?_)
  rcases hk with (hk | hk) | hk
  · exact .inl (.inl hk)
  · exact .inr hk
  · exact .inl (.inr hk)
theorem TkI.step {w0 W : World} {D : Nat} {d : KD} {L : List UInt8} {A : Option Addr} {c bd bb : Nat} {O O' : Nat → Prop} {i : Nat} {pre : List TE} {wr w1 W3 : World} {rr : KD × List Kv} {base : Nat} (h : TkI w0 W D d L A c bd bb O i pre O' wr) (hfix : ∀ k, fixB bd bb (blA L A) k → ¬ O k ∧ k < W.heap.size)
    (hlt : i < L.length) (hrr : rr = takeK (feedK d (L.take i)).1 L[i]) (v : Value) (hd1 : DAt w1 D (grownO O' wr.drew w1) rr.1) (hc1 : Chg O' wr.drew w1) (hk : Rk base (fun k => grownO O' wr.drew w1 k ∨ fixB bd bb (blA L A) k) w1 W3) :
    TkI w0 W D d L A c bd bb O (i + 1) (pre ++ [(i + 1, v, rr.2)]) (grownO O' wr.drew w1) W3 := by
  have hnO : ∀ k, fixB bd bb (blA L A) k → ¬ O' k := fun k hf ho => by
    rcases h.own k ho with e | e
    · exact (hfix k hf).1 e
    · have := (hfix k hf).2; omega
  have hsame : ∀ k, fixB bd bb (blA L A) k → W3.heap[k]? = wr.heap[k]? := fun k hf =>
    (hk.mine k (.inr hf)).trans (hc1.block k (by have := (hfix k hf).2; have := h.siz; show k < wr.heap.size; omega) (hnO k hf))
  have hz : wr.heap.size ≤ w1.heap.size := hc1.size
  refine ⟨hlt, by rw [List.length_append, h.pl, List.length_singleton], ?_, ?_, fun k ho => ?_, (hsame bd (.inl rfl)).trans h.bxd, (hsame bb (.inr (.inl rfl))).trans h.bxb, h.byl.same (fun g hg => hsame g (.inr (.inr hg))), by have := h.siz; have := hk.below.size; omega, fun k hf => (hsame k hf).trans (h.fx k hf)⟩
  · have hg := tkL_get L d 0 i hlt
    rw [List.map_append, h.pr, List.take_add_one, hg, ← hrr]
    simp [prK]
  · rw [feedK_snoc d L i hlt, ← hrr]
    exact hd1.same (fun j hj => hk.mine j (.inl hj)) hk.below.size
  · rcases ho with ho | ho
    · exact h.own k ho
    · have := h.siz
      have e : wr.heap.size ≤ k := ho.1
      exact .inr (by omega)
theorem TkI.tks {w0 W : World} {D : Nat} {d : KD} {L : List UInt8} {A : Option Addr} {c bd bb : Nat} {O O' f : Nat → Prop} {i : Nat} {pre : List TE} {wr : World} (h : TkI w0 W D d L A c bd bb O i pre O' wr) (hfix : ∀ k, fixB bd bb (blA L A) k → ¬ O k ∧ k < W.heap.size) (hf : ∀ j, O' j → f j) : TkS D d L w0 (fixB bd bb (blA L A)) pre f wr := by
  have hpl := h.pl
  subst hpl
  exact ⟨h.pr, h.hi, ⟨O', h.dec, fun j hj => ⟨hf j hj, fun hF => by
    rcases h.own j hj with e | e
    · exact (hfix j hF).1 e
    · have := (hfix j hF).2; omega⟩⟩, h.fx⟩

def YBK (J Jx : List TE → (Nat → Prop) → World → Prop) (base : Nat) (f : Nat → Prop) (W1 : World) (q : List TE) (b : Bool) (W' : World) : Prop := (b = true ∧ J q f W' ∧ Rk base f W1 W') ∨ (b = false ∧ Jx q f W' ∧ Rk base f W1 W')

set_option maxRecDepth 100000 in
set_option maxHeartbeats 8000000 in
theorem taken_stops (D bd bb : Nat) (O : Nat → Prop) (d : KD) (A : Option Addr) (n c : Nat) (L : List UInt8) (w : World) (hn : n = L.length) (hL : d.B.length + L.length ≤ 90000) (hd : DAt w D O d) (hby : ByL w A L)
    (hbd : Boxed w bd 24 (.pointer (some ⟨D, 0, none⟩))) (hbb : Boxed w bb 22 (.slice A n c)) (hfix : ∀ k, fixB bd bb (blA L A) k → ¬ O k ∧ k < w.heap.size) :
    SeqV Fence.wide 8 Tryd.prog 30 #[.pointer (some ⟨bd, 0, none⟩), .pointer (some ⟨bb, 0, none⟩)] encK (fun k => O k ∨ fixB bd bb (blA L A) k) elK (TkE D d L w (fixB bd bb (blA L A))) (TkS D d L w (fixB bd bb (blA L A))) L.length w := by
  subst hn
  intro l J Jx W hsz hf0 hJ hJx hY h0
  have hY' : ∀ m pre x f W1, J pre f W1 → pre.length < L.length → elK x W1 → YieldAt Fence.wide m Tryd.prog l (encK x) W1 fun e W' => ∃ b, e = .returned (.bool b) ∧ YBK J Jx W.heap.size f W1 (pre ++ [x]) b W' := fun m pre x f W1 hj hl he => (YieldAt.deepG m (hY pre x f W1 hj hl he)).mono (by
    rintro e W' (⟨rfl, h⟩ | ⟨rfl, h⟩)
    · exact ⟨true, rfl, .inl ⟨rfl, h⟩⟩
    · exact ⟨false, rfl, .inr ⟨rfl, h⟩⟩)
  have hbdW : Boxed W bd 24 (.pointer (some ⟨D, 0, none⟩)) := (hf0 bd (.inr (.inl rfl))).trans hbd
  have hbbW : Boxed W bb 22 (.slice A L.length c) := (hf0 bb (.inr (.inr (.inl rfl)))).trans hbb
  have hdW : DAt W D O d := hd.same (fun j hj => hf0 j (.inl hj)) hsz
  have hbyW : ByL W A L := hby.same (fun g hg => hf0 g (.inr (.inr (.inr hg))))
  have hfixW : ∀ k, fixB bd bb (blA L A) k → ¬ O k ∧ k < W.heap.size := fun k hk => ⟨(hfix k hk).1, by have := (hfix k hk).2; omega⟩
  have HJ := Lib.hid hJ
  have HY := Lib.hid hY'
  have H0 := Lib.hid h0
  have HD := Lib.hid hdW
  have HBD := Lib.hid hbdW
  have HBB := Lib.hid hbbW
  have HBY := Lib.hid hbyW
  have HFIX := Lib.hid hfixW
  have HFX : Hid (∀ k, fixB bd bb (blA L A) k → W.heap[k]? = w.heap[k]?) := Lib.hid (fun k hk => hf0 k (.inr hk))
  have hq : ∃ q, DBlk W D d.B q := by
    obtain ⟨_, _, h⟩ := hdW
    cases hp : d.P with
    | none => rw [hp] at h; exact ⟨_, h⟩
    | some r => obtain ⟨p, m⟩ := r; rw [hp] at h; obtain ⟨P, _, _, _, h1, _⟩ := h; exact ⟨_, h1⟩
  obtain ⟨q, hq⟩ := hq
  have hcd := hbdW.cell
  have hcb := hbbW.cell
  clear hJ hJx hY hY' h0 hf0 hd hby hbd hbb hfix hbdW hbbW hdW hbyW hfixW
  refine callsIn_of_wp Tryd.func30 rfl trivial ?_ rfl
  simp only [Tryd.ntmps30, List.size_toArray, List.length_cons, List.length_nil, Nat.reduceAdd, Nat.reduceSub, Array.replicate_succ, Array.replicate_zero, List.push_toArray, List.append_toArray, List.nil_append, List.cons_append]
  gi_wp2_with (refine ⟨trivial, ?_⟩; gi_at_call 20; refine (callsIn_wide.2 (made_yes D d.B q _ hq)).mono ?_; rintro e w' ⟨rfl, rfl⟩)
  clear hcd hcb hq
  gi_loopw [10] (fun a wr => ∃ (i : Nat) (pre : List TE) (O' : Nat → Prop), a = .int .i64 (i : Int) ∧ TkI w W D d L A c bd bb O i pre O' wr ∧ J pre (fun k => O' k ∨ fixB bd bb (blA L A) k) wr) (fun a _ => L.length - (intOf a).toNat)
  case atStart => exact ⟨0, [], O, rfl, ⟨by omega, rfl, rfl, HD.out, fun k hk => .inl hk, HBD.out, HBB.out, HBY.out, Nat.le_refl _, HFX.out⟩, H0.out⟩
  case round =>
    obtain ⟨i, pre, O', rfl, hI, hJp⟩ := hrel
    have HI := Lib.hid hI
    have HJP := Lib.hid hJp
    have hi : i ≤ L.length := hI.hi
    have HPL := Lib.hid hI.pl
    clear H0
    by_cases hlt : i < L.length
    · have hki : (i : Int) < (L.length : Int) := by omega
      rcases hI.byl with h | ⟨bk, off, hA, hcell⟩
      · exfalso; rw [h] at hlt; simp at hlt
      have hx := hcell i hlt
      subst hA
      have hcd := hI.bxd.cell
      have hcb := hI.bxb.cell
      have hwi : IntKind.i64.wrap ((i : Int) + 1) = (i : Int) + 1 := IntWalk.i64_in _ (by omega)
      have hlen := feedK_len (L.take i) d
      rw [List.length_take, Nat.min_eq_left hi] at hlen
      have hdw : DAt wr.drew D O' (feedK d (L.take i)).1 := hI.dec
      have HTA := Lib.hid (take_any D O' (feedK d (L.take i)).1 L[i] wr.drew hdw (by omega))
      obtain ⟨rr, hrr⟩ : ∃ rr, rr = takeK (feedK d (L.take i)).1 L[i] := ⟨_, rfl⟩
      rw [← hrr] at HTA
      have HRR := Lib.hid hrr
      have HCN : Hid (rr.2.length ≤ 90001) := Lib.hid (by have := takeK_cnt (feedK d (L.take i)).1 L[i]; rw [← hrr] at this; omega)
      generalize hcc : L[i] = cc at hx HTA
      clear hI hJp hcell hlen hdw hrr hcc
      gi_wp2
      gi_region_with (first
        | (refine ⟨trivial, ?_⟩; gi_at_call 31; refine (callsIn_wide.2 HTA.out).mono ?_; rintro e w1 ⟨v, rfl, hk1, hd1, hc1⟩; have HD1 := Lib.hid hd1; have HC1 := Lib.hid hc1; obtain ⟨fn, tmps, assign, body, hy, hR⟩ := HY.out 7 pre (i + 1, v, rr.2) (fun k => grownO O' wr.drew w1 k ∨ fixB bd bb (blA L (some ⟨bk, off, none⟩)) k) w1 (tk_J HJ.out HJP.out hc1) (by rw [HPL.out]; exact hlt) ⟨hk1, HCN.out⟩; have HR := hR; clear hk1 hd1 hc1; simp only [encK] at hy; rw [show ((i + 1 : Nat) : Int) = (i : Int) + 1 by omega] at hy)
        | (refine HR.mono ?_; rintro e W3 ⟨b, rfl, h3⟩))
      all_goals
        rcases h3 with ⟨rfl, h3, hk3⟩ | ⟨rfl, h3, hk3⟩
        · have HST := Lib.hid (HI.out.step HFIX.out hlt HRR.out v HD1.out HC1.out hk3)
          have HJ3 := Lib.hid h3
          clear h3 hk3
          gi_wp2
          refine ⟨⟨i + 1, _, _, by go_num, HST.out, HJ3.out⟩, by simp only [intOf]; omega⟩
        · have HST := Lib.hid (HI.out.step HFIX.out hlt HRR.out v HD1.out HC1.out hk3)
          have HJ3 := Lib.hid h3
          clear h3 hk3
          gi_wp2
          refine bodyPost_ret (results_none rfl _ _ _) rfl ?_
          exact ⟨⟨_, rfl⟩, .inr ⟨_, _, HST.out.tks HFIX.out (fun j hj => .inl hj), HJ3.out⟩⟩
    · have hki : ¬ (i : Int) < (L.length : Int) := by omega
      have hE : TkE D d L w (fixB bd bb (blA L A)) pre (fun k => O' k ∨ fixB bd bb (blA L A) k) wr := ⟨hI.tks HFIX.out (fun j hj => .inl hj), by rw [hI.pl]; omega⟩
      have HE := Lib.hid hE
      clear hI hJp hE
      gi_wp2
      go_end0
      exact ⟨⟨_, rfl⟩, .inl ⟨_, _, HE.out, HJP.out⟩⟩
end Go.Proofs.YteolafeeggjblaaDoor
