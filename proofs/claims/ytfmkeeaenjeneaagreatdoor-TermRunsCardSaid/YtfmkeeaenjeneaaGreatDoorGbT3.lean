/-
  Walks: numbers and its iterator.
  Walks: number, over the iterator of the numbers.
  Walks: setModes.
  Walks: erase.
  Walks: moveOrErase.
-/
import Derived.RangeFuncNested
import Derived.RangeFuncBound
import Derived.RangeFuncCalls
import Derived.RangeFuncLeaves
import Derived.RangeFuncWrites
import Derived.Shelf.Abstract
import Derived.Shelf.RegionOpen
import Derived.OwnWalkIn
import Derived.TacticsInMore
import Derived.LoopNIn
import Derived.LoopIn
import Derived.IntWalk
import Derived.Outline
import Derived.Stop.RegionWithIn
import Derived.Test.YtfmkeeaenjeneaaGreatDoorGfW
import Derived.Test.YtfmkeeaenjeneaaGreatDoorGbT2
import Derived.Test.YtfmkeeaenjeneaaGreatDoorGfG
namespace Go.Proofs.YtfmkeeaenjeneaaGreatDoor
open Go.RowKit Go.Shelf
attribute [local go_sem] Oper.semAt_some
set_option linter.unusedVariables false
set_option linter.unusedSimpArgs false

/-- the numbers with their counts, from a count and a number that is begun -/
def numsI (i : Nat) (n : Int) : List UInt8 → List (Nat × Int)
  | [] => [(i, n)]
  | c :: t => if c = 59 then (i, n) :: numsI (i + 1) 0 t else numsI i (min (n * 10 + ((c.toNat : Int) - 48)) 9999) t
theorem numsI_snd : ∀ (l : List UInt8) (i : Nat) (n : Int), (numsI i n l).map (·.2) = numsF n l
  | [], i, n => rfl
  | c :: t, i, n => by
    unfold numsI numsF
    by_cases h : c = 59
    · rw [if_pos h, if_pos h, List.map_cons, numsI_snd t]
    · rw [if_neg h, if_neg h, numsI_snd t]
theorem numsI_get : ∀ (l : List UInt8) (i : Nat) (n : Int) (j : Nat), (numsI i n l)[j]? = ((numsF n l)[j]?).map fun v => (i + j, v)
  | [], i, n, j => by
    cases j with
    | zero => rfl
    | succ j => rfl
  | c :: t, i, n, j => by
    unfold numsI numsF
    by_cases h : c = 59
    · rw [if_pos h, if_pos h]
      cases j with
      | zero => rfl
      | succ j =>
        rw [List.getElem?_cons_succ, List.getElem?_cons_succ, numsI_get t, show i + 1 + j = i + (j + 1) by omega]
    · rw [if_neg h, if_neg h, numsI_get t]
theorem numsI_len : ∀ (l : List UInt8) (i : Nat) (n : Int), (numsI i n l).length ≤ l.length + 1
  | [], i, n => by simp [numsI]
  | c :: t, i, n => by
    unfold numsI
    by_cases h : c = 59
    · rw [if_pos h, List.length_cons, List.length_cons]; have := numsI_len t (i + 1) 0; omega
    · rw [if_neg h, List.length_cons]; have := numsI_len t i (min (n * 10 + ((c.toNat : Int) - 48)) 9999); omega
theorem numsF_rng : ∀ (l : List UInt8) (n : Int), 0 ≤ n → n ≤ 9999 → areN l = true → ∀ v ∈ numsF n l, 0 ≤ v ∧ v ≤ 9999
  | [], n, h0, h1, _, v, hv => by
    simp only [numsF, List.mem_singleton] at hv
    subst hv; exact ⟨h0, h1⟩
  | c :: t, n, h0, h1, ha, v, hv => by
    unfold areN at ha
    rw [List.all_cons, num_iff, Bool.and_eq_true] at ha
    have ht : areN t = true := ha.2
    have hc := ha.1
    unfold numsF at hv
    by_cases h : c = 59
    · rw [if_pos h] at hv
      rcases List.mem_cons.1 hv with rfl | hv
      · exact ⟨h0, h1⟩
      · exact numsF_rng t 0 (by omega) (by omega) ht v hv
    · rw [if_neg h] at hv
      have hne : ¬ (c.toNat : Int) = 59 := fun e => h (UInt8.toNat_inj.1 (by show c.toNat = 59; omega))
      simp [hne] at hc
      exact numsF_rng t _ (by omega) (by omega) ht v hv

/-- a slice's bytes lie where it shows -/
def SlN (w : World) (A : Option Addr) (L : List UInt8) : Prop := L = [] ∨ ∃ bk off, A = some ⟨bk, off, none⟩ ∧ ∀ j (hj : j < L.length), w.cell? ⟨bk, off + j, none⟩ = some (.int .u8 L[j].toNat)
theorem slN_of {w : World} {Bn : Nat} {A : Option Addr} {L : List UInt8} (h : Sl w Bn A (bv L)) : SlN w A L := by
  rcases Nat.eq_zero_or_pos L.length with h0 | h0
  · exact .inl (List.length_eq_zero_iff.1 h0)
  · obtain ⟨bk, off, rfl, _, hc⟩ := h.open_ (by rw [bv_length]; omega)
    exact .inr ⟨bk, off, rfl, fun j hj => hc j _ (bv_get hj)⟩
/-- what a round must keep: cells that hold something go on to hold it -/
def KC (ps : Addr → Prop) (A B : World) : Prop := A.heap.size ≤ B.heap.size ∧ ∀ p v, ps p → A.cell? p = some v → B.cell? p = some v
theorem KC.refl (ps : Addr → Prop) (A : World) : KC ps A A := ⟨Nat.le_refl _, fun _ _ _ h => h⟩
theorem kc_t {ps : Addr → Prop} {A B C : World} (h : KC ps A B) (k : KC ps B C) : KC ps A C := ⟨Nat.le_trans h.1 k.1, fun p v hp hv => k.2 p v hp (h.2 p v hp hv)⟩
def encN (x : Nat × Int) : Array Value := #[.int .i64 x.1, .int .i64 x.2]
def YBN (J Jx : List (Nat × Int) → World → Prop) (q : List (Nat × Int)) (b : Bool) (W : World) : Prop := (b = true ∧ J q W) ∨ (b = false ∧ Jx q W)

set_option maxRecDepth 100000 in
set_option maxHeartbeats 4000000 in
theorem nums1_in (n : Nat) (hn : 1 ≤ n) (l Bn : Nat) (L : List UInt8) (hL : L.length ≤ 100) (hA : areN L = true) (A : Option Addr) (cap : Nat) (J Jx : List (Nat × Int) → World → Prop) (W : World)
    (hJw : ∀ q C, J q C → C.cell? ⟨Bn, 0, none⟩ = some (.slice A L.length cap) ∧ SlN C A L)
    (hY : ∀ pre x W1, J pre W1 → pre.length < L.length + 1 → YieldAt Fence.wide (n - 1) Tryz.prog l (encN x) W1 fun e W' =>
      (e = .returned (.bool true) ∧ J (pre ++ [x]) W') ∨ (e = .returned (.bool false) ∧ Jx (pre ++ [x]) W'))
    (h0 : J [] W) :
    CallsIn Fence.wide n Tryz.prog 134 #[.func (.yield l) #[] #[], .pointer (some ⟨Bn, 0, none⟩)] W fun e W' => (∃ v, e = .returned v) ∧
      ((∃ ys, ys = numsI 0 0 L ∧ J ys W') ∨ (∃ pre, pre <+: numsI 0 0 L ∧ Jx pre W')) := by
  refine callsIn_of_wp Tryz.func134 rfl trivial ?_ rfl
  simp only [Tryz.ntmps134, List.size_toArray, List.length_cons, List.length_nil, Nat.reduceAdd, Nat.reduceSub, Array.replicate_succ, Array.replicate_zero, List.push_toArray, List.append_toArray, List.nil_append, List.cons_append]
  have hY' : ∀ pre x W1, J pre W1 → pre.length < L.length + 1 → YieldAt Fence.wide (n - 1) Tryz.prog l (encN x) W1 fun e W' => ∃ b, e = .returned (.bool b) ∧ YBN J Jx (pre ++ [x]) b W' := fun pre x W1 hj hl => (hY pre x W1 hj hl).mono (by
    rintro e W' (⟨rfl, h⟩ | ⟨rfl, h⟩)
    · exact ⟨true, rfl, .inl ⟨rfl, h⟩⟩
    · exact ⟨false, rfl, .inr ⟨rfl, h⟩⟩)
  clear hY
  have hbox := (hJw _ _ h0).1
  have HJw := Lib.hid hJw
  have HA := Lib.hid hA
  clear hJw hA
  gi_wp2
  gi_loopw [3, 4, 9] (fun a b c wr => ∃ (k i : Nat) (m : Int) (pre : List (Nat × Int)), a = .int .i64 (i : Int) ∧ b = .int .i64 m ∧ c = .int .i64 (k : Int) ∧ k ≤ L.length ∧ i ≤ k ∧ 0 ≤ m ∧ m ≤ 9999 ∧ numsI 0 0 L = pre ++ numsI i m (L.drop k) ∧ pre.length = i ∧ J pre wr) (fun _ _ c _ => L.length - (intOf c).toNat)
  case atStart => exact ⟨0, 0, 0, [], rfl, rfl, rfl, by omega, by omega, by omega, by omega, rfl, rfl, h0⟩
  case round =>
    obtain ⟨k, i, m, pre, rfl, rfl, rfl, hk, hik, hm0, hm1, hpre, hpl, hJp⟩ := hrel
    have HP := Lib.hid hpre
    have HJp := Lib.hid hJp
    have HPL := Lib.hid hpl
    have hw1 := (HJw.out _ _ hJp).2
    clear hpre hJp h0 hpl hbox
    have hk1 : IntKind.i64.wrap ((k : Int) + 1) = (k : Int) + 1 := IntWalk.i64_in _ (by omega)
    by_cases hlt : k < L.length
    · have hki : (k : Int) < (L.length : Int) := by omega
      rcases hw1 with h | ⟨bk, off, rfl, hcell⟩
      · exfalso; rw [h] at hlt; simp at hlt
      have hx := hcell k hlt
      have hdr : L.drop k = L[k] :: L.drop (k + 1) := List.drop_eq_getElem_cons hlt
      have hcn : (L[k] == 59 || (48 ≤ L[k] && L[k] ≤ 57)) = true := List.all_eq_true.1 HA.out _ (List.getElem_mem hlt)
      rw [num_iff] at hcn
      have hbd : 0 ≤ (L[k].toNat : Int) ∧ (L[k].toNat : Int) ≤ 255 := by have := L[k].toNat_lt; omega
      generalize L[k] = c at hx hdr hcn hbd
      have HD := Lib.hid hdr
      clear hcell hdr
      by_cases hc : c = 59
      · have hc' : (c.toNat : Int) = 59 := by rw [hc]; rfl
        rw [hc'] at hx
        obtain ⟨fn, tmps, assign, body, hy, hR⟩ := hY' pre (i, m) wr HJp.out (by have := HPL.out; omega)
        have HN : Hid (numsI 0 0 L = (pre ++ [(i, m)]) ++ numsI (i + 1) 0 (L.drop (k + 1))) := Lib.hid (by
          rw [HP.out, HD.out, List.append_assoc]
          conv => lhs; rw [numsI, if_pos hc]
          rfl)
        have hi1 : IntKind.i64.wrap ((i : Int) + 1) = (i : Int) + 1 := IntWalk.i64_in _ (by omega)
        simp only [encN] at hy
        clear hY' hc hc' hcn hbd
        gi_wp2
        refine hR.mono ?_
        rintro e W3 ⟨b, rfl, h3⟩
        all_goals
          rcases h3 with ⟨rfl, h3⟩ | ⟨rfl, h3⟩
          · gi_wp2
            refine ⟨⟨k + 1, i + 1, 0, pre ++ [(i, m)], by go_num, rfl, by go_num, by omega, by omega, by omega, by omega, HN.out, by rw [List.length_append, HPL.out]; rfl, h3⟩, by simp only [intOf]; omega⟩
          · gi_wp2
            refine bodyPost_ret (results_none rfl _ _ _) rfl ?_
            exact ⟨⟨_, rfl⟩, .inr ⟨pre ++ [(i, m)], by rw [HN.out]; exact List.prefix_append _ _, h3⟩⟩
      · have hne : ¬ (c.toNat : Int) = 59 := fun e => hc (UInt8.toNat_inj.1 (by show c.toNat = 59; omega))
        have hneb : ((c.toNat : Int) == 59) = false := by simpa using hne
        simp [hne] at hcn
        have h1 : IntKind.i64.wrap (m * 10) = m * 10 := IntWalk.i64_in _ (by omega)
        have h2 : IntKind.u8.wrap ((c.toNat : Int) - 48) = (c.toNat : Int) - 48 := IntWalk.u8_in _ (by omega)
        have h3 : IntKind.i64.wrap ((c.toNat : Int) - 48) = (c.toNat : Int) - 48 := IntWalk.i64_in _ (by omega)
        have h4 : IntKind.i64.wrap (m * 10 + ((c.toNat : Int) - 48)) = m * 10 + ((c.toNat : Int) - 48) := IntWalk.i64_in _ (by omega)
        have HN : Hid (numsI 0 0 L = pre ++ numsI i (min (m * 10 + ((c.toNat : Int) - 48)) 9999) (L.drop (k + 1))) := Lib.hid (by
          rw [HP.out, HD.out]
          conv => lhs; rw [numsI, if_neg hc])
        have HB : Hid (0 ≤ m * 10 + ((c.toNat : Int) - 48)) := Lib.hid (by omega)
        clear hY' hc hne
        gi_wp2

        refine ⟨⟨k + 1, i, min (m * 10 + ((c.toNat : Int) - 48)) 9999, pre, rfl, by go_num, by go_num, by omega, by omega, by have := HB.out; omega, by omega, HN.out, HPL.out, HJp.out⟩, by simp only [intOf]; omega⟩
    · have hki : ¬ (k : Int) < (L.length : Int) := by omega
      have HN : Hid (numsI 0 0 L = pre ++ [(i, m)]) := Lib.hid (by rw [HP.out, List.drop_eq_nil_of_le (by omega)]; rfl)
      obtain ⟨fn, tmps, assign, body, hy, hR⟩ := hY' pre (i, m) wr HJp.out (by have := HPL.out; omega)
      simp only [encN] at hy
      clear hY' hw1
      gi_wp2
      refine hR.mono ?_
      rintro e W3 ⟨b, rfl, h3⟩
      gi_wp2
      go_end0
      rcases h3 with ⟨rfl, h3⟩ | ⟨rfl, h3⟩
      · exact ⟨⟨_, rfl⟩, .inl ⟨_, HN.out.symm, h3⟩⟩
      · exact ⟨⟨_, rfl⟩, .inr ⟨_, by rw [HN.out]; exact List.prefix_refl _, h3⟩⟩

set_option maxHeartbeats 400000 in
theorem nums_any (A : Option Addr) (k cap : Nat) (w : World) : Calls Tryz.prog 99 #[.slice A k cap] w fun e w' => e = .returned (.func (.func 134) #[] #[.pointer (some ⟨w.heap.size, 0, none⟩)]) ∧ w' = w.alloc (.cells #[.slice A k cap] 32) := by
  go_enter Tryz.func99, Tryz.ntmps99
  go_wp2
  go_ret
  exact ⟨rfl, rfl⟩
end Go.Proofs.YtfmkeeaenjeneaaGreatDoor

namespace Go.Proofs.YtfmkeeaenjeneaaGreatDoor
open Go.RowKit Go.Shelf
attribute [local go_sem] Oper.semAt_some
set_option linter.unusedVariables false
set_option linter.unusedSimpArgs false

/-- the cells that the iterator reads -/
def numC (Bn : Nat) (A : Option Addr) (L : List UInt8) (p : Addr) : Prop := p = ⟨Bn, 0, none⟩ ∨ ∃ bk off j, A = some ⟨bk, off, none⟩ ∧ j < L.length ∧ p = ⟨bk, off + j, none⟩
theorem SlN.kc {A B : World} {Bn : Nat} {p : Option Addr} {L : List UInt8} (h : SlN A p L) (k : KC (numC Bn p L) A B) : SlN B p L := by
  rcases h with h | ⟨bk, off, rfl, hc⟩
  · exact .inl h
  · exact .inr ⟨bk, off, rfl, fun j hj => k.2 _ _ (.inr ⟨bk, off, j, rfl, hj, rfl⟩) (hc j hj)⟩
theorem SlN.kept {A B : World} {row : Option Nat} {n : Nat} {p : Option Addr} {L : List UInt8} (h : SlN A p L) (hg : A.grownBy B row) (hr : ∀ k, row = some k → ∃ o, A.heap[k]? = some o ∧ o.isCells = false) : SlN B p L := by
  rcases h with h | ⟨bk, off, rfl, hc⟩
  · exact .inl h
  · exact .inr ⟨bk, off, rfl, fun j hj => cell_kept (hc j hj) hg hr⟩
theorem kc_b (ps : Addr → Prop) {w : World} (W : World) (l : Nat) (o o' : Obj) (hl : w.heap.size ≤ l) (h : W.heap[l]? = some o) (hc : o.isCells = false) (_ : o.isWalk = false) : KC ps W (W.putObj l o') :=
  ⟨(grownBy_putObj' W l o').size, fun p v _ hv => cell_kept hv (grownBy_putObj' W l o') (fun r e => by cases e; exact ⟨_, h, hc⟩)⟩

theorem nums_stops (n : Nat) (hn : 1 ≤ n) (Bn : Nat) (L : List UInt8) (hL : L.length ≤ 100) (hA : areN L = true) (A : Option Addr) (cap : Nat) (w : World) (hb : w.cell? ⟨Bn, 0, none⟩ = some (.slice A L.length cap)) (hs : SlN w A L) (hin : ∀ p, numC Bn A L p → p.block < w.heap.size) :
    SeqStopsK Fence.wide n Tryz.prog 134 #[.pointer (some ⟨Bn, 0, none⟩)] encN (KC (numC Bn A L)) (fun ys => ys = numsI 0 0 L) (fun pre => pre <+: numsI 0 0 L) (L.length + 1) w := by
  intro l J Jx W hW hJ hJx hY h0
  have hkw : KC (numC Bn A L) w W := ⟨hW.size, fun p v hp hv => (hW.cell (hin p hp)).trans hv⟩
  refine (nums1_in n hn l Bn L hL hA A cap (fun q C => J q C ∧ C.cell? ⟨Bn, 0, none⟩ = some (.slice A L.length cap) ∧ SlN C A L) Jx W (fun q C h => h.2) ?_ ⟨h0, hkw.2 _ _ (.inl rfl) hb, hs.kc hkw⟩).mono ?_
  · rintro pre x W1 ⟨hj, hb1, hs1⟩ hlen
    refine (hY pre x W1 hj hlen).mono ?_
    rintro e W' (⟨he, hj', hk⟩ | ⟨he, hj'⟩)
    · exact .inl ⟨he, hj', hk.2 _ _ (.inl rfl) hb1, hs1.kc hk⟩
    · exact .inr ⟨he, hj'⟩
  · rintro e W' ⟨hv, h | h⟩
    · obtain ⟨ys, hy, hj, _⟩ := h
      exact ⟨hv, .inl ⟨ys, hy, hj⟩⟩
    · exact ⟨hv, .inr h⟩

def InN (q : Nat) (b : Nat) (pre : List (Nat × Int)) (W : World) : Prop := (∀ y ∈ pre, y.1 ≠ q) ∧ W.cell? ⟨b, 0, none⟩ = some (.int .i64 q) ∧ W.cell? ⟨b + 1, 0, none⟩ = some (.int .i64 0) ∧ W.frozen? ⟨b + 1, 0, none⟩ = false
def OutN (L : List UInt8) (q : Nat) (b : Nat) (c : Code) (pre : List (Nat × Int)) (W : World) : Prop := c = .ret ∧ ∃ v, (pre <+: numsI 0 0 L → v = (numsT L).getD q 0) ∧ W.cell? ⟨b + 1, 0, none⟩ = some (.int .i64 v)
theorem num_at {L : List UInt8} {pre : List (Nat × Int)} {x : Nat × Int} {q : Nat} (hx : x.1 = q) (h : pre ++ [x] <+: numsI 0 0 L) : x.2 = (numsT L).getD q 0 := by
  obtain ⟨t, ht⟩ := h
  have h1 : (numsI 0 0 L)[pre.length]? = some x := by
    rw [← ht, List.append_assoc, List.getElem?_append_right (Nat.le_refl _), Nat.sub_self]; rfl
  rw [numsI_get] at h1
  obtain ⟨v, hv, hv'⟩ := Option.map_eq_some_iff.1 h1
  subst hv'
  rw [Nat.zero_add] at hx
  subst hx
  show v = (numsT L).getD pre.length 0
  unfold numsT
  rw [List.getD_eq_getElem?_getD, hv]; rfl
theorem num_no {L : List UInt8} {q : Nat} (h : ∀ y ∈ numsI 0 0 L, y.1 ≠ q) : (numsT L).getD q 0 = 0 := by
  unfold numsT
  rw [List.getD_eq_getElem?_getD]
  cases hv : (numsF 0 L)[q]? with
  | none => rfl
  | some v =>
    exfalso
    have h1 := numsI_get L 0 0 q
    rw [hv] at h1
    exact h _ (List.mem_of_getElem? h1) (by simp)

set_option maxRecDepth 100000 in
set_option maxHeartbeats 4000000 in
theorem number_any (L : List UInt8) (hL : L.length ≤ 100) (hA : areN L = true) (A : Option Addr) (cap : Nat) (q : Nat) (w : World) (hS : Sl w w.heap.size A (bv L)) :
    Calls Tryz.prog 102 #[.slice A L.length cap, .int .i64 q] w fun e w' => e = .returned (.int .i64 ((numsT L).getD q 0)) ∧ Below w.heap.size w w' := by
  generalize hv0 : (numsT L).getD q 0 = v0
  have HV0 := Lib.hid hv0
  clear hv0
  refine (callsIn_wide (n := 5)).1 ?_
  refine callsIn_of_wp_marks Tryz.func102 rfl trivial ?_ rfl
  simp only [Tryz.ntmps102, List.size_toArray, List.length_cons, List.length_nil, Nat.reduceAdd, Nat.reduceSub, Array.replicate_succ, Array.replicate_zero, List.push_toArray, List.append_toArray, List.nil_append, List.cons_append]
  refine wpIn_wide.2 ?_
  have HS := Lib.hid hS
  clear hS
  go_wp2_with fail
  refine (nums_any A L.length cap _).mono ?_
  rintro e w3 ⟨rfl, rfl⟩
  go_wp2
  refine (wpIn_wide (n := 5)).1 ?_
  have c0 := ((Boxed.new w 3 (.int .i64 q)).alloc (.cells #[.int .i64 0] 3)).alloc (.cells #[.slice A L.length cap] 32)
  have c1 := (Boxed.new (w.alloc (.cells #[.int .i64 q] 3)) 3 (.int .i64 0)).alloc (.cells #[.slice A L.length cap] 32)
  have c2 := Boxed.new ((w.alloc (.cells #[.int .i64 q] 3)).alloc (.cells #[.int .i64 0] 3)) 32 (.slice A L.length cap)
  rw [World.size_alloc] at c1 c2
  rw [World.size_alloc] at c2
  have hB0 : Below w.heap.size w (((w.alloc (.cells #[.int .i64 q] 3)).alloc (.cells #[.int .i64 0] 3)).alloc (.cells #[.slice A L.length cap] 32)) := (((Below.refl _ w).alloc (Nat.le_refl _) _).alloc (by simp) _).alloc (by simp; omega) _
  have hS2 := slN_of (HS.out.below hB0)
  have hc := nums_stops 4 (by omega) (w.heap.size + 1 + 1) L hL hA A cap _ c2.cell hS2 (by
    rintro p (rfl | ⟨bk, off, j, rfl, hj, rfl⟩)
    · simp
    · rcases HS.out.open_ (by rw [bv_length]; omega) with ⟨bk', off', he, hlt, _⟩
      injection he with he; injection he with he1 he2
      subst he1
      simp; omega)
  refine wpIn_rangeFunc_ownG rfl (by omega) (gf := 134) (lb := #[.pointer (some ⟨w.heap.size + 1 + 1, 0, none⟩)]) rfl trivial (enters_of Tryz.func134 (by kernel_rfl) rfl) hc kc_t (kc_b _) (Below.refl _ _) (fun _ => rfl)
    (fun pre W => InN q w.heap.size pre W ∧ Below w.heap.size w W)
    (fun c pre W => OutN L q w.heap.size c pre W ∧ Below w.heap.size w W)
    (OwnFrom.and (Own.from (fun s A B row hs hg hr => ⟨hs.1, cell_kept hs.2.1 hg hr, cell_kept hs.2.2.1 hg hr, (frozen_kept hs.2.2.1 hg hr).trans hs.2.2.2⟩) _) (ownFrom_below (Nat.le_refl _) (by simp; omega)))
    (fun c => OwnFrom.and (Own.from (fun s A B row hs hg hr => ⟨hs.1, hs.2.elim fun v h => ⟨v, h.1, cell_kept h.2 hg hr⟩⟩) _) (ownFrom_below (Nat.le_refl _) (by simp; omega)))
    ⟨⟨by simp, c0.cell, c1.cell, c1.frozen⟩, hB0⟩
    (fun x => { tmps := #[.slice A L.length cap, .int .i64 q, undef, .pointer (some ⟨w.heap.size, 0, none⟩), .pointer (some ⟨w.heap.size + 1, 0, none⟩), .int .i64 x.1, .int .i64 x.2, .slice A L.length cap, .func (.func 134) #[] #[.pointer (some ⟨w.heap.size + 1 + 1, 0, none⟩)], .int .i64 x.1, .int .i64 x.2, undef, undef, undef, undef], defers := [] }) ?assign ?body ?done ?stop
  case assign =>
    intro l x W K hK
    simp only [encN]
    rw [put_two]
    gi_wp2
    exact hK
  case body =>
    rintro l pre x W ⟨⟨hp, hcw, hcr, hfr⟩, hB⟩ _
    have HP := Lib.hid hp
    clear hp
    by_cases hx : x.1 = q
    · have hx' : (x.1 : Int) = q := by omega
      have HX := Lib.hid hx
      clear hx
      gi_wp2
      refine ⟨(KeepsOthers.setCell _ _ _).from _, ⟨rfl, x.2, fun h => num_at HX.out h, ?_⟩, hB.setCell (p := ⟨w.heap.size + 1, 0, none⟩) (by simp) _⟩
      exact World.cell?_setCell_same' _ _ _ (by rw [hcr]; rfl)
    · have HX := Lib.hid hx
      have hx' : ¬ (x.1 : Int) = q := by omega
      clear hx
      gi_wp2
      exact ⟨(KeepsOthers.refl _).from _, KC.refl _ _, ⟨fun y hy => (List.mem_append.1 hy).elim (HP.out y) (fun e => by simp at e; subst e; exact HX.out), hcw, hcr, hfr⟩, hB⟩
  case done =>
    rintro D ys W hD rfl ⟨⟨hne, _, hcr, hfr⟩, hB⟩ hK
    obtain rfl : 0 = v0 := (num_no hne).symm.trans HV0.out
    clear hne
    go_wp2
    have hK' := (KeepsOthers.setCell W ⟨w.heap.size + 1, 0, none⟩ (.int .i64 0)).same D _ hK rfl
    refine ⟨by simp, .inl ⟨_, _, rfl, run_takeDeferred hK', ?_⟩⟩
    have hc5 := cell_kept (World.cell?_setCell_same' W ⟨w.heap.size + 1, 0, none⟩ (.int .i64 0) (by rw [hcr]; rfl)) (grownBy_putObj' _ D (.deferred none)) (fun r e => by cases e; exact ⟨_, hK', rfl⟩)
    refine ⟨.int .i64 0, ?_, rfl, (hB.setCell (p := ⟨w.heap.size + 1, 0, none⟩) (by simp) _).trans (belowK_b (w := w) (Nat.le_refl _) _ D _ _ (by simp at hD; omega) hK' rfl rfl)⟩
    simp [results, Tryz.f102, go_sem, hc5]
  case stop =>
    rintro D c pre W hD hpre ⟨⟨rfl, v, hv, hcr⟩, hB⟩ hK
    obtain rfl : v = v0 := (hv hpre).trans HV0.out
    clear hv hpre
    gi_wp2
    refine ⟨by simp, .inl ⟨_, _, rfl, run_takeDeferred hK, ?_⟩⟩
    have hc5 := cell_kept hcr (grownBy_putObj' _ D (.deferred none)) (fun r e => by cases e; exact ⟨_, hK, rfl⟩)
    refine ⟨.int .i64 v, ?_, rfl, hB.trans (belowK_b (w := w) (Nat.le_refl _) W D _ _ (by simp at hD; omega) hK rfl rfl)⟩
    simp [results, Tryz.f102, go_sem, hc5]
end Go.Proofs.YtfmkeeaenjeneaaGreatDoor

namespace Go.Proofs.YtfmkeeaenjeneaaGreatDoor
open Go.RowKit Go.Shelf
attribute [local go_sem] Oper.semAt_some
set_option linter.unusedVariables false
set_option linter.unusedSimpArgs false

/-- a slice of the waiting bytes -/
def Piece (t : Nat) (A : Option Addr) (L B : List UInt8) : Prop := L = [] ∨ ∃ k, A = some ⟨t, 17 + k, none⟩ ∧ k + L.length ≤ B.length ∧ ∀ j, j < L.length → B[k + j]? = L[j]?
theorem Piece.tail {t : Nat} {L B : List UInt8} {k : Nat} (h2 : k + L.length ≤ B.length) (h3 : ∀ j, j < L.length → B[k + j]? = L[j]?) : Piece t (some ⟨t, 17 + (k + 1), none⟩) L.tail B := by
  cases L with
  | nil => exact .inl rfl
  | cons c l =>
    refine .inr ⟨k + 1, rfl, by simp at h2 ⊢; omega, fun j hj => ?_⟩
    have := h3 (j + 1) (by simp at hj ⊢; omega)
    rw [show k + 1 + j = k + (j + 1) by omega, this]
    rfl
theorem TmAt.piece {w : World} {lo t g rb : Nat} {bs : List Nat} {T : TS} {B L : List UInt8} {A : Option Addr} (h : TmAt w lo t g rb bs T B) (hP : Piece t A L B) : Sl w w.heap.size A (bv L) := by
  rcases hP with rfl | ⟨k, rfl, hk, hj⟩
  · exact .inl rfl
  · refine .inr ⟨t, 17 + k, rfl, h.lt, fun j u hu => ?_⟩
    have hjl : j < L.length := by have := (List.getElem?_eq_some_iff.1 hu).1; rw [bv_length] at this; exact this
    obtain ⟨b', o', he, _, hc⟩ := h.bytes.open_ (by rw [bv_length]; omega)
    injection he with he
    injection he with h1 h2
    subst h1; subst h2
    rw [show 17 + k + j = 17 + (k + j) by omega]
    refine hc (k + j) u ?_
    rw [← hu]
    unfold bv
    rw [List.getElem?_map, List.getElem?_map, hj j hjl]
theorem kc_tm {W W' : World} {t g Bn n : Nat} {T1 T2 : TS} {xs : List Value} {A : Option Addr} {L B : List UInt8} {ty : TypeId} (hx : xs.length = 32) (hB : B.length ≤ 32) (hP : Piece t A L B) (hne : Bn ≠ t)
    (h1 : Blk W t ty (tmc t g T1 xs n)) (h2 : Blk W' t ty (tmc t g T2 xs n)) (hc : Chg (one t) W W') : KC (numC Bn A L) W W' := by
  refine ⟨hc.size, ?_⟩
  rintro p v (rfl | ⟨bk, off, j, he, hj, rfl⟩) hv
  · exact hc.cell hv hne
  · rcases hP with rfl | ⟨k, he2, hk, _⟩
    · simp at hj
    · rw [he2] at he
      injection he with he
      injection he with e1 e2
      subst e1; subst e2
      rw [show 17 + k + j = 17 + (k + j) by omega] at hv ⊢
      rw [h1.cell, tmc_by hx (by omega)] at hv
      rw [h2.cell, tmc_by hx (by omega)]
      exact hv

def modeS (b : Bool) (t : TS) (n : Int) : TS := if n = 25 then { t with seen := b } else if n = 2004 then { t with mark := b } else t
theorem modeS_W (b : Bool) (t : TS) (n : Int) : (modeS b t n).W = t.W ∧ (modeS b t n).L = t.L ∧ (modeS b t n).row = t.row ∧ (modeS b t n).col = t.col := by
  unfold modeS; split
  · exact ⟨rfl, rfl, rfl, rfl⟩
  · split <;> exact ⟨rfl, rfl, rfl, rfl⟩
theorem modeF_W (b : Bool) : ∀ (l : List Int) (t : TS), (l.foldl (modeS b) t).W = t.W ∧ (l.foldl (modeS b) t).L = t.L ∧ (l.foldl (modeS b) t).row = t.row ∧ (l.foldl (modeS b) t).col = t.col
  | [], t => ⟨rfl, rfl, rfl, rfl⟩
  | n :: l, t => by
    rw [List.foldl_cons]
    obtain ⟨h1, h2, h3, h4⟩ := modeF_W b l (modeS b t n)
    obtain ⟨k1, k2, k3, k4⟩ := modeS_W b t n
    exact ⟨h1.trans k1, h2.trans k2, h3.trans k3, h4.trans k4⟩
theorem modesT_eq {t : TS} {l : List Int} {f : UInt8} (h : f = 104 ∨ f = 108) : modesT t l f = l.foldl (modeS (decide (f = 104))) t := by
  unfold modesT
  rw [if_neg (by rintro ⟨h1, h2⟩; rcases h with h | h <;> contradiction)]
  rfl

def foldM (b : Bool) (T : TS) (pre : List (Nat × Int)) : TS := (pre.map (·.2)).foldl (modeS b) T
theorem foldM_snoc (b : Bool) (T : TS) (pre : List (Nat × Int)) (x : Nat × Int) : foldM b T (pre ++ [x]) = modeS b (foldM b T pre) x.2 := by
  unfold foldM; rw [List.map_append, List.foldl_append]; rfl
/-- what holds ahead of each round -/
def InM (w : World) (t g : Nat) (T : TS) (xs : List Value) (n : Nat) (c : Int) (b : Bool) (pre : List (Nat × Int)) (W : World) : Prop :=
  Blk W t 63 (tmc t g (foldM b T pre) xs n) ∧ W.cell? ⟨w.heap.size, 0, none⟩ = some (.pointer (some ⟨t, 0, none⟩)) ∧ W.cell? ⟨w.heap.size + 1, 0, none⟩ = some (.int .u8 c)
theorem inM_own {w : World} {t g n : Nat} {T : TS} {xs : List Value} {c : Int} {b : Bool} : Own (InM w t g T xs n c b) := by
  rintro s A C row ⟨h1, h2, h3⟩ hg hr
  refine ⟨?_, cell_kept h2 hg hr, cell_kept h3 hg hr⟩
  have hb := hg.block t h1.lt (fun e => by
    obtain ⟨o, ho, hc⟩ := hr t e.symm
    unfold Blk at h1
    rw [h1] at ho
    injection ho with ho
    subst ho
    cases hc)
  exact hb.trans h1
theorem ownFrom_chg {β : Type} {n : Nat} {S : Nat → Prop} {w : World} (hn : w.heap.size ≤ n) : OwnFrom n (fun (_ : β) W => Chg S w W) :=
  fun s A B row hs hg hr => hs.grown hg (fun k e => .inr (Nat.le_trans hn (hr k e).1))

section
variable {w : World} {lo t g rb : Nat} {bs : List Nat} {T : TS} {B : List UInt8}
set_option maxRecDepth 100000 in
set_option maxHeartbeats 4000000 in
theorem modes_any (h : TmAt w lo t g rb bs T B) (L : List UInt8) (hL : L.length ≤ 100) (hA : areN L = true) (A : Option Addr) (cap : Nat) (f : UInt8) (hP : Piece t A L B) :
    Calls Tryz.prog 98 #[.pointer (some ⟨t, 0, none⟩), .slice A L.length cap, .int .u8 f.toNat] w fun e w' => e = .returned (.tuple #[]) ∧ TmStep w lo t g rb bs (modesT T (numsT L) f) B w' := by
  obtain ⟨xs, hx1, hx2, hx3⟩ := h.blk
  have HX1 := Lib.hid hx1
  have HX2 := Lib.hid hx2
  have HX3 := Lib.hid hx3
  have H := Lib.hid h
  have HP := Lib.hid hP
  have HS := Lib.hid (h.piece hP)
  clear hx1 hx2 hx3 hP h
  by_cases hf : f = 104 ∨ f = 108
  · have HE := Lib.hid (modesT_eq (t := T) (l := numsT L) hf)
    obtain ⟨T', hT'⟩ : ∃ T', T' = modesT T (numsT L) f := ⟨_, rfl⟩
    rw [← hT']
    have HT' := Lib.hid hT'
    clear hT'
    refine (callsIn_wide (n := 5)).1 ?_
    refine callsIn_of_wp_marks Tryz.func98 rfl trivial ?_ rfl
    simp only [Tryz.ntmps98, List.size_toArray, List.length_cons, List.length_nil, Nat.reduceAdd, Nat.reduceSub, Array.replicate_succ, Array.replicate_zero, List.push_toArray, List.append_toArray, List.nil_append, List.cons_append]
    refine wpIn_wide.2 ?_
    rcases hf with rfl | rfl
    · rw [show decide ((104 : UInt8) = 104) = true by decide] at HE
      go_wp2_with fail
      refine (nums_any A L.length cap _).mono ?_
      rintro e w3 ⟨rfl, rfl⟩
      go_wp2
      refine (wpIn_wide (n := 5)).1 ?_
      have c0 := ((Boxed.new w 23 (.pointer (some ⟨t, 0, none⟩))).alloc (.cells #[.int .u8 104] 5)).alloc (.cells #[.slice A L.length cap] 32)
      have c1 := (Boxed.new (w.alloc (.cells #[.pointer (some ⟨t, 0, none⟩)] 23)) 5 (.int .u8 104)).alloc (.cells #[.slice A L.length cap] 32)
      have c2 := Boxed.new ((w.alloc (.cells #[.pointer (some ⟨t, 0, none⟩)] 23)).alloc (.cells #[.int .u8 104] 5)) 32 (.slice A L.length cap)
      rw [World.size_alloc] at c1 c2
      rw [World.size_alloc] at c2
      have hB0 : Below w.heap.size w (((w.alloc (.cells #[.pointer (some ⟨t, 0, none⟩)] 23)).alloc (.cells #[.int .u8 104] 5)).alloc (.cells #[.slice A L.length cap] 32)) := (((Below.refl _ w).alloc (Nat.le_refl _) _).alloc (by simp) _).alloc (by simp; omega) _
      have hS2 := slN_of (HS.out.below hB0)
      have htl := H.out.lt
      have hc := nums_stops 4 (by omega) (w.heap.size + 1 + 1) L hL hA A cap _ c2.cell hS2 (by
        rintro p (rfl | ⟨bk, off, j, rfl, hj, rfl⟩)
        · simp
        · rcases HS.out.open_ (by rw [bv_length]; omega) with ⟨bk', off', he, hlt, _⟩
          injection he with he; injection he with he1 he2
          subst he1
          simp; omega)
      refine wpIn_rangeFunc_ownG rfl (by omega) (gf := 134) (lb := #[.pointer (some ⟨w.heap.size + 1 + 1, 0, none⟩)]) rfl trivial (enters_of Tryz.func134 (by kernel_rfl) rfl) hc kc_t (kc_b _) (Below.refl _ _) (fun _ => rfl)
        (fun pre W => InM w t g T xs B.length 104 true pre W ∧ Chg (one t) w W)
        (fun c pre W => False)
        (OwnFrom.and (inM_own.from _) (ownFrom_chg (by simp; omega)))
        (fun c _ _ _ _ h _ _ => h)
        ⟨⟨HX3.out.below hB0 htl, c0.cell, c1.cell⟩, Chg.of_below hB0⟩
        (fun x => { tmps := #[.pointer (some ⟨t, 0, none⟩), .slice A L.length cap, .int .u8 104, .pointer (some ⟨w.heap.size, 0, none⟩), undef, .pointer (some ⟨w.heap.size + 1, 0, none⟩), undef, .int .i64 x.2, .int .u8 104, .bool false, .bool false, undef, undef, .bool false, .slice A L.length cap, .func (.func 134) #[] #[.pointer (some ⟨w.heap.size + 1 + 1, 0, none⟩)], .int .i64 x.1, .int .i64 x.2, undef, undef, undef, undef, undef, undef, undef, undef, undef, undef, undef, undef, undef, undef, undef, undef, undef], defers := [] }) ?assign ?body ?done ?stop
      case assign =>
        intro l x W K hK
        simp only [encN]
        rw [put_two]
        gi_wp2
        exact hK
      case body =>
        rintro l pre x W ⟨⟨hb, q0, q1⟩, hch⟩ _
        have HB := Lib.hid hb
        have HCH := Lib.hid hch
        have Q0 := Lib.hid q0
        have Q1 := Lib.hid q1
        obtain ⟨T1, hT1⟩ : ∃ T1, T1 = foldM true T pre := ⟨_, rfl⟩
        rw [← hT1] at HB hb
        have HF := Lib.hid (show foldM true T (pre ++ [x]) = modeS true T1 x.2 by rw [foldM_snoc, hT1])
        have c10 : W.cell? ⟨t, 10, none⟩ = some (.bool T1.seen) := hb.cell 10
        have c11 : W.cell? ⟨t, 11, none⟩ = some (.bool T1.mark) := hb.cell 11
        have f10 : W.frozen? ⟨t, 10, none⟩ = false := hb.frozen 10
        have f11 : W.frozen? ⟨t, 11, none⟩ = false := hb.frozen 11
        clear hb hch hT1
        by_cases hx : x.2 = 25
        · have HM := Lib.hid (show modeS true T1 x.2 = { T1 with seen := true } from if_pos hx)
          gi_wp2
          have hn : Blk (W.setCell ⟨t, 10, none⟩ (.bool true)) t 63 (tmc t g (foldM true T (pre ++ [x])) xs B.length) := by rw [HF.out, HM.out]; exact HB.out.set_ 10 _
          have hcc : Chg (one t) W (W.setCell ⟨t, 10, none⟩ (.bool true)) := (Chg.refl (one t) W).setCell (p := ⟨t, 10, none⟩) (.inl (show t = t from rfl)) _
          exact ⟨(KeepsOthers.setCell _ _ _).from _, kc_tm HX1.out H.out.b32 HP.out (by omega) HB.out hn hcc, ⟨hn, hcc.cell Q0.out (show ¬ w.heap.size = t by omega), hcc.cell Q1.out (show ¬ w.heap.size + 1 = t by omega)⟩, HCH.out.trans hcc (fun _ h => .inl h)⟩
        · by_cases hx2 : x.2 = 2004
          · have HM := Lib.hid (show modeS true T1 x.2 = { T1 with mark := true } from (if_neg hx).trans (if_pos hx2))
            clear hx
            gi_wp2
            have hn : Blk (W.setCell ⟨t, 11, none⟩ (.bool true)) t 63 (tmc t g (foldM true T (pre ++ [x])) xs B.length) := by rw [HF.out, HM.out]; exact HB.out.set_ 11 _
            have hcc : Chg (one t) W (W.setCell ⟨t, 11, none⟩ (.bool true)) := (Chg.refl (one t) W).setCell (p := ⟨t, 11, none⟩) (.inl (show t = t from rfl)) _
            exact ⟨(KeepsOthers.setCell _ _ _).from _, kc_tm HX1.out H.out.b32 HP.out (by omega) HB.out hn hcc, ⟨hn, hcc.cell Q0.out (show ¬ w.heap.size = t by omega), hcc.cell Q1.out (show ¬ w.heap.size + 1 = t by omega)⟩, HCH.out.trans hcc (fun _ h => .inl h)⟩
          · have HM := Lib.hid (show modeS true T1 x.2 = T1 from (if_neg hx).trans (if_neg hx2))
            gi_wp2
            exact ⟨(KeepsOthers.refl _).from _, KC.refl _ _, ⟨by rw [HF.out, HM.out]; exact HB.out, Q0.out, Q1.out⟩, HCH.out⟩
      case done =>
        rintro D ys W hD rfl ⟨⟨hb, _, _⟩, hch⟩ hK
        have hDt : t ≠ D := by simp at hD; omega
        have hg := grownBy_putObj' W D (.deferred none)
        have hfin : TmStep w lo t g rb bs T' B (W.putObj D (.deferred none)) := by
          have hW := modeF_W true (numsT L) T
          have hfd : foldM true T (numsI 0 0 L) = T' := by rw [HT'.out, HE.out]; unfold foldM numsT; rw [numsI_snd]
          rw [hfd] at hb
          have hT : T' = (numsT L).foldl (modeS true) T := HT'.out.trans HE.out
          rw [← hT] at hW
          obtain ⟨hW1, hW2, hW3, hW4⟩ := hW
          exact H.out.wrote (xs := xs) (hch.grown hg (fun k e => by cases e; exact .inr (by simp at hD; omega))) HX1.out HX2.out H.out.b32 (hb.chg (chg_of_grown hg) (fun e => hDt e)) hW1 hW2 (by rw [hW2, hW3]; exact H.out.row) (by rw [hW1, hW4]; exact H.out.col)
        have HFIN := Lib.hid hfin
        clear hb hch hfin
        refine ⟨by simp, .inl ⟨_, _, rfl, run_takeDeferred hK, ?_⟩⟩
        refine ⟨.tuple #[], ?_, rfl, HFIN.out⟩
        simp [results, Tryz.f98, go_sem]
      case stop =>
        rintro D c pre W hD hpre hfalse
        exact hfalse.elim
    · rw [show decide ((108 : UInt8) = 104) = false by decide] at HE
      go_wp2_with fail
      refine (nums_any A L.length cap _).mono ?_
      rintro e w3 ⟨rfl, rfl⟩
      go_wp2
      refine (wpIn_wide (n := 5)).1 ?_
      have c0 := ((Boxed.new w 23 (.pointer (some ⟨t, 0, none⟩))).alloc (.cells #[.int .u8 108] 5)).alloc (.cells #[.slice A L.length cap] 32)
      have c1 := (Boxed.new (w.alloc (.cells #[.pointer (some ⟨t, 0, none⟩)] 23)) 5 (.int .u8 108)).alloc (.cells #[.slice A L.length cap] 32)
      have c2 := Boxed.new ((w.alloc (.cells #[.pointer (some ⟨t, 0, none⟩)] 23)).alloc (.cells #[.int .u8 108] 5)) 32 (.slice A L.length cap)
      rw [World.size_alloc] at c1 c2
      rw [World.size_alloc] at c2
      have hB0 : Below w.heap.size w (((w.alloc (.cells #[.pointer (some ⟨t, 0, none⟩)] 23)).alloc (.cells #[.int .u8 108] 5)).alloc (.cells #[.slice A L.length cap] 32)) := (((Below.refl _ w).alloc (Nat.le_refl _) _).alloc (by simp) _).alloc (by simp; omega) _
      have hS2 := slN_of (HS.out.below hB0)
      have htl := H.out.lt
      have hc := nums_stops 4 (by omega) (w.heap.size + 1 + 1) L hL hA A cap _ c2.cell hS2 (by
        rintro p (rfl | ⟨bk, off, j, rfl, hj, rfl⟩)
        · simp
        · rcases HS.out.open_ (by rw [bv_length]; omega) with ⟨bk', off', he, hlt, _⟩
          injection he with he; injection he with he1 he2
          subst he1
          simp; omega)
      refine wpIn_rangeFunc_ownG rfl (by omega) (gf := 134) (lb := #[.pointer (some ⟨w.heap.size + 1 + 1, 0, none⟩)]) rfl trivial (enters_of Tryz.func134 (by kernel_rfl) rfl) hc kc_t (kc_b _) (Below.refl _ _) (fun _ => rfl)
        (fun pre W => InM w t g T xs B.length 108 false pre W ∧ Chg (one t) w W)
        (fun c pre W => False)
        (OwnFrom.and (inM_own.from _) (ownFrom_chg (by simp; omega)))
        (fun c _ _ _ _ h _ _ => h)
        ⟨⟨HX3.out.below hB0 htl, c0.cell, c1.cell⟩, Chg.of_below hB0⟩
        (fun x => { tmps := #[.pointer (some ⟨t, 0, none⟩), .slice A L.length cap, .int .u8 108, .pointer (some ⟨w.heap.size, 0, none⟩), undef, .pointer (some ⟨w.heap.size + 1, 0, none⟩), undef, .int .i64 x.2, .int .u8 108, .bool true, .bool true, .int .u8 108, .bool false, .bool false, .slice A L.length cap, .func (.func 134) #[] #[.pointer (some ⟨w.heap.size + 1 + 1, 0, none⟩)], .int .i64 x.1, .int .i64 x.2, undef, undef, undef, undef, undef, undef, undef, undef, undef, undef, undef, undef, undef, undef, undef, undef, undef], defers := [] }) ?assign ?body ?done ?stop
      case assign =>
        intro l x W K hK
        simp only [encN]
        rw [put_two]
        gi_wp2
        exact hK
      case body =>
        rintro l pre x W ⟨⟨hb, q0, q1⟩, hch⟩ _
        have HB := Lib.hid hb
        have HCH := Lib.hid hch
        have Q0 := Lib.hid q0
        have Q1 := Lib.hid q1
        obtain ⟨T1, hT1⟩ : ∃ T1, T1 = foldM false T pre := ⟨_, rfl⟩
        rw [← hT1] at HB hb
        have HF := Lib.hid (show foldM false T (pre ++ [x]) = modeS false T1 x.2 by rw [foldM_snoc, hT1])
        have c10 : W.cell? ⟨t, 10, none⟩ = some (.bool T1.seen) := hb.cell 10
        have c11 : W.cell? ⟨t, 11, none⟩ = some (.bool T1.mark) := hb.cell 11
        have f10 : W.frozen? ⟨t, 10, none⟩ = false := hb.frozen 10
        have f11 : W.frozen? ⟨t, 11, none⟩ = false := hb.frozen 11
        clear hb hch hT1
        by_cases hx : x.2 = 25
        · have HM := Lib.hid (show modeS false T1 x.2 = { T1 with seen := false } from if_pos hx)
          gi_wp2
          have hn : Blk (W.setCell ⟨t, 10, none⟩ (.bool false)) t 63 (tmc t g (foldM false T (pre ++ [x])) xs B.length) := by rw [HF.out, HM.out]; exact HB.out.set_ 10 _
          have hcc : Chg (one t) W (W.setCell ⟨t, 10, none⟩ (.bool false)) := (Chg.refl (one t) W).setCell (p := ⟨t, 10, none⟩) (.inl (show t = t from rfl)) _
          exact ⟨(KeepsOthers.setCell _ _ _).from _, kc_tm HX1.out H.out.b32 HP.out (by omega) HB.out hn hcc, ⟨hn, hcc.cell Q0.out (show ¬ w.heap.size = t by omega), hcc.cell Q1.out (show ¬ w.heap.size + 1 = t by omega)⟩, HCH.out.trans hcc (fun _ h => .inl h)⟩
        · by_cases hx2 : x.2 = 2004
          · have HM := Lib.hid (show modeS false T1 x.2 = { T1 with mark := false } from (if_neg hx).trans (if_pos hx2))
            clear hx
            gi_wp2
            have hn : Blk (W.setCell ⟨t, 11, none⟩ (.bool false)) t 63 (tmc t g (foldM false T (pre ++ [x])) xs B.length) := by rw [HF.out, HM.out]; exact HB.out.set_ 11 _
            have hcc : Chg (one t) W (W.setCell ⟨t, 11, none⟩ (.bool false)) := (Chg.refl (one t) W).setCell (p := ⟨t, 11, none⟩) (.inl (show t = t from rfl)) _
            exact ⟨(KeepsOthers.setCell _ _ _).from _, kc_tm HX1.out H.out.b32 HP.out (by omega) HB.out hn hcc, ⟨hn, hcc.cell Q0.out (show ¬ w.heap.size = t by omega), hcc.cell Q1.out (show ¬ w.heap.size + 1 = t by omega)⟩, HCH.out.trans hcc (fun _ h => .inl h)⟩
          · have HM := Lib.hid (show modeS false T1 x.2 = T1 from (if_neg hx).trans (if_neg hx2))
            gi_wp2
            exact ⟨(KeepsOthers.refl _).from _, KC.refl _ _, ⟨by rw [HF.out, HM.out]; exact HB.out, Q0.out, Q1.out⟩, HCH.out⟩
      case done =>
        rintro D ys W hD rfl ⟨⟨hb, _, _⟩, hch⟩ hK
        have hDt : t ≠ D := by simp at hD; omega
        have hg := grownBy_putObj' W D (.deferred none)
        have hfin : TmStep w lo t g rb bs T' B (W.putObj D (.deferred none)) := by
          have hW := modeF_W false (numsT L) T
          have hfd : foldM false T (numsI 0 0 L) = T' := by rw [HT'.out, HE.out]; unfold foldM numsT; rw [numsI_snd]
          rw [hfd] at hb
          have hT : T' = (numsT L).foldl (modeS false) T := HT'.out.trans HE.out
          rw [← hT] at hW
          obtain ⟨hW1, hW2, hW3, hW4⟩ := hW
          exact H.out.wrote (xs := xs) (hch.grown hg (fun k e => by cases e; exact .inr (by simp at hD; omega))) HX1.out HX2.out H.out.b32 (hb.chg (chg_of_grown hg) (fun e => hDt e)) hW1 hW2 (by rw [hW2, hW3]; exact H.out.row) (by rw [hW1, hW4]; exact H.out.col)
        have HFIN := Lib.hid hfin
        clear hb hch hfin
        refine ⟨by simp, .inl ⟨_, _, rfl, run_takeDeferred hK, ?_⟩⟩
        refine ⟨.tuple #[], ?_, rfl, HFIN.out⟩
        simp [results, Tryz.f98, go_sem]
      case stop =>
        rintro D c pre W hD hpre hfalse
        exact hfalse.elim
  · have h4 : ¬ f = 104 := fun e => hf (.inl e)
    have h8 : ¬ f = 108 := fun e => hf (.inr e)
    have HE := Lib.hid (show modesT T (numsT L) f = T from if_pos ⟨h4, h8⟩)
    have i4 : ¬ (f.toNat : Int) = 104 := fun e => h4 (UInt8.toNat_inj.1 (by show f.toNat = 104; omega))
    have i8 : ¬ (f.toNat : Int) = 108 := fun e => h8 (UInt8.toNat_inj.1 (by show f.toNat = 108; omega))
    have n4 : ((f.toNat : Int) != 104) = true := by simp; omega
    have n8 : ((f.toNat : Int) != 108) = true := by simp; omega
    obtain ⟨T', hT'⟩ : ∃ T', T' = modesT T (numsT L) f := ⟨_, rfl⟩
    rw [← hT']
    have HT' := Lib.hid (hT'.trans HE.out)
    clear hT' hf h4 h8
    refine (callsIn_wide (n := 5)).1 ?_
    refine callsIn_of_wp_marks Tryz.func98 rfl trivial ?_ rfl
    simp only [Tryz.ntmps98, List.size_toArray, List.length_cons, List.length_nil, Nat.reduceAdd, Nat.reduceSub, Array.replicate_succ, Array.replicate_zero, List.push_toArray, List.append_toArray, List.nil_append, List.cons_append]
    refine wpIn_wide.2 ?_
    go_wp2_with fail
    refine ⟨.tuple #[], by simp [results, Tryz.f98, go_sem], rfl, ?_⟩
    rw [HT'.out]
    exact TmStep.bel H.out (((Below.refl _ w).alloc (Nat.le_refl _) _).alloc (by simp) _)
end
end Go.Proofs.YtfmkeeaenjeneaaGreatDoor

namespace Go.Proofs.YtfmkeeaenjeneaaGreatDoor
open Go.RowKit
set_option linter.unusedVariables false
set_option linter.unusedSimpArgs false

theorem eraseG_len (W : Nat) (L : List (List Cl)) (row a z : Int) : (eraseG W L row a z).1.length = L.length := by
  unfold eraseG
  split
  · rfl
  · simp
theorem eraseRows_step {T1 : TS} {fr fc tr tc r : Nat} (h : r ≤ tr) : eraseRows T1 fr fc tr tc (tr + 1 - r) = eraseRows { T1 with L := (eraseG T1.W T1.L r (if r = fr then fc else 0) ((if r = tr then (tc : Int) else (T1.W : Int) - 1) + 1)).1 } fr fc tr tc (tr + 1 - (r + 1)) := by
  obtain ⟨n, hn⟩ : ∃ n, tr + 1 - r = n + 1 := ⟨tr - r, by omega⟩
  have h2 : tr + 1 - (r + 1) = n := by omega
  have h3 : tr + 1 - (n + 1) = r := by omega
  rw [hn, h2]
  conv => lhs; unfold eraseRows
  simp only [h3]
theorem eraseRows_end {T1 : TS} {fr fc tr tc r : Nat} (h : tr + 1 ≤ r) : eraseRows T1 fr fc tr tc (tr + 1 - r) = T1 := by
  rw [show tr + 1 - r = 0 by omega]; rfl

section
variable {w : World} {lo t g rb : Nat} {bs : List Nat} {T : TS} {B : List UInt8}
set_option maxRecDepth 100000 in
set_option maxHeartbeats 4000000 in
theorem erase_term (h : TmAt w lo t g rb bs T B) (hbase : Base w lo) (what : Int) (first last : Nat) (hf : first ≤ T.row) (hl : T.row ≤ last) (hh : last < T.L.length) :
    Calls Tryz.prog 135 #[.pointer (some ⟨t, 0, none⟩), .int .i64 what, .int .i64 first, .int .i64 last] w fun e w' => e = .returned (.tuple #[]) ∧ TmStep w lo t g rb bs (eraseT T what first last) B w' := by
  have HS := Lib.hid (tsize_yes h)
  have hw1 := h.grid.w1
  have hw5 := h.grid.w5
  have hh1 := h.grid.h1
  have hh5 := h.grid.h5
  have hrow := h.row
  have hcol := h.col
  have H := Lib.hid h
  have HBS := Lib.hid hbase
  clear h hbase
  have hwi : IntKind.i64.wrap ((T.W : Int) - 1) = (T.W : Int) - 1 := IntWalk.i64_in _ (by omega)
  by_cases h0 : what = 0
  · subst h0
    obtain ⟨R, hR⟩ : ∃ R, R = eraseT T 0 first last := ⟨_, rfl⟩
    rw [← hR]
    have HR := Lib.hid (hR.trans (if_pos rfl))
    clear hR
    go_enter Tryz.func135, Tryz.ntmps135
    go_wp2_with (fail)
    refine HS.out.mono ?_
    rintro e w1 ⟨rfl, hb1⟩
    have H1 := Lib.hid (H.out.below hb1)
    have HB1 := Lib.hid hb1
    clear hb1
    go_upto_region 2 with fail
    obtain ⟨W2, hW2⟩ : ∃ W, W = (w1.alloc (.cells #[.int .i64 first, .int .i64 0] 56)).alloc (.cells #[.int .i64 last, .int .i64 ((T.W : Int) - 1)] 56) := ⟨_, rfl⟩
    have HN10' := Lib.hid (show Blk W2 w1.heap.size 56 [.int .i64 first, .int .i64 0] by rw [hW2]; exact (Blk.new w1 56 [.int .i64 first, .int .i64 0]).alloc _)
    have HN11' := Lib.hid (show Blk W2 (w1.heap.size + 1) 56 [.int .i64 last, .int .i64 ((T.W : Int) - 1)] by rw [hW2]; have := Blk.new (w1.alloc (.cells #[.int .i64 first, .int .i64 0] 56)) 56 [.int .i64 last, .int .i64 ((T.W : Int) - 1)]; rw [World.size_alloc] at this; exact this)
    have HB2 := Lib.hid (show Below w.heap.size w W2 by rw [hW2]; exact (HB1.out.alloc HB1.out.size _).alloc (by have := HB1.out.size; simp; omega) _)
    rw [← hW2]
    have k2 : W2.cell? ⟨t, 2, none⟩ = some (.int .i64 T.row) := (H.out.below HB2.out).cell 2 (by omega)
    have k3 : W2.cell? ⟨t, 3, none⟩ = some (.int .i64 T.col) := (H.out.below HB2.out).cell 3 (by omega)
    clear hW2
    go_upto_region 8 with ((with_reducible refine at_store 10 ?_); refine wpList_store_blk rfl _ _ _ rfl rfl w1.heap.size 0 _ [.int .i64 first, .int .i64 0] [.int .i64 T.row, .int .i64 T.col] rfl rfl HN10'.out (by simp) pl_size (by intro v hv; simp at hv; rcases hv with rfl | rfl <;> rfl) ?_; intro W3 hn3 hg3; have HN3 := Lib.hid hn3; have HG3 := Lib.hid hg3; clear hn3 hg3)
    have HN10 := Lib.hid (show Blk W3 w1.heap.size 56 [.int .i64 T.row, .int .i64 T.col] from HN3.out)
    have HN11 := Lib.hid (HN11'.out.chg (chg_of_grown HG3.out) (fun e => by have e' : w1.heap.size + 1 = w1.heap.size := e; omega))
    have HB3 := Lib.hid (HB2.out.grown HG3.out HB2.out.size (fun k e => by cases e; exact HB1.out.size))
    clear k2 k3
    have hpo : ∀ k, TmOwn t g rb bs k → k < w.heap.size := fun k hk => hk.elim (fun e => e ▸ H.out.lt) (fun hk => H.out.grid.own_lt k hk)
    have HPO := Lib.hid hpo
    have HBS3 := Lib.hid (HBS.out.below HB3.out)
    have H3 := Lib.hid (H.out.below HB3.out)
    clear hpo
    have q10 : W3.cell? ⟨w1.heap.size, 0, none⟩ = _ := HN10.out.cell 0
    simp only [List.getElem?_cons_zero] at q10
    go_wp2_with (fail)
    clear q10
    go_loopw [12] (fun v wr => ∃ (r : Nat) (T1 : TS), v = .int .i64 r ∧ T.row ≤ r ∧ r ≤ last + 1 ∧ TmStep W3 lo t g rb bs T1 B wr ∧ T1.W = T.W ∧ T1.L.length = T.L.length ∧ eraseRows T1 T.row T.col last (T.W - 1) (last + 1 - r) = R) (fun v _ => last + 1 - (intOf v).toNat)
    case atStart => exact ⟨T.row, T, rfl, by omega, by omega, TmStep.refl H3.out, rfl, rfl, HR.out.symm⟩
    case round =>
      rename_i wr
      obtain ⟨r, T1, rfl, hr1, hr2, hst, hW1, hL1, hR⟩ := hrel
      obtain ⟨bs1, ht1, ho1, hc1⟩ := hst
      have HR1 := Lib.hid hR
      have HT1 := Lib.hid ht1
      have HO1 := Lib.hid ho1
      have HC1 := Lib.hid hc1
      have HW1 := Lib.hid hW1
      have HL1 := Lib.hid hL1
      have c10 : wr.cell? ⟨w1.heap.size, 0, none⟩ = some (.int .i64 T.row) := hc1.cell (HN10.out.cell 0) (fun e => by have h1 : _ < w.heap.size := HPO.out _ e; have h2 := HB1.out.size; dsimp only at h1; omega)
      have c11 : wr.cell? ⟨w1.heap.size, 1, none⟩ = some (.int .i64 T.col) := hc1.cell (HN10.out.cell 1) (fun e => by have h1 : _ < w.heap.size := HPO.out _ e; have h2 := HB1.out.size; dsimp only at h1; omega)
      have d10 : wr.cell? ⟨w1.heap.size + 1, 0, none⟩ = some (.int .i64 last) := hc1.cell (HN11.out.cell 0) (fun e => by have h1 : _ < w.heap.size := HPO.out _ e; have h2 := HB1.out.size; dsimp only at h1; omega)
      have d11 : wr.cell? ⟨w1.heap.size + 1, 1, none⟩ = some (.int .i64 ((T.W : Int) - 1)) := hc1.cell (HN11.out.cell 1) (fun e => by have h1 : _ < w.heap.size := HPO.out _ e; have h2 := HB1.out.size; dsimp only at h1; omega)
      have kg : wr.cell? ⟨t, 1, none⟩ = some (.pointer (some ⟨g, 0, none⟩)) := ht1.cell 1 (by omega)
      have HER : Hid (∀ a z : Int, -9223372036854775808 ≤ a → a ≤ 9223372036854775807 → Calls Tryz.prog 151 #[.pointer (some ⟨g, 0, none⟩), .int .i64 r, .int .i64 a, .int .i64 z] wr fun e w' => (∃ v, e = .returned v) ∧ TmStep wr lo t g rb bs1 { T1 with L := (eraseG T1.W T1.L r a z).1 } B w') := Lib.hid (fun a z ha hz => by
        have hb := HBS3.out.chg hc1 (fun k hk => H.out.own_lo hk)
        refine (erase_any ht1.grid hb.bl hb.b1 r a z ha hz).mono ?_
        rintro e w' ⟨rfl, hg, hc⟩
        obtain ⟨xs, h1, h2, h3⟩ := ht1.blk
        exact ⟨⟨_, rfl⟩, bs1, ⟨⟨xs, h1, h2, h3.chg hc (fun hk => ht1.ne_g hk rfl)⟩, hg, ht1.lot, by show T1.row < _; rw [eraseG_len]; exact ht1.row, ht1.col, ht1.b32⟩, fun _ h => .inl h, hc.mono (fun k hk => .inl (.inr hk))⟩)
      have HTR : Hid (∀ T2 w', TmStep wr lo t g rb bs1 T2 B w' → TmStep W3 lo t g rb bs T2 B w') := Lib.hid (fun T2 w' h2 => TmStep.trans ho1 hc1 h2)
      have hri : IntKind.i64.wrap ((r : Int) + 1) = (r : Int) + 1 := IntWalk.i64_in _ (by omega)
      have hwz : IntKind.i64.wrap ((T.W : Int) - 1 + 1) = (T.W : Int) - 1 + 1 := IntWalk.i64_in _ (by omega)
      have hcz : IntKind.i64.wrap ((T.col : Int) + 1) = (T.col : Int) + 1 := IntWalk.i64_in _ (by omega)
      clear hR ht1 ho1 hc1 hW1 hL1
      by_cases hle : r ≤ last
      · have hlei : (r : Int) ≤ (last : Int) := by omega
        by_cases hA : r = T.row
        · by_cases hZ : r = last
          · skip
            have HSTEP : Hid (eraseRows { T1 with L := (eraseG T1.W T1.L r (T.col : Int) ((T.W : Int))).1 } T.row T.col last (T.W - 1) (last + 1 - (r + 1)) = R) := Lib.hid (by
              have h := (eraseRows_step (T1 := T1) (fr := T.row) (fc := T.col) (tr := last) (tc := (T.W - 1)) hle).symm.trans HR1.out
              rw [if_pos hA, if_pos hZ, show ((((T.W - 1) : Nat) : Int)) + 1 = (T.W : Int) by omega] at h
              exact h)
            subst hA
            subst hZ
            go_wp2_with (go_at_call 151; refine (HER.out _ _ (by omega) (by omega)).mono ?_; rintro e w5 ⟨⟨v5, rfl⟩, hs5⟩)
            go_roundw
            case rel => exact ⟨T.row + 1, _, by go_num, by omega, by omega, HTR.out _ _ hs5, HW1.out, (eraseG_len _ _ _ _ _).trans HL1.out, HSTEP.out⟩
            case measure => (simp [intOf]; try omega)
          · skip
            have HSTEP : Hid (eraseRows { T1 with L := (eraseG T1.W T1.L r (T.col : Int) ((T.W : Int))).1 } T.row T.col last (T.W - 1) (last + 1 - (r + 1)) = R) := Lib.hid (by
              have h := (eraseRows_step (T1 := T1) (fr := T.row) (fc := T.col) (tr := last) (tc := (T.W - 1)) hle).symm.trans HR1.out
              rw [if_pos hA, if_neg hZ, show ((T1.W : Int) - 1) + 1 = (T.W : Int) by rw [HW1.out]; omega] at h
              exact h)
            subst hA
            have hZi : ¬ (T.row : Int) = (last : Int) := by omega
            clear hZ
            go_wp2_with (go_at_call 151; refine (HER.out _ _ (by omega) (by omega)).mono ?_; rintro e w5 ⟨⟨v5, rfl⟩, hs5⟩)
            go_roundw
            case rel => exact ⟨T.row + 1, _, by go_num, by omega, by omega, HTR.out _ _ hs5, HW1.out, (eraseG_len _ _ _ _ _).trans HL1.out, HSTEP.out⟩
            case measure => (simp [intOf]; try omega)
        · by_cases hZ : r = last
          · skip
            have HSTEP : Hid (eraseRows { T1 with L := (eraseG T1.W T1.L r 0 ((T.W : Int))).1 } T.row T.col last (T.W - 1) (last + 1 - (r + 1)) = R) := Lib.hid (by
              have h := (eraseRows_step (T1 := T1) (fr := T.row) (fc := T.col) (tr := last) (tc := (T.W - 1)) hle).symm.trans HR1.out
              rw [if_neg hA, if_pos hZ, show ((((T.W - 1) : Nat) : Int)) + 1 = (T.W : Int) by omega] at h
              exact h)
            have hAi : ¬ (r : Int) = (T.row : Int) := by omega
            clear hA
            subst hZ
            go_wp2_with (go_at_call 151; refine (HER.out _ _ (by omega) (by omega)).mono ?_; rintro e w5 ⟨⟨v5, rfl⟩, hs5⟩)
            go_roundw
            case rel => exact ⟨r + 1, _, by go_num, by omega, by omega, HTR.out _ _ hs5, HW1.out, (eraseG_len _ _ _ _ _).trans HL1.out, HSTEP.out⟩
            case measure => (simp [intOf]; try omega)
          · skip
            have HSTEP : Hid (eraseRows { T1 with L := (eraseG T1.W T1.L r 0 ((T.W : Int))).1 } T.row T.col last (T.W - 1) (last + 1 - (r + 1)) = R) := Lib.hid (by
              have h := (eraseRows_step (T1 := T1) (fr := T.row) (fc := T.col) (tr := last) (tc := (T.W - 1)) hle).symm.trans HR1.out
              rw [if_neg hA, if_neg hZ, show ((T1.W : Int) - 1) + 1 = (T.W : Int) by rw [HW1.out]; omega] at h
              exact h)
            have hAi : ¬ (r : Int) = (T.row : Int) := by omega
            clear hA
            have hZi : ¬ (r : Int) = (last : Int) := by omega
            clear hZ
            go_wp2_with (go_at_call 151; refine (HER.out _ _ (by omega) (by omega)).mono ?_; rintro e w5 ⟨⟨v5, rfl⟩, hs5⟩)
            go_roundw
            case rel => exact ⟨r + 1, _, by go_num, by omega, by omega, HTR.out _ _ hs5, HW1.out, (eraseG_len _ _ _ _ _).trans HL1.out, HSTEP.out⟩
            case measure => (simp [intOf]; try omega)
      · have hlei : ¬ (r : Int) ≤ (last : Int) := by omega
        go_wp2_with (fail)
        go_end0
        have he := HR1.out
        rw [eraseRows_end (by omega)] at he
        have hfin := TmStep.bel_then HB3.out (HTR.out T1 wr (TmStep.refl HT1.out))
        rw [he] at hfin
        exact ⟨rfl, hfin⟩
  by_cases h1 : what = 1
  · subst h1
    obtain ⟨R, hR⟩ : ∃ R, R = eraseT T 1 first last := ⟨_, rfl⟩
    rw [← hR]
    have HR := Lib.hid (hR.trans ((if_neg (by decide)).trans (if_pos rfl)))
    clear hR
    go_enter Tryz.func135, Tryz.ntmps135
    go_wp2_with (fail)
    refine HS.out.mono ?_
    rintro e w1 ⟨rfl, hb1⟩
    have H1 := Lib.hid (H.out.below hb1)
    have HB1 := Lib.hid hb1
    clear hb1
    go_upto_region 2 with fail
    obtain ⟨W2, hW2⟩ : ∃ W, W = (w1.alloc (.cells #[.int .i64 first, .int .i64 0] 56)).alloc (.cells #[.int .i64 last, .int .i64 ((T.W : Int) - 1)] 56) := ⟨_, rfl⟩
    have HN10' := Lib.hid (show Blk W2 w1.heap.size 56 [.int .i64 first, .int .i64 0] by rw [hW2]; exact (Blk.new w1 56 [.int .i64 first, .int .i64 0]).alloc _)
    have HN11' := Lib.hid (show Blk W2 (w1.heap.size + 1) 56 [.int .i64 last, .int .i64 ((T.W : Int) - 1)] by rw [hW2]; have := Blk.new (w1.alloc (.cells #[.int .i64 first, .int .i64 0] 56)) 56 [.int .i64 last, .int .i64 ((T.W : Int) - 1)]; rw [World.size_alloc] at this; exact this)
    have HB2 := Lib.hid (show Below w.heap.size w W2 by rw [hW2]; exact (HB1.out.alloc HB1.out.size _).alloc (by have := HB1.out.size; simp; omega) _)
    rw [← hW2]
    have k2 : W2.cell? ⟨t, 2, none⟩ = some (.int .i64 T.row) := (H.out.below HB2.out).cell 2 (by omega)
    have k3 : W2.cell? ⟨t, 3, none⟩ = some (.int .i64 T.col) := (H.out.below HB2.out).cell 3 (by omega)
    clear hW2
    go_upto_region 8 with ((with_reducible refine at_store 11 ?_); refine wpList_store_blk rfl _ _ _ rfl rfl (w1.heap.size + 1) 0 _ [.int .i64 last, .int .i64 ((T.W : Int) - 1)] [.int .i64 T.row, .int .i64 T.col] rfl rfl HN11'.out (by simp) pl_size (by intro v hv; simp at hv; rcases hv with rfl | rfl <;> rfl) ?_; intro W3 hn3 hg3; have HN3 := Lib.hid hn3; have HG3 := Lib.hid hg3; clear hn3 hg3)
    have HN11 := Lib.hid (show Blk W3 (w1.heap.size + 1) 56 [.int .i64 T.row, .int .i64 T.col] from HN3.out)
    have HN10 := Lib.hid (HN10'.out.chg (chg_of_grown HG3.out) (fun e => by have e' : w1.heap.size = w1.heap.size + 1 := e; omega))
    have HB3 := Lib.hid (HB2.out.grown HG3.out HB2.out.size (fun k e => by cases e; have := HB1.out.size; omega))
    clear k2 k3
    have hpo : ∀ k, TmOwn t g rb bs k → k < w.heap.size := fun k hk => hk.elim (fun e => e ▸ H.out.lt) (fun hk => H.out.grid.own_lt k hk)
    have HPO := Lib.hid hpo
    have HBS3 := Lib.hid (HBS.out.below HB3.out)
    have H3 := Lib.hid (H.out.below HB3.out)
    clear hpo
    have q10 : W3.cell? ⟨w1.heap.size, 0, none⟩ = _ := HN10.out.cell 0
    simp only [List.getElem?_cons_zero] at q10
    go_wp2_with (fail)
    clear q10
    go_loopw [12] (fun v wr => ∃ (r : Nat) (T1 : TS), v = .int .i64 r ∧ first ≤ r ∧ r ≤ T.row + 1 ∧ TmStep W3 lo t g rb bs T1 B wr ∧ T1.W = T.W ∧ T1.L.length = T.L.length ∧ eraseRows T1 first 0 T.row T.col (T.row + 1 - r) = R) (fun v _ => T.row + 1 - (intOf v).toNat)
    case atStart => exact ⟨first, T, rfl, by omega, by omega, TmStep.refl H3.out, rfl, rfl, HR.out.symm⟩
    case round =>
      rename_i wr
      obtain ⟨r, T1, rfl, hr1, hr2, hst, hW1, hL1, hR⟩ := hrel
      obtain ⟨bs1, ht1, ho1, hc1⟩ := hst
      have HR1 := Lib.hid hR
      have HT1 := Lib.hid ht1
      have HO1 := Lib.hid ho1
      have HC1 := Lib.hid hc1
      have HW1 := Lib.hid hW1
      have HL1 := Lib.hid hL1
      have c10 : wr.cell? ⟨w1.heap.size, 0, none⟩ = some (.int .i64 first) := hc1.cell (HN10.out.cell 0) (fun e => by have h1 : _ < w.heap.size := HPO.out _ e; have h2 := HB1.out.size; dsimp only at h1; omega)
      have c11 : wr.cell? ⟨w1.heap.size, 1, none⟩ = some (.int .i64 0) := hc1.cell (HN10.out.cell 1) (fun e => by have h1 : _ < w.heap.size := HPO.out _ e; have h2 := HB1.out.size; dsimp only at h1; omega)
      have d10 : wr.cell? ⟨w1.heap.size + 1, 0, none⟩ = some (.int .i64 T.row) := hc1.cell (HN11.out.cell 0) (fun e => by have h1 : _ < w.heap.size := HPO.out _ e; have h2 := HB1.out.size; dsimp only at h1; omega)
      have d11 : wr.cell? ⟨w1.heap.size + 1, 1, none⟩ = some (.int .i64 ((T.col : Int))) := hc1.cell (HN11.out.cell 1) (fun e => by have h1 : _ < w.heap.size := HPO.out _ e; have h2 := HB1.out.size; dsimp only at h1; omega)
      have kg : wr.cell? ⟨t, 1, none⟩ = some (.pointer (some ⟨g, 0, none⟩)) := ht1.cell 1 (by omega)
      have HER : Hid (∀ a z : Int, -9223372036854775808 ≤ a → a ≤ 9223372036854775807 → Calls Tryz.prog 151 #[.pointer (some ⟨g, 0, none⟩), .int .i64 r, .int .i64 a, .int .i64 z] wr fun e w' => (∃ v, e = .returned v) ∧ TmStep wr lo t g rb bs1 { T1 with L := (eraseG T1.W T1.L r a z).1 } B w') := Lib.hid (fun a z ha hz => by
        have hb := HBS3.out.chg hc1 (fun k hk => H.out.own_lo hk)
        refine (erase_any ht1.grid hb.bl hb.b1 r a z ha hz).mono ?_
        rintro e w' ⟨rfl, hg, hc⟩
        obtain ⟨xs, h1, h2, h3⟩ := ht1.blk
        exact ⟨⟨_, rfl⟩, bs1, ⟨⟨xs, h1, h2, h3.chg hc (fun hk => ht1.ne_g hk rfl)⟩, hg, ht1.lot, by show T1.row < _; rw [eraseG_len]; exact ht1.row, ht1.col, ht1.b32⟩, fun _ h => .inl h, hc.mono (fun k hk => .inl (.inr hk))⟩)
      have HTR : Hid (∀ T2 w', TmStep wr lo t g rb bs1 T2 B w' → TmStep W3 lo t g rb bs T2 B w') := Lib.hid (fun T2 w' h2 => TmStep.trans ho1 hc1 h2)
      have hri : IntKind.i64.wrap ((r : Int) + 1) = (r : Int) + 1 := IntWalk.i64_in _ (by omega)
      have hwz : IntKind.i64.wrap ((T.W : Int) - 1 + 1) = (T.W : Int) - 1 + 1 := IntWalk.i64_in _ (by omega)
      have hcz : IntKind.i64.wrap ((T.col : Int) + 1) = (T.col : Int) + 1 := IntWalk.i64_in _ (by omega)
      clear hR ht1 ho1 hc1 hW1 hL1
      by_cases hle : r ≤ T.row
      · have hlei : (r : Int) ≤ (T.row : Int) := by omega
        by_cases hA : r = first
        · by_cases hZ : r = T.row
          · skip
            have HSTEP : Hid (eraseRows { T1 with L := (eraseG T1.W T1.L r 0 ((T.col : Int) + 1)).1 } first 0 T.row T.col (T.row + 1 - (r + 1)) = R) := Lib.hid (by
              have h := (eraseRows_step (T1 := T1) (fr := first) (fc := 0) (tr := T.row) (tc := T.col) hle).symm.trans HR1.out
              rw [if_pos hA, if_pos hZ, show (((T.col : Nat) : Int)) + 1 = (T.col : Int) + 1 by omega] at h
              exact h)
            subst hA
            subst hZ
            go_wp2_with (go_at_call 151; refine (HER.out _ _ (by omega) (by omega)).mono ?_; rintro e w5 ⟨⟨v5, rfl⟩, hs5⟩)
            go_roundw
            case rel => exact ⟨T.row + 1, _, by go_num, by omega, by omega, HTR.out _ _ hs5, HW1.out, (eraseG_len _ _ _ _ _).trans HL1.out, HSTEP.out⟩
            case measure => (simp [intOf]; try omega)
          · skip
            have HSTEP : Hid (eraseRows { T1 with L := (eraseG T1.W T1.L r 0 ((T.W : Int))).1 } first 0 T.row T.col (T.row + 1 - (r + 1)) = R) := Lib.hid (by
              have h := (eraseRows_step (T1 := T1) (fr := first) (fc := 0) (tr := T.row) (tc := T.col) hle).symm.trans HR1.out
              rw [if_pos hA, if_neg hZ, show ((T1.W : Int) - 1) + 1 = (T.W : Int) by rw [HW1.out]; omega] at h
              exact h)
            subst hA
            have hZi : ¬ (r : Int) = (T.row : Int) := by omega
            clear hZ
            go_wp2_with (go_at_call 151; refine (HER.out _ _ (by omega) (by omega)).mono ?_; rintro e w5 ⟨⟨v5, rfl⟩, hs5⟩)
            go_roundw
            case rel => exact ⟨r + 1, _, by go_num, by omega, by omega, HTR.out _ _ hs5, HW1.out, (eraseG_len _ _ _ _ _).trans HL1.out, HSTEP.out⟩
            case measure => (simp [intOf]; try omega)
        · by_cases hZ : r = T.row
          · skip
            have HSTEP : Hid (eraseRows { T1 with L := (eraseG T1.W T1.L r 0 ((T.col : Int) + 1)).1 } first 0 T.row T.col (T.row + 1 - (r + 1)) = R) := Lib.hid (by
              have h := (eraseRows_step (T1 := T1) (fr := first) (fc := 0) (tr := T.row) (tc := T.col) hle).symm.trans HR1.out
              rw [if_neg hA, if_pos hZ, show (((T.col : Nat) : Int)) + 1 = (T.col : Int) + 1 by omega] at h
              exact h)
            have hAi : ¬ (r : Int) = (first : Int) := by omega
            clear hA
            subst hZ
            go_wp2_with (go_at_call 151; refine (HER.out _ _ (by omega) (by omega)).mono ?_; rintro e w5 ⟨⟨v5, rfl⟩, hs5⟩)
            go_roundw
            case rel => exact ⟨T.row + 1, _, by go_num, by omega, by omega, HTR.out _ _ hs5, HW1.out, (eraseG_len _ _ _ _ _).trans HL1.out, HSTEP.out⟩
            case measure => (simp [intOf]; try omega)
          · skip
            have HSTEP : Hid (eraseRows { T1 with L := (eraseG T1.W T1.L r 0 ((T.W : Int))).1 } first 0 T.row T.col (T.row + 1 - (r + 1)) = R) := Lib.hid (by
              have h := (eraseRows_step (T1 := T1) (fr := first) (fc := 0) (tr := T.row) (tc := T.col) hle).symm.trans HR1.out
              rw [if_neg hA, if_neg hZ, show ((T1.W : Int) - 1) + 1 = (T.W : Int) by rw [HW1.out]; omega] at h
              exact h)
            have hAi : ¬ (r : Int) = (first : Int) := by omega
            clear hA
            have hZi : ¬ (r : Int) = (T.row : Int) := by omega
            clear hZ
            go_wp2_with (go_at_call 151; refine (HER.out _ _ (by omega) (by omega)).mono ?_; rintro e w5 ⟨⟨v5, rfl⟩, hs5⟩)
            go_roundw
            case rel => exact ⟨r + 1, _, by go_num, by omega, by omega, HTR.out _ _ hs5, HW1.out, (eraseG_len _ _ _ _ _).trans HL1.out, HSTEP.out⟩
            case measure => (simp [intOf]; try omega)
      · have hlei : ¬ (r : Int) ≤ (T.row : Int) := by omega
        go_wp2_with (fail)
        go_end0
        have he := HR1.out
        rw [eraseRows_end (by omega)] at he
        have hfin := TmStep.bel_then HB3.out (HTR.out T1 wr (TmStep.refl HT1.out))
        rw [he] at hfin
        exact ⟨rfl, hfin⟩
  by_cases h2 : what = 2
  · subst h2
    obtain ⟨R, hR⟩ : ∃ R, R = eraseT T 2 first last := ⟨_, rfl⟩
    rw [← hR]
    have HR := Lib.hid (hR.trans ((if_neg (by decide)).trans ((if_neg (by decide)).trans (if_pos rfl))))
    clear hR
    go_enter Tryz.func135, Tryz.ntmps135
    go_wp2_with (fail)
    refine HS.out.mono ?_
    rintro e w1 ⟨rfl, hb1⟩
    have H1 := Lib.hid (H.out.below hb1)
    have HB1 := Lib.hid hb1
    clear hb1
    go_upto_region 2 with fail
    obtain ⟨W2, hW2⟩ : ∃ W, W = (w1.alloc (.cells #[.int .i64 first, .int .i64 0] 56)).alloc (.cells #[.int .i64 last, .int .i64 ((T.W : Int) - 1)] 56) := ⟨_, rfl⟩
    have HN10' := Lib.hid (show Blk W2 w1.heap.size 56 [.int .i64 first, .int .i64 0] by rw [hW2]; exact (Blk.new w1 56 [.int .i64 first, .int .i64 0]).alloc _)
    have HN11' := Lib.hid (show Blk W2 (w1.heap.size + 1) 56 [.int .i64 last, .int .i64 ((T.W : Int) - 1)] by rw [hW2]; have := Blk.new (w1.alloc (.cells #[.int .i64 first, .int .i64 0] 56)) 56 [.int .i64 last, .int .i64 ((T.W : Int) - 1)]; rw [World.size_alloc] at this; exact this)
    have HB2 := Lib.hid (show Below w.heap.size w W2 by rw [hW2]; exact (HB1.out.alloc HB1.out.size _).alloc (by have := HB1.out.size; simp; omega) _)
    rw [← hW2]
    have k2 : W2.cell? ⟨t, 2, none⟩ = some (.int .i64 T.row) := (H.out.below HB2.out).cell 2 (by omega)
    have k3 : W2.cell? ⟨t, 3, none⟩ = some (.int .i64 T.col) := (H.out.below HB2.out).cell 3 (by omega)
    clear hW2
    go_upto_region 8 with fail
    have HN10 := HN10'
    have HN11 := HN11'
    have HB3 := HB2
    clear k2 k3
    have hpo : ∀ k, TmOwn t g rb bs k → k < w.heap.size := fun k hk => hk.elim (fun e => e ▸ H.out.lt) (fun hk => H.out.grid.own_lt k hk)
    have HPO := Lib.hid hpo
    have HBS3 := Lib.hid (HBS.out.below HB3.out)
    have H3 := Lib.hid (H.out.below HB3.out)
    clear hpo
    have q10 : W2.cell? ⟨w1.heap.size, 0, none⟩ = _ := HN10.out.cell 0
    simp only [List.getElem?_cons_zero] at q10
    go_wp2_with (fail)
    clear q10
    go_loopw [12] (fun v wr => ∃ (r : Nat) (T1 : TS), v = .int .i64 r ∧ first ≤ r ∧ r ≤ last + 1 ∧ TmStep W2 lo t g rb bs T1 B wr ∧ T1.W = T.W ∧ T1.L.length = T.L.length ∧ eraseRows T1 first 0 last (T.W - 1) (last + 1 - r) = R) (fun v _ => last + 1 - (intOf v).toNat)
    case atStart => exact ⟨first, T, rfl, by omega, by omega, TmStep.refl H3.out, rfl, rfl, HR.out.symm⟩
    case round =>
      rename_i wr
      obtain ⟨r, T1, rfl, hr1, hr2, hst, hW1, hL1, hR⟩ := hrel
      obtain ⟨bs1, ht1, ho1, hc1⟩ := hst
      have HR1 := Lib.hid hR
      have HT1 := Lib.hid ht1
      have HO1 := Lib.hid ho1
      have HC1 := Lib.hid hc1
      have HW1 := Lib.hid hW1
      have HL1 := Lib.hid hL1
      have c10 : wr.cell? ⟨w1.heap.size, 0, none⟩ = some (.int .i64 first) := hc1.cell (HN10.out.cell 0) (fun e => by have h1 : _ < w.heap.size := HPO.out _ e; have h2 := HB1.out.size; dsimp only at h1; omega)
      have c11 : wr.cell? ⟨w1.heap.size, 1, none⟩ = some (.int .i64 0) := hc1.cell (HN10.out.cell 1) (fun e => by have h1 : _ < w.heap.size := HPO.out _ e; have h2 := HB1.out.size; dsimp only at h1; omega)
      have d10 : wr.cell? ⟨w1.heap.size + 1, 0, none⟩ = some (.int .i64 last) := hc1.cell (HN11.out.cell 0) (fun e => by have h1 : _ < w.heap.size := HPO.out _ e; have h2 := HB1.out.size; dsimp only at h1; omega)
      have d11 : wr.cell? ⟨w1.heap.size + 1, 1, none⟩ = some (.int .i64 ((T.W : Int) - 1)) := hc1.cell (HN11.out.cell 1) (fun e => by have h1 : _ < w.heap.size := HPO.out _ e; have h2 := HB1.out.size; dsimp only at h1; omega)
      have kg : wr.cell? ⟨t, 1, none⟩ = some (.pointer (some ⟨g, 0, none⟩)) := ht1.cell 1 (by omega)
      have HER : Hid (∀ a z : Int, -9223372036854775808 ≤ a → a ≤ 9223372036854775807 → Calls Tryz.prog 151 #[.pointer (some ⟨g, 0, none⟩), .int .i64 r, .int .i64 a, .int .i64 z] wr fun e w' => (∃ v, e = .returned v) ∧ TmStep wr lo t g rb bs1 { T1 with L := (eraseG T1.W T1.L r a z).1 } B w') := Lib.hid (fun a z ha hz => by
        have hb := HBS3.out.chg hc1 (fun k hk => H.out.own_lo hk)
        refine (erase_any ht1.grid hb.bl hb.b1 r a z ha hz).mono ?_
        rintro e w' ⟨rfl, hg, hc⟩
        obtain ⟨xs, h1, h2, h3⟩ := ht1.blk
        exact ⟨⟨_, rfl⟩, bs1, ⟨⟨xs, h1, h2, h3.chg hc (fun hk => ht1.ne_g hk rfl)⟩, hg, ht1.lot, by show T1.row < _; rw [eraseG_len]; exact ht1.row, ht1.col, ht1.b32⟩, fun _ h => .inl h, hc.mono (fun k hk => .inl (.inr hk))⟩)
      have HTR : Hid (∀ T2 w', TmStep wr lo t g rb bs1 T2 B w' → TmStep W2 lo t g rb bs T2 B w') := Lib.hid (fun T2 w' h2 => TmStep.trans ho1 hc1 h2)
      have hri : IntKind.i64.wrap ((r : Int) + 1) = (r : Int) + 1 := IntWalk.i64_in _ (by omega)
      have hwz : IntKind.i64.wrap ((T.W : Int) - 1 + 1) = (T.W : Int) - 1 + 1 := IntWalk.i64_in _ (by omega)
      have hcz : IntKind.i64.wrap ((T.col : Int) + 1) = (T.col : Int) + 1 := IntWalk.i64_in _ (by omega)
      clear hR ht1 ho1 hc1 hW1 hL1
      by_cases hle : r ≤ last
      · have hlei : (r : Int) ≤ (last : Int) := by omega
        by_cases hA : r = first
        · by_cases hZ : r = last
          · skip
            have HSTEP : Hid (eraseRows { T1 with L := (eraseG T1.W T1.L r 0 ((T.W : Int))).1 } first 0 last (T.W - 1) (last + 1 - (r + 1)) = R) := Lib.hid (by
              have h := (eraseRows_step (T1 := T1) (fr := first) (fc := 0) (tr := last) (tc := (T.W - 1)) hle).symm.trans HR1.out
              rw [if_pos hA, if_pos hZ, show ((((T.W - 1) : Nat) : Int)) + 1 = (T.W : Int) by omega] at h
              exact h)
            subst hA
            subst hZ
            go_wp2_with (go_at_call 151; refine (HER.out _ _ (by omega) (by omega)).mono ?_; rintro e w5 ⟨⟨v5, rfl⟩, hs5⟩)
            go_roundw
            case rel => exact ⟨r + 1, _, by go_num, by omega, by omega, HTR.out _ _ hs5, HW1.out, (eraseG_len _ _ _ _ _).trans HL1.out, HSTEP.out⟩
            case measure => (simp [intOf]; try omega)
          · skip
            have HSTEP : Hid (eraseRows { T1 with L := (eraseG T1.W T1.L r 0 ((T.W : Int))).1 } first 0 last (T.W - 1) (last + 1 - (r + 1)) = R) := Lib.hid (by
              have h := (eraseRows_step (T1 := T1) (fr := first) (fc := 0) (tr := last) (tc := (T.W - 1)) hle).symm.trans HR1.out
              rw [if_pos hA, if_neg hZ, show ((T1.W : Int) - 1) + 1 = (T.W : Int) by rw [HW1.out]; omega] at h
              exact h)
            subst hA
            have hZi : ¬ (r : Int) = (last : Int) := by omega
            clear hZ
            go_wp2_with (go_at_call 151; refine (HER.out _ _ (by omega) (by omega)).mono ?_; rintro e w5 ⟨⟨v5, rfl⟩, hs5⟩)
            go_roundw
            case rel => exact ⟨r + 1, _, by go_num, by omega, by omega, HTR.out _ _ hs5, HW1.out, (eraseG_len _ _ _ _ _).trans HL1.out, HSTEP.out⟩
            case measure => (simp [intOf]; try omega)
        · by_cases hZ : r = last
          · skip
            have HSTEP : Hid (eraseRows { T1 with L := (eraseG T1.W T1.L r 0 ((T.W : Int))).1 } first 0 last (T.W - 1) (last + 1 - (r + 1)) = R) := Lib.hid (by
              have h := (eraseRows_step (T1 := T1) (fr := first) (fc := 0) (tr := last) (tc := (T.W - 1)) hle).symm.trans HR1.out
              rw [if_neg hA, if_pos hZ, show ((((T.W - 1) : Nat) : Int)) + 1 = (T.W : Int) by omega] at h
              exact h)
            have hAi : ¬ (r : Int) = (first : Int) := by omega
            clear hA
            subst hZ
            go_wp2_with (go_at_call 151; refine (HER.out _ _ (by omega) (by omega)).mono ?_; rintro e w5 ⟨⟨v5, rfl⟩, hs5⟩)
            go_roundw
            case rel => exact ⟨r + 1, _, by go_num, by omega, by omega, HTR.out _ _ hs5, HW1.out, (eraseG_len _ _ _ _ _).trans HL1.out, HSTEP.out⟩
            case measure => (simp [intOf]; try omega)
          · skip
            have HSTEP : Hid (eraseRows { T1 with L := (eraseG T1.W T1.L r 0 ((T.W : Int))).1 } first 0 last (T.W - 1) (last + 1 - (r + 1)) = R) := Lib.hid (by
              have h := (eraseRows_step (T1 := T1) (fr := first) (fc := 0) (tr := last) (tc := (T.W - 1)) hle).symm.trans HR1.out
              rw [if_neg hA, if_neg hZ, show ((T1.W : Int) - 1) + 1 = (T.W : Int) by rw [HW1.out]; omega] at h
              exact h)
            have hAi : ¬ (r : Int) = (first : Int) := by omega
            clear hA
            have hZi : ¬ (r : Int) = (last : Int) := by omega
            clear hZ
            go_wp2_with (go_at_call 151; refine (HER.out _ _ (by omega) (by omega)).mono ?_; rintro e w5 ⟨⟨v5, rfl⟩, hs5⟩)
            go_roundw
            case rel => exact ⟨r + 1, _, by go_num, by omega, by omega, HTR.out _ _ hs5, HW1.out, (eraseG_len _ _ _ _ _).trans HL1.out, HSTEP.out⟩
            case measure => (simp [intOf]; try omega)
      · have hlei : ¬ (r : Int) ≤ (last : Int) := by omega
        go_wp2_with (fail)
        go_end0
        have he := HR1.out
        rw [eraseRows_end (by omega)] at he
        have hfin := TmStep.bel_then HB3.out (HTR.out T1 wr (TmStep.refl HT1.out))
        rw [he] at hfin
        exact ⟨rfl, hfin⟩
  · skip
    obtain ⟨R, hR⟩ : ∃ R, R = eraseT T what first last := ⟨_, rfl⟩
    rw [← hR]
    have HR := Lib.hid (hR.trans ((if_neg h0).trans ((if_neg h1).trans (if_neg h2))))
    clear hR
    go_enter Tryz.func135, Tryz.ntmps135
    go_wp2_with (fail)
    refine HS.out.mono ?_
    rintro e w1 ⟨rfl, hb1⟩
    have HB1 := Lib.hid hb1
    clear hb1
    go_wp2_with (fail)
    refine bodyPost_ret (results_none rfl _ _ _) rfl ?_
    rw [HR.out]
    exact ⟨rfl, TmStep.bel H.out ((HB1.out.alloc HB1.out.size _).alloc (by have := HB1.out.size; simp; omega) _)⟩
end
end Go.Proofs.YtfmkeeaenjeneaaGreatDoor

namespace Go.Proofs.YtfmkeeaenjeneaaGreatDoor
open Go.RowKit
set_option linter.unusedVariables false
set_option linter.unusedSimpArgs false

section
variable {w : World} {lo t g rb : Nat} {bs : List Nat} {T : TS} {B : List UInt8}
set_option maxRecDepth 100000 in
set_option maxHeartbeats 8000000 in
theorem plain_any (h : TmAt w lo t g rb bs T B) (hbase : Base w lo) (n m : Int) (hn0 : 0 ≤ n) (hn1 : n ≤ 9999) (hm0 : 0 ≤ m) (hm1 : m ≤ 9999) (f : UInt8) :
    Calls Tryz.prog 101 #[.pointer (some ⟨t, 0, none⟩), .int .i64 n, .int .i64 m, .int .u8 f.toNat] w fun e w' => e = .returned (.tuple #[]) ∧ TmStep w lo t g rb bs (plainT T n m f) B w' := by
  have HS := Lib.hid (tsize_yes h)
  have hw1 := h.grid.w1
  have hw5 := h.grid.w5
  have hh1 := h.grid.h1
  have hh5 := h.grid.h5
  have hrow := h.row
  have hcol := h.col
  have H := Lib.hid h
  have HBS := Lib.hid hbase
  clear h hbase
  obtain ⟨R, hR⟩ : ∃ R, R = plainT T n m f := ⟨_, rfl⟩
  rw [← hR]
  have HR := Lib.hid hR
  clear hR
  by_cases h65 : f = 65
  · subst h65
    have HE : Hid (R = moveT T ((T.row : Int) - max n 1) ((T.col : Int))) := Lib.hid (HR.out.trans (if_pos rfl))
    have hwr : IntKind.i64.wrap ((T.row : Int) - max n 1) = (T.row : Int) - max n 1 := IntWalk.i64_in _ (by omega)
    have hwc : IntKind.i64.wrap ((T.col : Int)) = (T.col : Int) := IntWalk.i64_in _ (by omega)
    go_enter Tryz.func101, Tryz.ntmps101
    go_wp2_with (fail)
    refine HS.out.mono ?_
    rintro e w1 ⟨rfl, hb1⟩
    have HB1 := Lib.hid hb1
    have H1 := Lib.hid (H.out.below hb1)
    clear hb1
    go_wp2_with (fail)
    refine (cursor_yes H1.out).mono ?_
    rintro e w2 ⟨rfl, hb2⟩
    have HB2 := Lib.hid (HB1.out.trans (hb2.mono HB1.out.size))
    have H2 := Lib.hid (H1.out.below hb2)
    have HBS2 := Lib.hid (HBS.out.below HB2.out)
    clear hb2
    go_wp2_with (go_at_call 71; refine (move_any H2.out _ _ (by omega) (by omega) (by omega) (by omega)).mono ?_; rintro e w5 ⟨rfl, hs5⟩)
    go_end0
    rw [HE.out]
    exact ⟨rfl, TmStep.bel_then HB2.out hs5⟩
  by_cases h66 : f = 66
  · subst h66
    have HE : Hid (R = moveT T ((T.row : Int) + max n 1) ((T.col : Int))) := Lib.hid (HR.out.trans ((if_neg (by decide)).trans (if_pos rfl)))
    have hwr : IntKind.i64.wrap ((T.row : Int) + max n 1) = (T.row : Int) + max n 1 := IntWalk.i64_in _ (by omega)
    have hwc : IntKind.i64.wrap ((T.col : Int)) = (T.col : Int) := IntWalk.i64_in _ (by omega)
    go_enter Tryz.func101, Tryz.ntmps101
    go_wp2_with (fail)
    refine HS.out.mono ?_
    rintro e w1 ⟨rfl, hb1⟩
    have HB1 := Lib.hid hb1
    have H1 := Lib.hid (H.out.below hb1)
    clear hb1
    go_wp2_with (fail)
    refine (cursor_yes H1.out).mono ?_
    rintro e w2 ⟨rfl, hb2⟩
    have HB2 := Lib.hid (HB1.out.trans (hb2.mono HB1.out.size))
    have H2 := Lib.hid (H1.out.below hb2)
    have HBS2 := Lib.hid (HBS.out.below HB2.out)
    clear hb2
    go_wp2_with (go_at_call 71; refine (move_any H2.out _ _ (by omega) (by omega) (by omega) (by omega)).mono ?_; rintro e w5 ⟨rfl, hs5⟩)
    go_end0
    rw [HE.out]
    exact ⟨rfl, TmStep.bel_then HB2.out hs5⟩
  by_cases h67 : f = 67
  · subst h67
    have HE : Hid (R = moveT T ((T.row : Int)) ((T.col : Int) + max n 1)) := Lib.hid (HR.out.trans ((if_neg (by decide)).trans ((if_neg (by decide)).trans (if_pos rfl))))
    have hwr : IntKind.i64.wrap ((T.row : Int)) = (T.row : Int) := IntWalk.i64_in _ (by omega)
    have hwc : IntKind.i64.wrap ((T.col : Int) + max n 1) = (T.col : Int) + max n 1 := IntWalk.i64_in _ (by omega)
    go_enter Tryz.func101, Tryz.ntmps101
    go_wp2_with (fail)
    refine HS.out.mono ?_
    rintro e w1 ⟨rfl, hb1⟩
    have HB1 := Lib.hid hb1
    have H1 := Lib.hid (H.out.below hb1)
    clear hb1
    go_wp2_with (fail)
    refine (cursor_yes H1.out).mono ?_
    rintro e w2 ⟨rfl, hb2⟩
    have HB2 := Lib.hid (HB1.out.trans (hb2.mono HB1.out.size))
    have H2 := Lib.hid (H1.out.below hb2)
    have HBS2 := Lib.hid (HBS.out.below HB2.out)
    clear hb2
    go_wp2_with (go_at_call 71; refine (move_any H2.out _ _ (by omega) (by omega) (by omega) (by omega)).mono ?_; rintro e w5 ⟨rfl, hs5⟩)
    go_end0
    rw [HE.out]
    exact ⟨rfl, TmStep.bel_then HB2.out hs5⟩
  by_cases h68 : f = 68
  · subst h68
    have HE : Hid (R = moveT T ((T.row : Int)) ((T.col : Int) - max n 1)) := Lib.hid (HR.out.trans ((if_neg (by decide)).trans ((if_neg (by decide)).trans ((if_neg (by decide)).trans (if_pos rfl)))))
    have hwr : IntKind.i64.wrap ((T.row : Int)) = (T.row : Int) := IntWalk.i64_in _ (by omega)
    have hwc : IntKind.i64.wrap ((T.col : Int) - max n 1) = (T.col : Int) - max n 1 := IntWalk.i64_in _ (by omega)
    go_enter Tryz.func101, Tryz.ntmps101
    go_wp2_with (fail)
    refine HS.out.mono ?_
    rintro e w1 ⟨rfl, hb1⟩
    have HB1 := Lib.hid hb1
    have H1 := Lib.hid (H.out.below hb1)
    clear hb1
    go_wp2_with (fail)
    refine (cursor_yes H1.out).mono ?_
    rintro e w2 ⟨rfl, hb2⟩
    have HB2 := Lib.hid (HB1.out.trans (hb2.mono HB1.out.size))
    have H2 := Lib.hid (H1.out.below hb2)
    have HBS2 := Lib.hid (HBS.out.below HB2.out)
    clear hb2
    go_wp2_with (go_at_call 71; refine (move_any H2.out _ _ (by omega) (by omega) (by omega) (by omega)).mono ?_; rintro e w5 ⟨rfl, hs5⟩)
    go_end0
    rw [HE.out]
    exact ⟨rfl, TmStep.bel_then HB2.out hs5⟩
  by_cases h71 : f = 71
  · subst h71
    have HE : Hid (R = moveT T ((T.row : Int)) (n - 1)) := Lib.hid (HR.out.trans ((if_neg (by decide)).trans ((if_neg (by decide)).trans ((if_neg (by decide)).trans ((if_neg (by decide)).trans (if_pos rfl))))))
    have hwr : IntKind.i64.wrap ((T.row : Int)) = (T.row : Int) := IntWalk.i64_in _ (by omega)
    have hwc : IntKind.i64.wrap (n - 1) = n - 1 := IntWalk.i64_in _ (by omega)
    go_enter Tryz.func101, Tryz.ntmps101
    go_wp2_with (fail)
    refine HS.out.mono ?_
    rintro e w1 ⟨rfl, hb1⟩
    have HB1 := Lib.hid hb1
    have H1 := Lib.hid (H.out.below hb1)
    clear hb1
    go_wp2_with (fail)
    refine (cursor_yes H1.out).mono ?_
    rintro e w2 ⟨rfl, hb2⟩
    have HB2 := Lib.hid (HB1.out.trans (hb2.mono HB1.out.size))
    have H2 := Lib.hid (H1.out.below hb2)
    have HBS2 := Lib.hid (HBS.out.below HB2.out)
    clear hb2
    go_wp2_with (go_at_call 71; refine (move_any H2.out _ _ (by omega) (by omega) (by omega) (by omega)).mono ?_; rintro e w5 ⟨rfl, hs5⟩)
    go_end0
    rw [HE.out]
    exact ⟨rfl, TmStep.bel_then HB2.out hs5⟩
  by_cases h72 : f = 72
  · subst h72
    have HE : Hid (R = moveT T (n - 1) (m - 1)) := Lib.hid (HR.out.trans ((if_neg (by decide)).trans ((if_neg (by decide)).trans ((if_neg (by decide)).trans ((if_neg (by decide)).trans ((if_neg (by decide)).trans (if_pos rfl)))))))
    have hwr : IntKind.i64.wrap (n - 1) = n - 1 := IntWalk.i64_in _ (by omega)
    have hwc : IntKind.i64.wrap (m - 1) = m - 1 := IntWalk.i64_in _ (by omega)
    go_enter Tryz.func101, Tryz.ntmps101
    go_wp2_with (fail)
    refine HS.out.mono ?_
    rintro e w1 ⟨rfl, hb1⟩
    have HB1 := Lib.hid hb1
    have H1 := Lib.hid (H.out.below hb1)
    clear hb1
    go_wp2_with (fail)
    refine (cursor_yes H1.out).mono ?_
    rintro e w2 ⟨rfl, hb2⟩
    have HB2 := Lib.hid (HB1.out.trans (hb2.mono HB1.out.size))
    have H2 := Lib.hid (H1.out.below hb2)
    have HBS2 := Lib.hid (HBS.out.below HB2.out)
    clear hb2
    go_wp2_with (go_at_call 71; refine (move_any H2.out _ _ (by omega) (by omega) (by omega) (by omega)).mono ?_; rintro e w5 ⟨rfl, hs5⟩)
    go_end0
    rw [HE.out]
    exact ⟨rfl, TmStep.bel_then HB2.out hs5⟩
  by_cases h74 : f = 74
  · subst h74
    have HE : Hid (R = eraseT T n 0 (T.L.length - 1)) := Lib.hid (HR.out.trans ((if_neg (by decide)).trans ((if_neg (by decide)).trans ((if_neg (by decide)).trans ((if_neg (by decide)).trans ((if_neg (by decide)).trans ((if_neg (by decide)).trans (if_pos rfl))))))))
    have hwr : IntKind.i64.wrap ((T.L.length : Int) - 1) = ((T.L.length - 1 : Nat) : Int) := by rw [IntWalk.i64_in _ (by omega)]; omega
    have HER : Hid (∀ W, TmAt W lo t g rb bs T B → Base W lo → Calls Tryz.prog 135 #[.pointer (some ⟨t, 0, none⟩), .int .i64 n, .int .i64 0, .int .i64 (((T.L.length - 1) : Nat) : Int)] W fun e w' => e = .returned (.tuple #[]) ∧ TmStep W lo t g rb bs R B w') := Lib.hid (fun W hW hb => by
      have h := erase_term hW hb n 0 (T.L.length - 1) (by omega) (by omega) (by omega)
      rw [HE.out]
      exact h)
    go_enter Tryz.func101, Tryz.ntmps101
    go_wp2_with (fail)
    refine HS.out.mono ?_
    rintro e w1 ⟨rfl, hb1⟩
    have HB1 := Lib.hid hb1
    have H1 := Lib.hid (H.out.below hb1)
    clear hb1
    go_wp2_with (fail)
    refine (cursor_yes H1.out).mono ?_
    rintro e w2 ⟨rfl, hb2⟩
    have HB2 := Lib.hid (HB1.out.trans (hb2.mono HB1.out.size))
    have H2 := Lib.hid (H1.out.below hb2)
    have HBS2 := Lib.hid (HBS.out.below HB2.out)
    clear hb2
    go_wp2_with (go_at_call 135; refine (HER.out _ H2.out HBS2.out).mono ?_; rintro e w5 ⟨rfl, hs5⟩)
    go_end0
    exact ⟨rfl, TmStep.bel_then HB2.out hs5⟩
  by_cases h75 : f = 75
  · subst h75
    have HE : Hid (R = eraseT T n T.row T.row) := Lib.hid (HR.out.trans ((if_neg (by decide)).trans ((if_neg (by decide)).trans ((if_neg (by decide)).trans ((if_neg (by decide)).trans ((if_neg (by decide)).trans ((if_neg (by decide)).trans ((if_neg (by decide)).trans (if_pos rfl)))))))))
    have hwr : IntKind.i64.wrap ((T.L.length : Int) - 1) = ((T.L.length - 1 : Nat) : Int) := by rw [IntWalk.i64_in _ (by omega)]; omega
    have HER : Hid (∀ W, TmAt W lo t g rb bs T B → Base W lo → Calls Tryz.prog 135 #[.pointer (some ⟨t, 0, none⟩), .int .i64 n, .int .i64 (T.row : Int), .int .i64 ((T.row : Nat) : Int)] W fun e w' => e = .returned (.tuple #[]) ∧ TmStep W lo t g rb bs R B w') := Lib.hid (fun W hW hb => by
      have h := erase_term hW hb n T.row T.row (by omega) (by omega) (by omega)
      rw [HE.out]
      exact h)
    go_enter Tryz.func101, Tryz.ntmps101
    go_wp2_with (fail)
    refine HS.out.mono ?_
    rintro e w1 ⟨rfl, hb1⟩
    have HB1 := Lib.hid hb1
    have H1 := Lib.hid (H.out.below hb1)
    clear hb1
    go_wp2_with (fail)
    refine (cursor_yes H1.out).mono ?_
    rintro e w2 ⟨rfl, hb2⟩
    have HB2 := Lib.hid (HB1.out.trans (hb2.mono HB1.out.size))
    have H2 := Lib.hid (H1.out.below hb2)
    have HBS2 := Lib.hid (HBS.out.below HB2.out)
    clear hb2
    go_wp2_with (go_at_call 135; refine (HER.out _ H2.out HBS2.out).mono ?_; rintro e w5 ⟨rfl, hs5⟩)
    go_end0
    exact ⟨rfl, TmStep.bel_then HB2.out hs5⟩
  · skip
    have i65 : ¬ (f.toNat : Int) = 65 := fun e => h65 (UInt8.toNat_inj.1 (by show f.toNat = 65; omega))
    have i66 : ¬ (f.toNat : Int) = 66 := fun e => h66 (UInt8.toNat_inj.1 (by show f.toNat = 66; omega))
    have i67 : ¬ (f.toNat : Int) = 67 := fun e => h67 (UInt8.toNat_inj.1 (by show f.toNat = 67; omega))
    have i68 : ¬ (f.toNat : Int) = 68 := fun e => h68 (UInt8.toNat_inj.1 (by show f.toNat = 68; omega))
    have i71 : ¬ (f.toNat : Int) = 71 := fun e => h71 (UInt8.toNat_inj.1 (by show f.toNat = 71; omega))
    have i72 : ¬ (f.toNat : Int) = 72 := fun e => h72 (UInt8.toNat_inj.1 (by show f.toNat = 72; omega))
    have i74 : ¬ (f.toNat : Int) = 74 := fun e => h74 (UInt8.toNat_inj.1 (by show f.toNat = 74; omega))
    have i75 : ¬ (f.toNat : Int) = 75 := fun e => h75 (UInt8.toNat_inj.1 (by show f.toNat = 75; omega))
    have HE : Hid (R = T) := Lib.hid (HR.out.trans ((if_neg h65).trans ((if_neg h66).trans ((if_neg h67).trans ((if_neg h68).trans ((if_neg h71).trans ((if_neg h72).trans ((if_neg h74).trans (if_neg h75)))))))))
    clear h65 h66 h67 h68 h71 h72 h74 h75
    go_enter Tryz.func101, Tryz.ntmps101
    go_wp2_with (fail)
    refine HS.out.mono ?_
    rintro e w1 ⟨rfl, hb1⟩
    have HB1 := Lib.hid hb1
    have H1 := Lib.hid (H.out.below hb1)
    clear hb1
    go_wp2_with (fail)
    refine (cursor_yes H1.out).mono ?_
    rintro e w2 ⟨rfl, hb2⟩
    have HB2 := Lib.hid (HB1.out.trans (hb2.mono HB1.out.size))
    have H2 := Lib.hid (H1.out.below hb2)
    have HBS2 := Lib.hid (HBS.out.below HB2.out)
    clear hb2
    go_wp2_with (fail)
    go_end0
    rw [HE.out]
    exact ⟨rfl, TmStep.bel H.out HB2.out⟩
end
end Go.Proofs.YtfmkeeaenjeneaaGreatDoor

