/-
  The iterator over boxes: kept rows, and within each of them kept columns.
-/
import Derived.Test.YtdodogehlnchlaaIterN
import Derived.Test.YtdodogehlnchlaaLySizesL
namespace Go.Proofs.Ytdodogehlnchlaa
open Go.RowKit Go.Shelf Go.Sort
attribute [local go_sem] Oper.semAt_some
set_option linter.unusedVariables false
set_option linter.unusedSimpArgs false

theorem RoundIn.inR {F : Fence} {m : Nat} {P : Program} {l : Nat} {f : FuncId} {tmps : Array Value} {assign body : Code} {w : World} {R : Ending → World → Prop} (l' : Nat) (h : RoundIn F m P l f tmps assign body w R) : RoundIn (F.inRound l') m P l f tmps assign body w R := h
theorem RoundIn.lev {m m' : Nat} {P : Program} {l : Nat} {f : FuncId} {tmps : Array Value} {assign body : Code} {w : World} {R : Ending → World → Prop} (h : RoundIn Fence.wide m P l f tmps assign body w R) : RoundIn Fence.wide m' P l f tmps assign body w R :=
  ⟨h.1, fun c cs _ => h.2 c cs (room_wide _)⟩
theorem Turn.moreF {b : Nat} {f f' : Nat → Prop} {A B : World} (h : Turn b f A B) (hf : ∀ k, f k → f' k) : Turn b f' A B :=
  ⟨h.os, h.tape, h.output, h.size, fun k o ho hk => h.block k o ho (hk.imp id (fun h => ⟨fun e => h.1 (hf _ e), h.2⟩))⟩
theorem AbP.keeps {β : Type} {b base : Nat} {V : World} (hV : V.heap.size ≤ b) : AbP b (fun (_ : β) _ W => KeepsFrom base V W) :=
  fun s f f' A B h ht _ => ⟨Nat.le_trans h.size ht.size, fun k o hk ho hc => ht.block k o (h.same k o hk ho hc) (.inl (by have := (Array.getElem?_eq_some_iff.1 ho).1; omega))⟩
theorem AbP.rk {β : Type} {b base : Nat} {g : Nat → Prop} {V : World} (hV : V.heap.size ≤ b) (hg : ∀ k, g k → k < V.heap.size) : AbP b (fun (_ : β) _ W => Rk base g V W) :=
  fun s f f' A B h ht hf => ⟨h.below.trans ⟨ht.os, ht.tape, ht.output, ht.size, fun k hk => by omega⟩, AbP.keeps (β := β) hV s f f' A B h.keeps ht hf, fun k hk => by
    have hlt := hg k hk
    have hA : k < A.heap.size := Nat.lt_of_lt_of_le hlt h.below.size
    have e := ht.block k _ (Array.getElem?_eq_getElem hA) (.inl (by omega))
    rw [e, ← h.mine k hk, Array.getElem?_eq_getElem hA]⟩
theorem Rk.weak {b b' : Nat} {f f' : Nat → Prop} {A B : World} (h : Rk b f A B) (hb : b ≤ b') (hf : ∀ k, f' k → f k) : Rk b' f' A B :=
  ⟨h.below, ⟨h.keeps.size, fun k o hk ho hc => h.keeps.same k o (by omega) ho hc⟩, fun k hk => h.mine k (hf k hk)⟩

set_option maxRecDepth 100000 in
set_option maxHeartbeats 4000000 in
theorem kept_stopsA (A : Option Addr) (B n : Nat) (b : Nat → Bool) (m : Nat) (bd : Nat) (w : World) (h4 : n ≤ 64) (hA : 0 < n → A = some ⟨B, 0, none⟩) (hbd : Boxed w bd 56 (.slice A n n)) (f0 : Nat → Prop) (f1 : f0 bd) :
    SeqQ Fence.wide (m + 2) Try.prog 46 #[.pointer (some ⟨bd, 0, none⟩)] (encK B) f0 (fun x => x < n ∧ b x = true) (fun ys => ys = ki b n) (fun pre => pre <+: ki b n) n (RdK B n b) w := by
  intro l J Jx W hsz hf0 hJ hJx hrd hY h0
  have hbdW : Boxed W bd 56 (.slice A n n) := (hf0 bd f1).trans hbd
  have hcd := hbdW.cell
  have HY := Lib.hid hY
  have H0 := Lib.hid h0
  have HF0 := Lib.hid hf0
  have HF1 := Lib.hid f1
  have HRD := Lib.hid hrd
  have HBD := Lib.hid hbdW
  have HA := Lib.hid hA
  clear hJ hJx hY h0 hf0 hbd hbdW f1 hrd hA
  refine callsIn_of_wp Try.func46 rfl trivial ?_ rfl
  simp only [Try.ntmps46, List.size_toArray, List.length_cons, List.length_nil, Nat.reduceAdd, Nat.reduceSub, Array.replicate_succ, Array.replicate_zero, List.push_toArray, List.append_toArray, List.nil_append, List.cons_append]
  gi_wp2_with (fail)
  clear hcd
  gi_loopw [6] (fun v wr => ∃ k : Nat, v = .int .i64 k ∧ k ≤ n ∧ J (ki b k) f0 wr ∧ (∀ j, f0 j → wr.heap[j]? = W.heap[j]?)) (fun v _ => n - (intOf v).toNat)
  case atStart => exact ⟨0, rfl, by omega, H0.out, fun _ _ => rfl⟩
  case round =>
    obtain ⟨k, rfl, hk, hj, hf⟩ := hrel
    have HJp := Lib.hid hj
    have HFF := Lib.hid hf
    clear hj hf
    by_cases hlt : k < n
    · have hki : (k : Int) < n := by omega
      obtain rfl := HA.out (by omega)
      have hcd : wr.cell? ⟨bd, 0, none⟩ = some (.slice (some ⟨B, 0, none⟩) n n) := Boxed.cell ((HFF.out bd HF1.out).trans HBD.out)
      have hrow := HRD.out _ _ _ HJp.out k hlt
      cases hbk : b k with
      | true =>
        rw [hbk] at hrow
        have htk := ki_yes hbk
        have hlk : (ki b k).length < n := by have := ki_len b k; omega
        have hyy := HY.out _ k f0 _ HJp.out hlk ⟨hlt, hbk⟩
        have HTK := Lib.hid htk
        have HPX : Hid (ki b k ++ [k] <+: ki b n) := by
          show _ <+: _
          rw [← htk]
          exact ki_prefix b (by omega)
        obtain ⟨fn, tmps, assign, body, hy, hR⟩ := hyy
        simp only [encK] at hy
        clear htk hlk hbk
        gi_wp2
        refine hR.mono ?_
        rintro e W3 (⟨rfl, hJ3, hk3⟩ | ⟨rfl, hJ3, hk3⟩)
        · have hJ4 : J (ki b (k + 1)) f0 W3 := by rw [HTK.out]; exact hJ3
          have hf4 : ∀ j, f0 j → W3.heap[j]? = W.heap[j]? := fun j hj => (hk3.mine j hj).trans (HFF.out j hj)
          gi_wp2
          exact ⟨⟨k + 1, by go_num, by omega, hJ4, hf4⟩, by simp only [intOf]; omega⟩
        · gi_wp2
          refine bodyPost_ret (results_none rfl _ _ _) rfl ?_
          exact ⟨⟨_, rfl⟩, .inr ⟨_, f0, HPX.out, hJ3⟩⟩
      | false =>
        rw [hbk] at hrow
        have htk := ki_no hbk
        have HTK := Lib.hid htk
        clear htk hbk
        gi_wp2
        refine ⟨(fun _ h => by cases h), ?_⟩
        gi_wp2
        exact ⟨⟨k + 1, by go_num, by omega, by rw [HTK.out]; exact HJp.out, HFF.out⟩, by simp only [intOf]; omega⟩
    · have hkn : k = n := by omega
      have hki : ¬ (k : Int) < n := by omega
      have hfin := HJp.out
      rw [hkn] at hfin
      gi_wp2
      go_end0
      first | exact ⟨⟨_, rfl⟩, .inl ⟨_, f0, rfl, hfin⟩⟩ | exact ⟨⟨_, rfl⟩, .inl ⟨f0, hfin⟩⟩

structure Bx where
  r : Int
  c : Int
  h : Int
  w : Int
def bxC (b : Bx) : List Value := [.int .i64 b.r, .int .i64 b.c, .int .i64 b.h, .int .i64 b.w]
def bxOf (s t : Slt) : Bx := ⟨s.a, t.a, s.sz, t.sz⟩
def encB (x : Nat × Bx) : Array Value := #[.int .i64 x.1, .agg #[.int .i64 x.2.r, .int .i64 x.2.c, .int .i64 x.2.h, .int .i64 x.2.w]]
def rowB (σ τ : Sts) (i : Nat) (l : List Nat) : List Bx := l.map fun j => bxOf (σ i) (τ j)
def flL (σ τ : Sts) (kj l : List Nat) : List Bx := l.flatMap fun i => rowB σ τ i kj
def lnB (L : List Bx) : List (Nat × Bx) := L.zipIdx.map fun x => (x.2, x.1)
theorem lnB_length (L : List Bx) : (lnB L).length = L.length := by simp [lnB]
theorem lnB_snoc (L : List Bx) (b : Bx) : lnB (L ++ [b]) = lnB L ++ [(L.length, b)] := by simp [lnB, List.zipIdx_append]
theorem lnB_prefix {A B : List Bx} (h : A <+: B) : lnB A <+: lnB B := by
  obtain ⟨s, rfl⟩ := h
  unfold lnB
  rw [List.zipIdx_append, List.map_append]
  exact List.prefix_append _ _
def boxL (σ : Sts) (n : Nat) (τ : Sts) (m : Nat) : List Bx := flL σ τ (ki (kpO τ) m) (ki (kpO σ) n)
theorem flL_snoc (σ τ : Sts) (kj l : List Nat) (i : Nat) : flL σ τ kj (l ++ [i]) = flL σ τ kj l ++ rowB σ τ i kj := by simp [flL]
theorem rowB_snoc (σ τ : Sts) (i : Nat) (l : List Nat) (j : Nat) : rowB σ τ i (l ++ [j]) = rowB σ τ i l ++ [bxOf (σ i) (τ j)] := by simp [rowB]
theorem rowB_length (σ τ : Sts) (i : Nat) (l : List Nat) : (rowB σ τ i l).length = l.length := by simp [rowB]
theorem flL_length (σ τ : Sts) (kj l : List Nat) : (flL σ τ kj l).length = l.length * kj.length := by
  induction l with
  | nil => simp [flL]
  | cons a l ih => simp only [flL, List.flatMap_cons, List.length_append, rowB_length, List.length_cons] at *; rw [ih, Nat.succ_mul]; omega
theorem fl_prefix {σ τ : Sts} {kj K p q : List Nat} {x : Nat} (h : p ++ [x] <+: K) (hq : q <+: kj) : flL σ τ kj p ++ rowB σ τ x q <+: flL σ τ kj K := by
  obtain ⟨s, rfl⟩ := h
  obtain ⟨t, rfl⟩ := hq
  refine ⟨rowB σ τ x t ++ flL σ τ (q ++ t) s, ?_⟩
  simp [flL, rowB]
theorem told_lt {σ τ : Sts} {n m : Nat} {p q : List Nat} {x : Nat} (hp : p.length < n) (hq : q.length < m) : (flL σ τ (ki (kpO τ) m) p ++ rowB σ τ x q).length < n * m := by
  rw [List.length_append, flL_length, rowB_length]
  have h1 := ki_len (kpO τ) m
  have h2 : p.length * (ki (kpO τ) m).length ≤ p.length * m := Nat.mul_le_mul_left _ h1
  have h3 : (p.length + 1) * m ≤ n * m := Nat.mul_le_mul_right m hp
  rw [Nat.succ_mul] at h3
  omega
/-- what the iterator over boxes keeps -/
structure BxS (B1 B2 D C yb l : Nat) (A1 A2 : Option Addr) (n m : Nat) (σ τ : Sts) (V : World) : Prop where
  s1 : 0 < n → Blk V B1 62 (slB σ n)
  s2 : 0 < m → Blk V B2 62 (slB τ m)
  d : Boxed V D 56 (.slice A1 n n)
  c : Boxed V C 56 (.slice A2 m m)
  y : Boxed V yb 83 (.func (.yield l) #[] #[])
theorem BxS.keep {B1 B2 D C yb l n m : Nat} {A1 A2 : Option Addr} {σ τ : Sts} {V V' : World} (h : BxS B1 B2 D C yb l A1 A2 n m σ τ V) (hk : ∀ k o, V.heap[k]? = some o → ((k = B1 ∧ 0 < n) ∨ (k = B2 ∧ 0 < m) ∨ k = D ∨ k = C ∨ k = yb) → V'.heap[k]? = some o) : BxS B1 B2 D C yb l A1 A2 n m σ τ V' :=
  ⟨fun hn => hk _ _ (h.s1 hn) (.inl ⟨rfl, hn⟩), fun hm => hk _ _ (h.s2 hm) (.inr (.inl ⟨rfl, hm⟩)), hk _ _ h.d (.inr (.inr (.inl rfl))), hk _ _ h.c (.inr (.inr (.inr (.inl rfl)))), hk _ _ h.y (.inr (.inr (.inr (.inr rfl))))⟩
theorem BxS.below {B1 B2 D C yb l n m : Nat} {A1 A2 : Option Addr} {σ τ : Sts} {V V' : World} (h : BxS B1 B2 D C yb l A1 A2 n m σ τ V) (hb : Below V.heap.size V V') : BxS B1 B2 D C yb l A1 A2 n m σ τ V' :=
  h.keep fun k o ho _ => by rw [hb.block k (Array.getElem?_eq_some_iff.1 ho).1]; exact ho
theorem BxS.rd1 {B1 B2 D C yb l n m : Nat} {A1 A2 : Option Addr} {σ τ : Sts} {V : World} (h : BxS B1 B2 D C yb l A1 A2 n m σ τ V) : RdK B1 n (kpO σ) V := fun i hi => RdK.blk (h.s1 (by omega)) i hi
theorem BxS.rd2 {B1 B2 D C yb l n m : Nat} {A1 A2 : Option Addr} {σ τ : Sts} {V : World} (h : BxS B1 B2 D C yb l A1 A2 n m σ τ V) : RdK B2 m (kpO τ) V := fun i hi => RdK.blk (h.s2 (by omega)) i hi
end Go.Proofs.Ytdodogehlnchlaa
