/-
  Walks: Back of a buffer, and its iterator.
-/
import Derived.Test.YtfhfhjcdeeepbaaGreatDoorGpNob3
import Derived.Test.YtfhfhjcdeeepbaaGreatDoorGpAcc
import Derived.Test.YtfhfhjcdeeepbaaGreatDoorRegK
import Derived.Test.YtfhfhjcdeeepbaaGreatDoorGpFinds
import Derived.Test.YtfhfhjcdeeepbaaGreatDoorGpTold
namespace Go.Proofs.YtfhfhjcdeeepbaaGreatDoor
open Go.RowKit Go.Shelf Go.Sort
attribute [local go_sem] Oper.semAt_some
set_option linter.unusedVariables false
set_option linter.unusedSimpArgs false

theorem ats_rev {l : List (List UInt8)} {k : Nat} (h : k < l.length) : (ats l).reverse[l.length - (k + 1)]? = some (k, l[k]) := by
  rw [List.getElem?_reverse (by rw [ats_length]; omega), ats_length, show l.length - 1 - (l.length - (k + 1)) = k by omega, ats_get h]

set_option maxRecDepth 100000 in
set_option maxHeartbeats 4000000 in
theorem sback_stops (line : List (List UInt8)) (L c : Nat) (X : Option Addr) (m : Nat) (bd : Nat) (w : World) (hL : line.length = L) (h4 : L ≤ 4096) (hS : Sl w w.heap.size X (sv line)) (hbd : Boxed w bd 38 (.slice X L c)) (f0 : Nat → Prop) (f1 : f0 bd) (f2 : ∀ k, blk X = some k → f0 k) :
    SeqP Fence.wide (m + 2) Tryz.prog 122 #[.pointer (some ⟨bd, 0, none⟩)] encG f0 (fun x => line[x.1]? = some x.2) (fun ys => ys = (ats line).reverse) (fun pre => pre <+: (ats line).reverse) L w := by
  intro l J Jx W hsz hf0 hJ hJx hY h0
  have hbdW : Boxed W bd 38 (.slice X L c) := (hf0 bd f1).trans hbd
  have hcd := hbdW.cell
  have HY := Lib.hid hY
  have H0 := Lib.hid h0
  have HS := Lib.hid hS
  have HF0 := Lib.hid hf0
  have HFR := Lib.hid f2
  have HF1 := Lib.hid f1
  have HLL := Lib.hid hL
  have HBD := Lib.hid hbdW
  clear hJ hJx hY h0 hf0 hbd hbdW hS f2 f1 hL
  refine callsIn_of_wp Tryz.func122 rfl trivial ?_ rfl
  simp only [Tryz.ntmps122, List.size_toArray, List.length_cons, List.length_nil, Nat.reduceAdd, Nat.reduceSub, Array.replicate_succ, Array.replicate_zero, List.push_toArray, List.append_toArray, List.nil_append, List.cons_append]
  gi_wp2
  gi_loopw [3] (fun v wr => ∃ k : Nat, v = .int .i64 ((k : Int) - 1) ∧ k ≤ L ∧ J ((ats line).reverse.take (L - k)) f0 wr ∧ (∀ j, f0 j → wr.heap[j]? = W.heap[j]?)) (fun v _ => (intOf v + 1).toNat)
  case atStart => exact ⟨L, by go_num, by omega, by rw [Nat.sub_self]; exact H0.out, fun _ _ => rfl⟩
  case round =>
    obtain ⟨k, rfl, hk, hj, hf⟩ := hrel
    have HJp := Lib.hid hj
    have HFF := Lib.hid hf
    clear hj hf
    by_cases hlt : 0 < k
    · obtain ⟨i, rfl⟩ : ∃ i, k = i + 1 := ⟨k - 1, by omega⟩
      rw [show ((i + 1 : Nat) : Int) - 1 = (i : Int) by omega]
      have hki : (i : Int) ≥ 0 := by omega
      have hil : (i : Int) < L := by omega
      have hkl : i < line.length := by rw [HLL.out]; omega
      obtain ⟨b, off, hA2, hbb, hcell⟩ := sv_at HS.out hkl
      subst hA2
      have hrow : wr.cell? ⟨b, off + i, none⟩ = some (.string ⟨(line[i]).toArray⟩) := (World.cell?_of_block (w := w) (a := ⟨b, off + i, none⟩) ((HFF.out b (HFR.out b rfl)).trans (HF0.out b (HFR.out b rfl)))).trans hcell
      have hcr : wr.cell? ⟨bd, 0, none⟩ = some (.slice (some ⟨b, off, none⟩) L c) := (World.cell?_of_block (w := W) (a := ⟨bd, 0, none⟩) (HFF.out bd HF1.out)).trans hcd
      have hx := ats_rev hkl
      rw [HLL.out] at hx
      have htk : (ats line).reverse.take (L - i) = (ats line).reverse.take (L - (i + 1)) ++ [(i, line[i])] := by
        rw [show L - i = (L - (i + 1)) + 1 by omega, List.take_add_one, hx]; rfl
      have hlk : ((ats line).reverse.take (L - (i + 1))).length < L := by rw [List.length_take, List.length_reverse, ats_length]; omega
      have hyy := HY.out _ (i, line[i]) f0 _ HJp.out hlk (List.getElem?_eq_getElem hkl)
      generalize line[i] = d at hrow hx htk hyy
      have HTK := Lib.hid htk
      have HPX : Hid ((ats line).reverse.take (L - (i + 1)) ++ [(i, d)] <+: (ats line).reverse) := by show _ <+: _; rw [← htk]; exact List.take_prefix _ _
      obtain ⟨fn, tmps, assign, body, hy, hR⟩ := hyy
      simp only [encG] at hy
      clear hcell hx htk hlk hbb
      gi_wp2
      refine hR.mono ?_
      rintro e W3 (⟨rfl, hJ3, hk3⟩ | ⟨rfl, hJ3, hk3⟩)
      · have hJ4 : J ((ats line).reverse.take (L - i)) f0 W3 := by rw [HTK.out]; exact hJ3
        have hf4 : ∀ j, f0 j → W3.heap[j]? = W.heap[j]? := fun j hj => (hk3.mine j hj).trans (HFF.out j hj)
        gi_wp2
        exact ⟨⟨i, by go_num, by omega, hJ4, hf4⟩, by simp only [intOf]; omega⟩
      · gi_wp2
        refine bodyPost_ret (results_none rfl _ _ _) rfl ?_
        exact ⟨⟨_, rfl⟩, .inr ⟨_, f0, HPX.out, hJ3⟩⟩
    · have hk0 : k = 0 := by omega
      subst hk0
      rw [show ((0 : Nat) : Int) - 1 = -1 by omega]
      have hfin := HJp.out
      rw [List.take_of_length_le (by rw [List.length_reverse, ats_length, HLL.out]; omega)] at hfin
      gi_wp2
      go_end0
      first | exact ⟨⟨_, rfl⟩, .inl ⟨_, f0, rfl, hfin⟩⟩ | exact ⟨⟨_, rfl⟩, .inl ⟨f0, hfin⟩⟩

/-- slicing from the start -/
theorem gsl_h (A : Option Addr) (n C hi : Nat) (h2 : hi ≤ C) (w : World) :
    (Instr.slice 38 (.slice A n C) none (some (.int .i64 hi)) none).run Tryz.prog w = .ok (.slice A hi C) w := by
  rw [run_slice_h w 38 A n C strs_elem .i64 hi (by omega) (by omega), strs_esize]
  cases A <;> simp [Result.andThen, sliced, Addr.add]
/-- a way on that bears no panic -/
def NoPanic (Q : Exit → Act → World → Prop) : Exit → Act → World → Prop
  | .panic _, _, _ => False
  | e, a, w => Q e a w
theorem wp_noPanic {P : Program} {c : Code} {Q : Exit → Act → World → Prop} {a : Act} {w : World} (h : c.wp P (NoPanic Q) a w) : c.wp P Q a w :=
  wp_mono h (fun e a w h => by cases e <;> first | exact h | exact h.elim)
theorem RoundIn.lev {m m' : Nat} {P : Program} {l : Nat} {f : FuncId} {tmps : Array Value} {assign body : Code} {w : World} {R : Ending → World → Prop} (h : RoundIn Fence.wide m P l f tmps assign body w R) : RoundIn Fence.wide m' P l f tmps assign body w R :=
  ⟨h.1, fun c cs _ => h.2 c cs (room_wide _)⟩
theorem Turn.moreF {b : Nat} {f f' : Nat → Prop} {A B : World} (h : Turn b f A B) (hf : ∀ k, f k → f' k) : Turn b f' A B :=
  ⟨h.os, h.tape, h.output, h.size, fun k o ho hk => h.block k o ho (hk.imp id (fun h => ⟨fun e => h.1 (hf _ e), h.2⟩))⟩

set_option maxRecDepth 100000 in
set_option maxHeartbeats 8000000 in
theorem gback_stops {w : World} {lo g n C most f t : Nat} {A : Option Addr} {p s : List (List UInt8)} (h : GpAt w lo g A n C most f t p s) (B : Nat) (hB : Boxed w B 43 (.pointer (some ⟨g, 0, none⟩))) (f0 : Nat → Prop) (f1 : f0 B) (f2 : ∀ k, GpOwn g A k → f0 k) (hfs : ∀ k, f0 k → k < w.heap.size) :
    SeqP Fence.wide 8 Tryz.prog 103 #[.pointer (some ⟨B, 0, none⟩)] encG f0 (fun x => p[x.1]? = some x.2) (fun ys => ys = (ats p).reverse) (fun pre => pre <+: (ats p).reverse) f w := by
  intro l J Jx W hsz hf0 hJ hJx hY h0
  have hbdW : Boxed W B 43 (.pointer (some ⟨g, 0, none⟩)) := (hf0 B f1).trans hB
  have hg : GpAt W lo g A n C most f t p s := h.same (fun k hk => hf0 k (f2 k hk))
  have hbb : Below W.heap.size W (W.alloc (.cells #[.func (.yield l) #[] #[]] 94)) := (Below.refl _ W).alloc (Nat.le_refl _) _
  have hyb := Boxed.new W 94 (.func (.yield l) #[] #[])
  have hbd1 := hbdW.alloc (.cells #[.func (.yield l) #[] #[]] 94)
  have hs1 : (W.alloc (.cells #[.func (.yield l) #[] #[]] 94)).heap.size = W.heap.size + 1 := by simp
  obtain ⟨W1, hW1⟩ : ∃ W1, W1 = W.alloc (.cells #[.func (.yield l) #[] #[]] 94) := ⟨_, rfl⟩
  have G1 : Hid (GpAt W1 lo g A n C most f t p s) := Lib.hid (by rw [hW1]; exact hg.below hbb)
  have HYB : Hid (Boxed W1 W.heap.size 94 (.func (.yield l) #[] #[])) := Lib.hid (by rw [hW1]; exact hyb)
  have HBB : Hid (Below W.heap.size W W1) := Lib.hid (by rw [hW1]; exact hbb)
  have hcd1 : W1.cell? ⟨B, 0, none⟩ = some (.pointer (some ⟨g, 0, none⟩)) := by rw [hW1]; exact hbd1.cell
  have HBL : Hid (B < W1.heap.size) := Lib.hid (by rw [hW1, hs1]; have := hbdW.lt; omega)
  have HS1 : Hid (W1.heap.size = W.heap.size + 1) := Lib.hid (by rw [hW1]; exact hs1)
  have HLN : Hid (f ≤ ln p s) := Lib.hid (by have := hg.fp; unfold ln; omega)
  have HL4 : Hid (ln p s ≤ 4096) := Lib.hid (by have := hg.ln_le; have := hg.m4; omega)
  have HFP := Lib.hid hg.fp
  have H0 := Lib.hid h0
  have HJ := Lib.hid hJ
  have HJX := Lib.hid hJx
  have HY := Lib.hid hY
  have HFS := Lib.hid (fun k hk => Nat.lt_of_lt_of_le (hfs k hk) hsz)
  clear hJ hJx hY h0 hf0 hB hg hbdW hbb hyb hbd1 hs1 hfs h f1 f2 hsz
  refine callsIn_of_wp_marks Tryz.func103 rfl trivial ?_ rfl
  simp only [Tryz.ntmps103, List.size_toArray, List.length_cons, List.length_nil, Nat.reduceAdd, Nat.reduceSub, Array.replicate_succ, Array.replicate_zero, List.push_toArray, List.append_toArray, List.nil_append, List.cons_append]
  refine wpIn_wide.2 ?_
  go_upto_region 1 with (fail)
  rw [← hW1]
  clear hW1
  refine wp_noPanic ?_
  go_region_law (first
    | (refine step_call rfl 30 _ _ rfl (enters_of Tryz.func30 (by kernel_rfl) rfl) #[.pointer (some ⟨g, 0, none⟩)] (by simp [Act.eval, Act.put]) (gline_any (w := W1.drew) (G1.out.drewN 1)) ?_; rintro e w2 ⟨A2, c2, rfl, ho, hb2⟩; refine ⟨_, rfl, ?_⟩; have hb12 : Below W1.heap.size W1 w2 := ((Below.refl _ W1).drew).trans hb2; have hcd2 : w2.cell? ⟨B, 0, none⟩ = some (.pointer (some ⟨g, 0, none⟩)) := (hb12.cell (p := ⟨B, 0, none⟩) HBL.out).trans hcd1; have G2 := Lib.hid (GpAt.below (w := W1.drew) (G1.out.drewN 1) hb2); have HO2 := Lib.hid ho; have HB12 := Lib.hid hb12; have E := fun V => gsl_h A2 (ln p s) c2 f (by have := HO2.out.cap; have := HLN.out; omega) V; clear ho hb2 hb12)
    | (refine step_call rfl 26 _ _ rfl (enters_of Tryz.func26 (by kernel_rfl) rfl) #[.pointer (some ⟨g, 0, none⟩)] (by simp [Act.eval, Act.put]) (gcursor_any G2.out) ?_; rintro e w3 ⟨rfl, hb3⟩; refine ⟨_, rfl, ?_⟩; have HB3 := Lib.hid hb3; clear hb3)
    | (refine step_call rfl 104 _ _ rfl (enters_of Tryz.func104 (by kernel_rfl) rfl) #[.slice A2 f c2] (by simp [Act.eval, Act.put]) (sback_any A2 f c2 w3) ?_; rintro e w4 ⟨rfl, rfl⟩; refine ⟨_, rfl, ?_⟩))
  all_goals
    clear E hcd1 hcd2
    simp only [NoPanic]
    go_wp2_with (fail)
    refine (wpIn_wide (n := 8)).1 ?_
    have y0 := Boxed.new w3 38 (.slice A2 f c2)
    have hb3 : Below W.heap.size W w3 := HBB.out.trans ((HB12.out.trans (HB3.out.mono HB12.out.size)).mono HBB.out.size)
    have hyb3 : Boxed w3 W.heap.size 94 (.func (.yield l) #[] #[]) := ((HB3.out.mono HB12.out.size).block _ HYB.out.lt).trans ((HB12.out.block _ HYB.out.lt).trans HYB.out)
    have ho3 := HO2.out.on HB3.out
    have hsz3 : W.heap.size + 1 ≤ w3.heap.size := by have := HS1.out; have := HB12.out.size; have := HB3.out.size; omega
    have hb4 : Below W.heap.size W (w3.alloc (.cells #[.slice A2 f c2] 38)) := hb3.alloc hb3.size _
    have hyb4 := hyb3.alloc (.cells #[.slice A2 f c2] 38)
    have ho4 := ho3.alloc (.cells #[.slice A2 f c2] 38)
    have hsz4 : (w3.alloc (.cells #[.slice A2 f c2] 38)).heap.size = w3.heap.size + 1 := by simp
    generalize hX1 : w3.alloc (.cells #[.slice A2 f c2] 38) = X1 at *
    have hsl : Sl X1 X1.heap.size A2 (sv p) := by
      have h1 := ho4.sl.take f
      rw [sv_append, List.take_left' (by rw [sv_length]; exact HFP.out)] at h1
      exact h1.more (by omega)
    have hblk : ∀ k, blk A2 = some k → W.heap.size + 1 ≤ k ∧ k < X1.heap.size := fun k hk => by
      have h1 := ho4.blk_lt k hk
      have hdr : W1.drew.heap.size = W1.heap.size := rfl
      rw [hdr] at h1
      have := HS1.out
      constructor <;> omega
    have hJ1 : J [] (fun k => (f0 k ∨ k = w3.heap.size ∨ blk A2 = some k) ∨ k = W.heap.size) X1 := HJ.out [] f0 _ W X1 H0.out (Turn.of_below hb4) (fun k hk => by
      rcases hk with (hk | hk | hk) | hk
      · exact .inl hk
      · exact .inr ⟨by omega, by omega⟩
      · have := hblk k hk; exact .inr ⟨by omega, by omega⟩
      · exact .inr ⟨by omega, by omega⟩)
    clear hX1 hb3 hyb3 ho3 hb4
    refine range_priv rfl (by omega) (gf := 122) (lb := #[.pointer (some ⟨w3.heap.size, 0, none⟩)]) rfl trivial (enters_of Tryz.func122 (by kernel_rfl) rfl)
      (sback_stops p f c2 A2 5 w3.heap.size X1 HFP.out (by have := HLN.out; have := HL4.out; omega) hsl y0 (fun k => f0 k ∨ k = w3.heap.size ∨ blk A2 = some k) (.inr (.inl rfl)) (fun k hk => .inr (.inr hk)))
      (Nat.le_refl _) (fun k hk => ⟨by
        rcases hk with hk | hk | hk
        · have := HFS.out k hk; omega
        · omega
        · have := hblk k hk; omega, rfl⟩) (fun _ => rfl)
      (fun pre f' V => J pre (fun k => f' k ∨ k = W.heap.size) V ∧ Boxed V W.heap.size 94 (.func (.yield l) #[] #[]))
      (fun c pre f' V => c = .ret ∧ Jx pre (fun k => f' k ∨ k = W.heap.size) V)
      (fun pre f' f'' A' B' h ht hf => ⟨HJ.out pre _ _ A' B' h.1 ((ht.mono (by omega)).moreF (fun _ h => .inl h)) (fun k hk => by
        rcases hk with hk | hk
        · exact (hf k hk).imp .inl id
        · exact .inl (.inr hk)), ht.block _ _ h.2 (.inl (by omega))⟩)
      (fun c pre f' f'' A' B' h ht hf => ⟨h.1, HJX.out pre _ _ A' B' h.2 ((ht.mono (by omega)).moreF (fun _ h => .inl h)) (fun k hk => by
        rcases hk with hk | hk
        · exact (hf k hk).imp .inl id
        · exact .inl (.inr hk))⟩)
      ⟨hJ1, hyb4⟩
      (fun x => { tmps := #[.func (.yield l) #[] #[], .pointer (some ⟨B, 0, none⟩), .pointer (some ⟨W.heap.size, 0, none⟩), .int .i64 x.1, .string ⟨x.2.toArray⟩, .pointer (some ⟨g, 0, none⟩), .slice A2 (ln p s) c2, .pointer (some ⟨g, 0, none⟩), .int .i64 f, .slice A2 f c2, .func (.func 122) #[] #[.pointer (some ⟨w3.heap.size, 0, none⟩)], .int .i64 x.1, .string ⟨x.2.toArray⟩, undef, undef, undef, undef, undef], defers := [] }) ?assign ?body ?done ?stop
    case assign =>
      intro l x W K hK
      simp only [encG]
      rw [put_two]
      gi_wp2
      exact hK
    case body =>
      rintro l' pre x f' V hf hz' ⟨hj, hbx⟩ hlen hel
      have hyy := HY.out pre x (fun k => f' k ∨ k = W.heap.size) V hj hlen hel
      obtain ⟨fn, tmps, assign, body, hy, hR⟩ := hyy
      have hR' := RoundIn.inR l' (RoundIn.lev (m' := 5) hR)
      simp only [encG] at hy
      have hcb := hbx.cell
      gi_wp2
      refine hR'.mono ?_
      rintro e V3 (⟨rfl, hJ3, hk3⟩ | ⟨rfl, hJ3, hk3⟩)
      · have hb3 : Boxed V3 W.heap.size 94 (.func (.yield l) #[] #[]) := (hk3.mine _ (.inr rfl)).trans hbx
        have hk4 : Rk X1.heap.size f' V V3 := ⟨hk3.below, ⟨hk3.keeps.size, fun k o hb ho hc => hk3.keeps.same k o (by omega) ho hc⟩, fun k hk => hk3.mine k (.inl hk)⟩
        gi_wp2
        exact ⟨hk4, hJ3, hb3⟩
      · have hk4 : KeepsFrom X1.heap.size V V3 := ⟨hk3.size, fun k o hb ho hc => hk3.same k o (by omega) ho hc⟩
        gi_wp2
        exact ⟨hk4, rfl, hJ3⟩
    case done =>
      rintro D ys f' V hD rfl ⟨hj, hbx⟩ hK
      have hfin := HJ.out.put (.deferred none) hj (by omega) hK rfl
      have HFN := Lib.hid hfin
      clear hfin hj hbx y0 hJ1 hyb4 ho4 hsl hblk
      gi_wp2
      refine ⟨by simp, .inl ⟨_, _, rfl, run_takeDeferred hK, ?_⟩⟩
      exact ⟨_, results_none rfl _ _ _, ⟨_, rfl⟩, .inl ⟨_, _, rfl, HFN.out⟩⟩
    case stop =>
      rintro D c pre f' V hD hsp ⟨rfl, hjx⟩ hK
      have hfin := HJX.out.put (.deferred none) hjx (by omega) hK rfl
      have HFN := Lib.hid hfin
      clear hfin hjx y0 hJ1 hyb4 ho4 hsl hblk
      gi_wp2
      refine ⟨by simp, .inl ⟨_, _, rfl, run_takeDeferred hK, ?_⟩⟩
      exact ⟨_, results_none rfl _ _ _, ⟨_, rfl⟩, .inr ⟨pre, _, hsp, HFN.out⟩⟩
end Go.Proofs.YtfhfhjcdeeepbaaGreatDoor
