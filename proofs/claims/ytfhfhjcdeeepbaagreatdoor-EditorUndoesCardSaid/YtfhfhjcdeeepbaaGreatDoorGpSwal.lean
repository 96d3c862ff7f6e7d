/-
  Walks: slices.Clone of rows of strings, swallow, Delete.
-/
import Derived.Test.YtfhfhjcdeeepbaaGreatDoorGpAcc
namespace Go.Proofs.YtfhfhjcdeeepbaaGreatDoor
open Go.RowKit Go.Sort
set_option linter.unusedVariables false
set_option linter.unusedSimpArgs false

theorem gown_blk {w : World} {base n c : Nat} {e : TypeId} {A : Option Addr} {xs : List Value} (h : w.ownsRow base e 1 (.slice A n c) n xs) (hn : 0 < n) :
    ∃ g tl, A = some ⟨g, 0, none⟩ ∧ base ≤ g ∧ c = n + tl.length ∧ Blk w g e (xs ++ tl) := by
  rcases h with ⟨hl, ⟨hv, h0⟩ | ⟨g, cap, cur, hv, hb, hh, hnc, hc, hcur, ht⟩⟩
  · omega
  · injection hv with hA _ hcap
    subst hcap
    have hcl : cur.toList.length = c := by rw [Array.length_toList, hcur]; omega
    refine ⟨g, cur.toList.drop n, hA, hb, ?_, ?_⟩
    · rw [List.length_drop, hcl]; omega
    · have e : xs ++ cur.toList.drop n = cur.toList := by rw [← ht, Nat.mul_one, List.take_append_drop]
      unfold Blk
      rw [e, Array.toArray_toList]
      exact hh
theorem run_eql_strs (a : Addr) (m c : Nat) (w : World) : Sem.run Tryz.prog (binOp .eql 38 (.slice (some a) m c) (.slice none 0 0)) w = .ok (.bool false) w := by
  have h : ∀ d : Nat, (Op.equalIn (d + 1) 38 (.slice (some a) m c) (.slice none 0 0)).run Tryz.prog w = .ok false w := fun d => by
    simp [Op.equalIn, run_underlying Tryz.underlying38]
  simp only [binOp]
  simp [Op.equal, Op.maxDepth, h 9999]
/-- what Clone hands back -/
def CloneP (w : World) (m : Nat) (xs : List Value) (e : Ending) (w' : World) : Prop :=
  ∃ b tl, e = .returned (.slice (some ⟨b, 0, none⟩) m (m + tl.length)) ∧ w.heap.size ≤ b ∧ Blk w' b 9 (xs ++ tl) ∧ Below w.heap.size w w'
set_option maxRecDepth 100000 in
set_option maxHeartbeats 4000000 in
theorem sclone_some (xs : List Value) (m cap b off B : Nat) (hm : m = xs.length) (h0 : 0 < m) (h1 : m ≤ 100000) (h1c : ∀ v ∈ xs, v.oneCell' = true) (w : World) (hS : Sl w B (some ⟨b, off, none⟩) xs) (hB : B ≤ w.heap.size) :
    Calls Tryz.prog 33 #[.slice (some ⟨b, off, none⟩) m cap] w (CloneP w m xs) := by
  obtain ⟨i0, hi0, hz0, hz1, hz2⟩ := info_parts str_info
  have HI0 := Lib.hid hi0
  have HZ0 := Lib.hid hz0
  have HZ1 := Lib.hid hz1
  have HZ2 := Lib.hid hz2
  have HM := Lib.hid hm
  have HS := Lib.hid (hS.more hB)
  have HC := Lib.hid h1c
  clear hi0 hz0 hz1 hz2 hm hS h1c
  have he := run_eql_strs ⟨b, off, none⟩ m cap
  go_enter Tryz.func33, Tryz.ntmps33
  go_wp2_with (at_builtin; go_loud (refine wpList_append_sl _ rfl (.tmp 5) (.tmp 6) _ rfl w.heap.size 9 i0 _ 1 16 Tryz.underlying38 HI0.out HZ0.out HZ1.out HZ2.out rfl (by omega) (.slice (some ⟨w.heap.size, 0, none⟩) 0 0) 0 [] rfl (by have := World.ownsRow_lit (base := w.heap.size) (e := 9) (size := 1) w #[] 0 (Nat.le_refl _) (by simp only [maxLen]; omega) (by simp); simpa using this) w.heap.size (some ⟨b, off, none⟩) m cap xs rfl (HS.out.alloc (Nat.le_refl _) _) (by rw [HM.out, Nat.mul_one]) (fun h => by cases h) HC.out (by simp only [maxLen]; omega) (by omega) (by simp) ?_); intro v' w2 ho hg hat)
  obtain ⟨A', c', hv', _, _⟩ := own_of ho
  rw [Nat.zero_add, List.nil_append] at ho
  rw [Nat.zero_add] at hv'
  subst hv'
  go_wp2
  go_ret
  obtain ⟨g, tl, rfl, hbg, rfl, hblk⟩ := gown_blk ho h0
  exact ⟨g, tl, rfl, hbg, hblk, ((Below.refl _ _).alloc (Nat.le_refl _) _).grown hg (by simp) (fun k hk => by simp [Value.ownBlock] at hk; omega)⟩

/-- what swallow leaves -/
def SwalP (w : World) (lo g : Nat) (A : Option Addr) (n C most f : Nat) (k : Nat) (p s : List (List UInt8)) (u : Nat) (e : Ending) (w' : World) : Prop :=
  ∃ b tl, e = .returned (.slice (some ⟨b, 0, none⟩) k k) ∧ w.heap.size ≤ b ∧ Blk w' b 9 (sv (s.take k) ++ tl) ∧ GpAt w' lo g A n C most f u p (s.drop k) ∧ Chg (GpOwn g A) w w'
theorem gp_set4 (g : Nat) (most : Int) (A : Option Addr) (n C : Nat) (f t b : Int) :
    ([.pointer (some ⟨g, 0, none⟩), .int .i64 most, .slice A n C, .int .i64 f, .int .i64 t] : List Value).set 4 (.int .i64 b) = [.pointer (some ⟨g, 0, none⟩), .int .i64 most, .slice A n C, .int .i64 f, .int .i64 b] := rfl
set_option maxRecDepth 100000 in
set_option maxHeartbeats 4000000 in
theorem swallow_any {w : World} {lo g n C most f t : Nat} {A : Option Addr} {p s : List (List UInt8)} (h : GpAt w lo g A n C most f t p s) (k : Nat) (h1 : 1 ≤ k) (hk : k ≤ s.length) :
    Calls Tryz.prog 121 #[.pointer (some ⟨g, 2, none⟩), .int .i64 k] w (SwalP w lo g A n C most f k p s (t + k)) := by
  have hft := h.ft
  have htn := h.tn
  have hnC := h.nC
  have hle := h.le
  have hm4 := h.m4
  obtain ⟨ab, tl, rfl, hn1, hC, hblk, hlo⟩ : ∃ ab tl, A = some ⟨ab, 0, none⟩ ∧ 1 ≤ n ∧ C = n + tl.length ∧ Blk w ab 9 (gc sz (sv p) (t - f) (sv s) tl) ∧ lo ≤ ab := by
    rcases h.all with ⟨_, h0⟩ | h0
    · omega
    · exact h0
  have hbh : bh (some ⟨ab, 0, none⟩) C t = some ⟨ab, t, none⟩ := bh_at (k := k) (by omega) (by omega)
  obtain ⟨m, hm⟩ : ∃ m, m = n - t := ⟨_, rfl⟩
  obtain ⟨c, hc⟩ : ∃ c, c = C - t := ⟨_, rfl⟩
  have hkm : k ≤ m := by omega
  have hkc : k ≤ c := by omega
  have hkci : (k : Int) ≤ c := by omega
  have hsl : Sl w w.heap.size (some ⟨ab, t, none⟩) (sv (s.take k)) := by
    have := h.suf_sl
    rw [hbh] at this
    rw [← sv_take]
    exact this.take k
  have hsw := gc_swallow sz (sv p) (sv s) (t - f) k tl t (by rw [sv_length, h.fp]; omega) (by rw [sv_length]; exact hk)
  have hlk : (s.take k).length = k := by rw [List.length_take]; omega
  have hgl : (gc sz (sv p) (t - f) (sv s) tl).length = C := by rw [gc_length, sv_length, sv_length, h.fp]; omega
  have hki : (k : Int) ≤ 4096 := by omega
  have hti : (t : Int) ≤ 4096 := by omega
  have H := Lib.hid h
  have HBH := Lib.hid hbh
  have HM := Lib.hid hm
  have HCC := Lib.hid hc
  have HSL := Lib.hid hsl
  have HSW := Lib.hid hsw
  have HLK := Lib.hid hlk
  have HGL := Lib.hid hgl
  have HTN := Lib.hid htn
  have HC := Lib.hid hC
  have HBK := Lib.hid hblk
  have HD := Lib.hid h.head
  have HNE := Lib.hid (h.ne rfl)
  clear h hbh hm hc hsl hsw hlk hgl htn hC hblk hnC
  go_enter Tryz.func121, Tryz.ntmps121
  go_wp2_with (first
    | (go_at_call 59; refine (behind_any H.out).mono ?_; rintro e w1 ⟨rfl, hb1⟩; rw [HBH.out, ← HM.out, ← HCC.out]; have HB1 := Lib.hid hb1; have HSL1 := Lib.hid (HSL.out.below hb1); clear hb1)
    | (go_at_call 33; refine (sclone_some _ k c ab t w.heap.size (by rw [sv_length, HLK.out]) (by omega) (by omega) (sv_one _) w1 HSL1.out HB1.out.size).mono ?_; rintro e w2 ⟨b2, tl2, rfl, hb2, hn2, hbb2⟩; have HN2 := Lib.hid hn2; have HBB2 := Lib.hid hbb2; have HBK2 := Lib.hid ((HBK.out.below HB1.out HBK.out.lt).below hbb2 (Nat.lt_of_lt_of_le HBK.out.lt HB1.out.size)); clear hn2 hbb2)
    | ((with_reducible refine at_clear ?_); refine wpList_clear_k rfl (.tmp 13) _ rfl 9 sz Tryz.underlying38 Tryz.zeroValue9 rfl rfl (some ⟨ab, t, none⟩) k c rfl ab t 9 _ HBK2.out (fun _ => rfl) (by rw [HGL.out]; have := HC.out; have := HTN.out; omega) ?_; intro w3 hn3 hg3; rw [HSW.out, sv_drop] at hn3; have hc3 : Chg (one ab) w w3 := ((Chg.of_below (S := one ab) HB1.out).trans (chg_via (S := one ab) HBB2.out hg3 rfl) (fun _ h => .inl h)); have hd3 := HD.out.chg hc3 (fun e => HNE.out e); have g4 := hd3.cell 4; have HD3 := Lib.hid hd3; have HN3 := Lib.hid hn3; have HC3 := Lib.hid hc3; have HG3 := Lib.hid hg3; clear hd3 hn3 hc3 hg3)
    | ((with_reducible refine at_store 21 ?_); refine wpList_store_cell rfl _ _ _ rfl rfl g 4 _ _ (.int .i64 ((t + k : Nat) : Int)) rfl (by rw [show ((t + k : Nat) : Int) = (t : Int) + k by omega]; rfl) HD3.out (by simp) (by kernel_rfl) rfl ?_; intro w4 hn4 hg4; rw [gp_set4] at hn4; have HN4 := Lib.hid hn4; have HG4 := Lib.hid hg4; clear hn4 hg4))
  go_ret
  have hcg := chg_of_grown HG4.out
  have hn3 : b2 ≠ ab := by have := HBK.out.lt; have := HB1.out.size; omega
  have hbg : b2 ≠ g := by have := H.out.head.lt; have := HB1.out.size; omega
  refine ⟨b2, tl2, rfl, Nat.le_trans HB1.out.size hb2, ((HN2.out.chg (chg_of_grown HG3.out) (fun e => hn3 e)).chg hcg (fun e => hbg e)), ⟨HN4.out, H.out.fp, by omega, by rw [List.length_drop]; have := HTN.out; omega, H.out.nC, .inr ⟨ab, tl, rfl, hn1, HC.out, ?_, hlo⟩, hle, H.out.m1, hm4, H.out.lo, ?_⟩, ?_⟩
  · rw [show t + k - f = t - f + k by omega]
    exact HN3.out.chg hcg (fun e => HNE.out (by have e' : ab = g := e; exact e'.symm))
  · intro c hc
    refine H.out.is c ?_
    simp only [List.mem_append] at hc ⊢
    exact hc.imp id (fun h => List.mem_of_mem_drop h)
  · exact (HC3.out.mono (S' := GpOwn g (some ⟨ab, 0, none⟩)) (fun j hj => .inl (.inr (by have e : j = ab := hj; rw [e]; rfl)))).trans hcg (fun j hj => .inl (.inl hj))
end Go.Proofs.YtfhfhjcdeeepbaaGreatDoor
