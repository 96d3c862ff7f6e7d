/-
  Walks: a strings.Builder beside what an iterator calls its own: WriteString, WriteByte, String.
-/
import Derived.Test.YtfjiogockpmogaaDoorHsIter
import Derived.Test.YtfjiogockpmogaaDoorGfF
import Derived.Test.YtfjiogockpmogaaDoorStrB
import Derived.Deep.Cut
import Derived.Lib.UnsafeStr
import Derived.Lib.MakeNoZero
import Derived.Deep.RegionHeld3
namespace Go.Proofs.YtfjiogockpmogaaDoor
open Go.RowKit Go.Shelf
set_option linter.unusedVariables false
set_option linter.unusedSimpArgs false

/-- a strings.Builder at block b, which holds the bytes l in memory of its own -/
def BldAt (w : World) (b : Nat) (A : Option Addr) (n c : Nat) (l : List UInt8) : Prop :=
  ∃ p, (p = .pointer none ∨ p = .pointer (some ⟨b, 0, none⟩)) ∧ Blk w b 85 [p, .slice A n c] ∧ OB w b A n c l
theorem BldAt.len {w : World} {b n c : Nat} {A : Option Addr} {l : List UInt8} (h : BldAt w b A n c l) : n = l.length := by obtain ⟨_, _, _, ho⟩ := h; exact ho.len
theorem chg_freeze {S : Nat → Prop} (w : World) (g n : Nat) (hg : S g) : Chg S w (w.freeze ⟨g, 0, none⟩ n) := by
  unfold World.freeze
  split
  · exact Chg.refl _ _
  · refine ⟨rfl, rfl, rfl, by simp, fun k hk hn => ?_⟩
    simp only [Array.getElem?_modify]
    rw [if_neg (fun e => hn (by have e' : g = k := e; rw [← e']; exact hg))]

set_option maxHeartbeats 2000000 in
set_option maxRecDepth 100000 in
theorem gstring_any {w : World} {b n c : Nat} {A : Option Addr} {l : List UInt8} (h : BldAt w b A n c l) :
    Calls Tryd.prog 48 #[.pointer (some ⟨b, 0, none⟩)] w fun e w' => e = .returned (.string ⟨l.toArray⟩) ∧ Chg (fun k => blk A = some k) w w' := by
  obtain ⟨p, hp, hbk, ho⟩ := h
  have hlen := ho.len
  have c1 : w.drew.cell? ⟨b, 1, none⟩ = some (.slice A n c) := hbk.cell 1
  have hUS := fun W q => Lib.run_unsafeString_none (P := Tryd.prog) W 104 3 9 q
  rcases ho.1.2 with ⟨hv, hz⟩ | ⟨g, cap, cur, hv, hbg, hg, hnc, hcm, hcs, htake⟩
  · injection hv with hA hn hc
    subst hA hc
    have hn0 : n = 0 := hz
    subst hn0
    have hl : l = [] := List.eq_nil_of_length_eq_zero (by omega)
    subst hl
    have hSD : (Builtin.unsafeSliceData_ #[83] 104 #[.slice none 0 0]).run Tryd.prog w.drew = .ok (.pointer none) w.drew := rfl
    clear hbk ho hlen hp
    go_enter Tryd.func48, Tryd.ntmps48
    go_wp2
    go_region
    all_goals (go_wp2; go_ret; exact ⟨rfl, (Chg.refl _ w).drew⟩)
  · injection hv with hA hn hc
    subst hA hc
    rcases Nat.eq_zero_or_pos n with h0 | h0
    · subst h0
      have hl : l = [] := List.eq_nil_of_length_eq_zero (by omega)
      subst hl
      by_cases hc0 : c = 0
      · subst hc0
        have hSD : (Builtin.unsafeSliceData_ #[83] 104 #[.slice (some ⟨g, 0, none⟩) 0 0]).run Tryd.prog w.drew = .ok (.pointer (some ⟨w.drew.heap.size, 0, none⟩)) (w.drew.alloc (.view ⟨g, 0, none⟩ 5)) :=
          Lib.run_unsafeSliceData_zero w.drew _ _ 5 Tryd.underlying104 ⟨g, 0, none⟩ 0 (5, cur.size) (by have hg' : w.drew.heap[g]? = some (.cells cur 5 (0, 0)) := hg; simp [World.shape?, hg'])
        have hb' : Blk (w.drew.alloc (.view ⟨g, 0, none⟩ 5)) b 85 [p, .slice (some ⟨g, 0, none⟩) 0 0] := Blk.alloc (w := w.drew) hbk _
        have c2 : (w.drew.alloc (.view ⟨g, 0, none⟩ 5)).cell? ⟨b, 1, none⟩ = some (.slice (some ⟨g, 0, none⟩) 0 0) := hb'.cell 1
        have c3 : (w.alloc (.view ⟨g, 0, none⟩ 5)).drew.cell? ⟨b, 1, none⟩ = some (.slice (some ⟨g, 0, none⟩) 0 0) := c2
        have c0 : w.cell? ⟨b, 1, none⟩ = some (.slice (some ⟨g, 0, none⟩) 0 0) := c1
        clear hbk ho hlen hp hb' hg hnc hcm hcs htake
        go_enter Tryd.func48, Tryd.ntmps48
        go_wp2
        go_region
        all_goals (go_wp2; go_ret; exact ⟨rfl, ((Chg.refl _ w).drew).alloc _⟩)
      · have hSD : (Builtin.unsafeSliceData_ #[83] 104 #[.slice (some ⟨g, 0, none⟩) 0 c]).run Tryd.prog w.drew = .ok (.pointer (some ⟨g, 0, none⟩)) w.drew :=
          Lib.run_unsafeSliceData_row _ _ _ _ _ _ hc0
        clear hbk ho hlen hp hg hnc hcm hcs htake hc0
        go_enter Tryd.func48, Tryd.ntmps48
        go_wp2
        go_region
        all_goals (go_wp2; go_ret; exact ⟨rfl, (Chg.refl _ w).drew⟩)
    · subst hlen
      have hSD : (Builtin.unsafeSliceData_ #[83] 104 #[.slice (some ⟨g, 0, none⟩) l.length c]).run Tryd.prog w.drew = .ok (.pointer (some ⟨g, 0, none⟩)) w.drew :=
        Lib.run_unsafeSliceData_row _ _ _ _ _ _ (by omega)
      have hUS2 : (Builtin.unsafeString_ #[104, 3] 9 #[.pointer (some ⟨g, 0, none⟩), .int .i64 l.length]).run Tryd.prog w.drew = .ok (.string ⟨l.toArray⟩) (w.drew.freeze ⟨g, 0, none⟩ l.length) := by
        refine Lib.run_unsafeString_row w.drew 104 3 9 5 Tryd.underlying104 (by kernel_rfl) g cur.size (by have hg' : w.drew.heap[g]? = some (.cells cur 5 (0, 0)) := hg; simp [World.shape?, hg']) l (by intro e; subst e; simp at h0) (by omega) (by unfold maxLen at hcm; omega) ?_
        intro j x hx
        have := ho.1.cells (g := g) rfl j (.int .u8 x.toNat) (by simp [bv, hx])
        exact this
      clear hUS hbk ho hp hg hnc hcm hcs htake
      go_enter Tryd.func48, Tryd.ntmps48
      go_wp2
      go_region
      all_goals (go_wp2; go_ret; exact ⟨rfl, ((Chg.refl _ w).drew).trans (chg_freeze (S := fun k => blk (some (⟨g, 0, none⟩ : Addr)) = some k) w.drew g _ rfl) (fun _ h => .inl h)⟩)
theorem chg_of_grown' {w w' : World} {row : Option Nat} (h : w.grownBy w' row) : Chg (fun k => row = some k) w w' := ⟨h.os, h.tape, h.output, h.size, fun k hk hn => h.block k hk (fun e => hn e.symm)⟩
set_option maxHeartbeats 2000000 in
set_option maxRecDepth 100000 in
theorem wstr2 {w : World} {b n c : Nat} {A : Option Addr} {l : List UInt8} (h : BldAt w b A n c l) (s : ByteArray) (hlen : n + s.size ≤ 100000000) :
    Calls Tryd.prog 46 #[.pointer (some ⟨b, 0, none⟩), .string s] w fun e w' => ∃ A' c', e = .returned (.tuple #[.int .i64 s.size, .nilIface]) ∧ BldAt w' b A' (n + s.size) c' (l ++ s.data.toList) ∧ Chg (fun k => k = b ∨ blk A = some k) w w' ∧ ∀ g, blk A' = some g → blk A = some g ∨ w.heap.size ≤ g := by
  obtain ⟨p, hp, hbk, ho⟩ := h
  have hAb : blk A ≠ some b := by
    have := Lib.ownBlock_ne (b := b) ho.1 hbk (by decide)
    rwa [ownBlock_slice] at this
  have hlA : ∀ g, blk A = some g → b ≤ g ∧ g < w.heap.size := ho.blk_lt
  have hbl := hbk.lt
  -- behind the check
  have hck : Calls Tryd.prog 60 #[.pointer (some ⟨b, 0, none⟩)] w fun e w' => e = .returned (.tuple #[]) ∧ Blk w' b 85 [.pointer (some ⟨b, 0, none⟩), .slice A n c] ∧ OB w' b A n c l ∧ Chg (one b) w w' := by
    rcases hp with rfl | rfl
    · refine (check_fresh b w (hbk.cell 0) (by unfold Blk at hbk; simp [World.shape?, hbk]) (hbk.frozen 0)).mono ?_
      rintro e w' ⟨rfl, rfl⟩
      have hc := (Chg.refl (one b) w).setCell (p := ⟨b, 0, none⟩) (.inl rfl) (.pointer (some ⟨b, 0, none⟩))
      exact ⟨rfl, hbk.set_ 0 _, ho.kept (grownBy_setCell' w b _) (.inr hAb), hc⟩
    · refine (check_used b w (hbk.cell 0)).mono ?_
      rintro e w' ⟨rfl, rfl⟩
      exact ⟨rfl, hbk, ho, Chg.refl _ _⟩
  have HCK := Lib.hid hck
  have HAB := Lib.hid hAb
  have HLA := Lib.hid hlA
  clear hck hp hbk ho hAb hlA
  go_enter Tryd.func46, Tryd.ntmps46
  go_wp2_with (first
    | (go_at_call 60; refine HCK.out.mono ?_; rintro e w1 ⟨rfl, hb1, ho1, hc1⟩; have c0 := hb1.cell 0; have c1 := hb1.cell 1; obtain ⟨A', c', w2, hrun, ho2, hg2, hat2⟩ := run_app_str w1 83 b A n c l ho1 s (n + s.size) rfl (by omega) (by have := hc1.size; omega); have d1 := (hb1.chg (chg_of_grown' hg2) (fun e => HAB.out (by exact e))).cell 1; have f1 := (hb1.chg (chg_of_grown' hg2) (fun e => HAB.out (by exact e))).frozen 1; have HB2 := Lib.hid (hb1.chg (chg_of_grown' hg2) (fun e => HAB.out (by exact e))); have HR := Lib.hid hrun; have HO2 := Lib.hid ho2; have HG2 := Lib.hid hg2; have HAT := Lib.hid hat2; have HC1 := Lib.hid hc1; clear hb1 ho1 hc1 hrun ho2 hg2 hat2)
    | (at_builtin; refine wpList_run 83 9 rfl (.tmp 12) (.tmp 13) rfl _ _ _ _ rfl rfl HR.out ?_))
  go_ret2
  refine ⟨A', c', rfl, ⟨_, .inr rfl, HB2.out.set_ 1 _, ?_⟩, ?_, fun g hg => (HAT.out g hg).imp id (fun h => Nat.le_trans HC1.out.size h)⟩
  · refine HO2.out.kept (row := some b) ⟨rfl, rfl, rfl, by simp [World.setCell], fun k _ hk => Below.heap_setCell _ _ _ _ (fun e => hk (by simp [e]))⟩ (.inr ?_)
    have := Lib.ownBlock_ne (b := b) HO2.out.1 HB2.out (by decide)
    rwa [ownBlock_slice] at this
  · exact (((HC1.out.mono (S' := fun k => k = b ∨ blk A = some k) (fun j hj => .inl (.inl hj))).trans (chg_of_grown' HG2.out) (fun j hj => .inl (.inr hj)))).setCell (p := ⟨b, 1, none⟩) (.inl (.inl rfl)) _

/-- a builder that is not the iterator's -/
def HoldS (b : Nat) (l : List UInt8) (f : Nat → Prop) (W : World) : Prop := ∃ A n c, BldAt W b A n c l ∧ ∀ g, blk A = some g → ¬ f g
theorem AbP.holdS {β : Type} {b B : Nat} (xs : β → List UInt8) (h : B < b) : AbP b (fun s f W => HoldS B (xs s) f W) := by
  rintro s f f' X Y ⟨A, n, c, ⟨p, hp, hb, ho⟩, hm⟩ ht hf
  refine ⟨A, n, c, ⟨p, hp, ht.block _ _ hb (.inl h), ?_⟩, fun g hg hf' => ?_⟩
  · exact OR.turn (e := 5) (xs := bv (xs s)) ho ht hm
  · rcases hf g hf' with h1 | h1
    · exact hm g hg h1
    · have := (ho.blk_lt g hg).2; omega
theorem rk_of_chg {S : Nat → Prop} {lo : Nat} {f : Nat → Prop} {W W' : World} (h : Chg S W W') (hf : ∀ k, f k → k < W.heap.size ∧ ¬ S k) (hS : ∀ k o, S k → W.heap[k]? = some o → o.isCells = true) : Rk lo f W W' :=
  ⟨⟨h.os, h.tape, h.output, h.size, fun k hk => by omega⟩, ⟨h.size, fun k o hb ho hc => (h.block k (Array.getElem?_eq_some_iff.1 ho).1 (fun hs => by rw [hS k o hs ho] at hc; cases hc)).trans ho⟩, fun k hk => h.block k (hf k hk).1 (hf k hk).2⟩
theorem BldAt.cells {w : World} {b n c : Nat} {A : Option Addr} {l : List UInt8} (h : BldAt w b A n c l) : ∀ k o, (k = b ∨ blk A = some k) → w.heap[k]? = some o → o.isCells = true := by
  intro k o hk ho
  obtain ⟨p, hp, hb, hown⟩ := h
  rcases hk with rfl | hk
  · unfold Blk at hb; rw [hb] at ho; injection ho with ho; subst ho; rfl
  · obtain ⟨hl, ⟨hv, hn⟩ | ⟨g, cap, cur, hv, h1, h2, h3⟩⟩ := hown.1
    · injection hv with hA; subst hA; cases hk
    · injection hv with hA; subst hA
      have : g = k := by simpa [blk] using hk
      subst this
      rw [h2] at ho; injection ho with ho; subst ho; rfl

set_option maxHeartbeats 2000000 in
set_option maxRecDepth 100000 in
theorem wbyte2 {w : World} {b n c : Nat} {A : Option Addr} {l : List UInt8} (h : BldAt w b A n c l) (x : UInt8) (hlen : n + 1 ≤ 1000000) :
    Calls Tryd.prog 47 #[.pointer (some ⟨b, 0, none⟩), .int .u8 x.toNat] w fun e w' => ∃ A' c', e = .returned .nilIface ∧ BldAt w' b A' (n + 1) c' (l ++ [x]) ∧ Chg (fun k => k = b ∨ blk A = some k) w w' ∧ ∀ g, blk A' = some g → blk A = some g ∨ w.heap.size ≤ g := by
  obtain ⟨p, hp, hbk, ho⟩ := h
  have hAb : blk A ≠ some b := by
    have := Lib.ownBlock_ne (b := b) ho.1 hbk (by decide)
    rwa [ownBlock_slice] at this
  have hlA : ∀ g, blk A = some g → b ≤ g ∧ g < w.heap.size := ho.blk_lt
  have hbl := hbk.lt
  have hck : Calls Tryd.prog 60 #[.pointer (some ⟨b, 0, none⟩)] w fun e w' => e = .returned (.tuple #[]) ∧ Blk w' b 85 [.pointer (some ⟨b, 0, none⟩), .slice A n c] ∧ OB w' b A n c l ∧ Chg (one b) w w' := by
    rcases hp with rfl | rfl
    · refine (check_fresh b w (hbk.cell 0) (by unfold Blk at hbk; simp [World.shape?, hbk]) (hbk.frozen 0)).mono ?_
      rintro e w' ⟨rfl, rfl⟩
      have hc := (Chg.refl (one b) w).setCell (p := ⟨b, 0, none⟩) (.inl rfl) (.pointer (some ⟨b, 0, none⟩))
      exact ⟨rfl, hbk.set_ 0 _, ho.kept (grownBy_setCell' w b _) (.inr hAb), hc⟩
    · refine (check_used b w (hbk.cell 0)).mono ?_
      rintro e w' ⟨rfl, rfl⟩
      exact ⟨rfl, hbk, ho, Chg.refl _ _⟩
  have HCK := Lib.hid hck
  have HAB := Lib.hid hAb
  have HLA := Lib.hid hlA
  clear hck hp hbk ho hAb hlA
  go_enter Tryd.func47, Tryd.ntmps47
  go_upto_region 2 with (go_at_call 60; refine HCK.out.mono ?_; rintro e w1 ⟨rfl, hb1, ho1, hc1⟩; have HB1 := Lib.hid hb1; have HO1 := Lib.hid ho1; have HC1 := Lib.hid hc1; have c1 := hb1.cell 1; have hbz := hb1.lt; clear hb1 ho1 hc1)
  have hsw : w1.heap.size ≤ (w1.alloc (.cells #[.int .u8 x.toNat] 5)).heap.size := by simp
  have hbA : Below w1.heap.size w1 (w1.alloc (.cells #[.int .u8 x.toNat] 5)) := (Below.refl _ _).alloc (Nat.le_refl _) _
  obtain ⟨A', c', w2, hrun, ho2, hg2, hat2⟩ := run_app_u8 (w1.alloc (.cells #[.int .u8 x.toNat] 5)) 83 b A n c l (HO1.out.alloc _) (some ⟨w1.heap.size, 0, none⟩) 1 1 [x] (w1.heap.size + 1) (Sl.new w1 #[.int .u8 x.toNat] 5) rfl (fun e => by cases e) (n + 1) rfl hlen (by omega)
  have hbB : Blk (w1.alloc (.cells #[.int .u8 x.toNat] 5)) b 85 [.pointer (some ⟨b, 0, none⟩), .slice A n c] := HB1.out.alloc _
  have hbC := hbB.chg (chg_of_grown' hg2) (fun e => HAB.out (by exact e))
  have d1 := hbC.cell 1
  have f1 := hbC.frozen 1
  have HBC := Lib.hid hbC
  have HR := Lib.hid hrun
  have HO2 := Lib.hid ho2
  have HG2 := Lib.hid hg2
  have HAT := Lib.hid hat2
  have HBA := Lib.hid hbA
  have HSW := Lib.hid hsw
  clear hbC hbB hrun ho2 hg2 hat2 hbA hsw
  go_wp2_with ((with_reducible refine at_dst 14 ?_); refine wpList_run 83 83 rfl (.tmp 11) (.tmp 13) rfl _ _ _ _ rfl rfl HR.out ?_)
  go_ret
  have hAT : ∀ g, blk A' = some g → blk A = some g ∨ w1.heap.size ≤ g := fun g hg => by
    rcases HAT.out with h | h
    · exact .inl (by rw [← h]; exact hg)
    · rw [hg] at h; injection h with h; have := HSW.out; exact .inr (by omega)
  refine ⟨A', c', rfl, ⟨_, .inr rfl, HBC.out.set_ 1 _, ?_⟩, ?_, fun g hg => (hAT g hg).imp id (fun h => Nat.le_trans HC1.out.size h)⟩
  · refine HO2.out.kept (row := some b) ⟨rfl, rfl, rfl, by simp [World.setCell], fun k _ hk => Below.heap_setCell _ _ _ _ (fun e => hk (by simp [e]))⟩ (.inr ?_)
    have := Lib.ownBlock_ne (b := b) HO2.out.1 HBC.out (by decide)
    rwa [ownBlock_slice] at this
  · exact ((((HC1.out.mono (S' := fun k => k = b ∨ blk A = some k) (fun j hj => .inl (.inl hj))).trans (Chg.of_below (S := fun _ => False) HBA.out) (fun j hj => hj.elim)).trans (chg_of_grown' HG2.out) (fun j hj => .inl (.inr hj)))).setCell (p := ⟨b, 1, none⟩) (.inl (.inl rfl)) _
end Go.Proofs.YtfjiogockpmogaaDoor
