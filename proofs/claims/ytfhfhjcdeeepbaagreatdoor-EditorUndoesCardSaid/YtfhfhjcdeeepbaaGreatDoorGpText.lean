/-
  Walks: WriteString beside what an iterator calls its own; Text.
-/
import Derived.Test.YtfhfhjcdeeepbaaGreatDoorGpAll
import Derived.Test.YtfhfhjcdeeepbaaGreatDoorGpStr
namespace Go.Proofs.YtfhfhjcdeeepbaaGreatDoor
open Go.RowKit Go.Shelf
attribute [local go_sem] Oper.semAt_some
set_option linter.unusedVariables false
set_option linter.unusedSimpArgs false

theorem gisC_inv {l : List UInt8} (h : isC l = true) : ∃ c, wf c ∧ eb c = l := by
  unfold isC at h
  split at h
  · cases h
  · next c cs hc => exact ⟨c, cls_wf (rs_isR l) c (by rw [hc]; simp), by simpa using h⟩
theorem isC_len {l : List UInt8} (h : isC l = true) : l.length ≤ 64 := by
  obtain ⟨c, hw, rfl⟩ := gisC_inv h
  exact wf_len hw
theorem chg_of_grown' {w w' : World} {row : Option Nat} (h : w.grownBy w' row) : Chg (fun k => row = some k) w w' := ⟨h.os, h.tape, h.output, h.size, fun k hk hn => h.block k hk (fun e => hn e.symm)⟩
set_option maxHeartbeats 2000000 in
set_option maxRecDepth 100000 in
theorem wstr2 {w : World} {b n c : Nat} {A : Option Addr} {l : List UInt8} (h : BldAt w b A n c l) (s : ByteArray) (hlen : n + s.size ≤ 100000000) :
    Calls Tryz.prog 38 #[.pointer (some ⟨b, 0, none⟩), .string s] w fun e w' => ∃ A' c', e = .returned (.tuple #[.int .i64 s.size, .nilIface]) ∧ BldAt w' b A' (n + s.size) c' (l ++ s.data.toList) ∧ Chg (fun k => k = b ∨ blk A = some k) w w' ∧ ∀ g, blk A' = some g → blk A = some g ∨ w.heap.size ≤ g := by
  obtain ⟨p, hp, hbk, ho⟩ := h
  have hAb : blk A ≠ some b := by
    have := Lib.ownBlock_ne (b := b) ho.1 hbk (by decide)
    rwa [ownBlock_slice] at this
  have hlA : ∀ g, blk A = some g → b ≤ g ∧ g < w.heap.size := ho.blk_lt
  have hbl := hbk.lt
  -- behind the check
  have hck : Calls Tryz.prog 65 #[.pointer (some ⟨b, 0, none⟩)] w fun e w' => e = .returned (.tuple #[]) ∧ Blk w' b 73 [.pointer (some ⟨b, 0, none⟩), .slice A n c] ∧ OB w' b A n c l ∧ Chg (one b) w w' := by
    rcases hp with rfl | rfl
    · refine (check_fresh b w (hbk.cell 0) (by unfold Blk at hbk; simp [World.shape?, hbk]) (hbk.frozen 0)).mono ?_
      rintro e w' ⟨rfl, rfl⟩
      have hc := (Chg.refl (one b) w).setCell (p := ⟨b, 0, none⟩) (.inl rfl) (.pointer (some ⟨b, 0, none⟩))
      exact ⟨rfl, hbk.set_ 0 _, ho.kept (grownBy_setCell' w b _) (.inr hAb), hc⟩
    · refine (check_used b w (hbk.cell 0)).mono ?_
      rintro e w' ⟨rfl, rfl⟩
      exact ⟨rfl, hbk, ho, Chg.refl _ _⟩
  have HCK := Lib.hid hck
  have HAB := Lib.hid hAb
  have HLA := Lib.hid hlA
  clear hck hp hbk ho hAb hlA
  go_enter Tryz.func38, Tryz.ntmps38
  go_wp2_with (first
    | (go_at_call 65; refine HCK.out.mono ?_; rintro e w1 ⟨rfl, hb1, ho1, hc1⟩; have c0 := hb1.cell 0; have c1 := hb1.cell 1; obtain ⟨A', c', w2, hrun, ho2, hg2, hat2⟩ := run_app_str w1 71 b A n c l ho1 s (n + s.size) rfl (by omega) (by have := hc1.size; omega); have d1 := (hb1.chg (chg_of_grown' hg2) (fun e => HAB.out (by exact e))).cell 1; have f1 := (hb1.chg (chg_of_grown' hg2) (fun e => HAB.out (by exact e))).frozen 1; have HB2 := Lib.hid (hb1.chg (chg_of_grown' hg2) (fun e => HAB.out (by exact e))); have HR := Lib.hid hrun; have HO2 := Lib.hid ho2; have HG2 := Lib.hid hg2; have HAT := Lib.hid hat2; have HC1 := Lib.hid hc1; clear hb1 ho1 hc1 hrun ho2 hg2 hat2)
    | (at_builtin; refine wpList_run 71 9 rfl (.tmp 12) (.tmp 13) rfl _ _ _ _ rfl rfl HR.out ?_))
  go_ret2
  refine ⟨A', c', rfl, ⟨_, .inr rfl, HB2.out.set_ 1 _, ?_⟩, ?_, fun g hg => (HAT.out g hg).imp id (fun h => Nat.le_trans HC1.out.size h)⟩
  · refine HO2.out.kept (row := some b) ⟨rfl, rfl, rfl, by simp [World.setCell], fun k _ hk => Below.heap_setCell _ _ _ _ (fun e => hk (by simp [e]))⟩ (.inr ?_)
    have := Lib.ownBlock_ne (b := b) HO2.out.1 HB2.out (by decide)
    rwa [ownBlock_slice] at this
  · exact (((HC1.out.mono (S' := fun k => k = b ∨ blk A = some k) (fun j hj => .inl (.inl hj))).trans (chg_of_grown' HG2.out) (fun j hj => .inl (.inr hj)))).setCell (p := ⟨b, 1, none⟩) (.inl (.inl rfl)) _

/-- a builder that is not the iterator's -/
def HoldS (b : Nat) (l : List UInt8) (f : Nat → Prop) (W : World) : Prop := ∃ A n c, BldAt W b A n c l ∧ ∀ g, blk A = some g → ¬ f g
theorem AbP.holdS {β : Type} {b B : Nat} (xs : β → List UInt8) (h : B < b) : AbP b (fun s f W => HoldS B (xs s) f W) := by
  rintro s f f' X Y ⟨A, n, c, ⟨p, hp, hb, ho⟩, hm⟩ ht hf
  refine ⟨A, n, c, ⟨p, hp, ht.block _ _ hb (.inl h), ?_⟩, fun g hg hf' => ?_⟩
  · exact OR.turn (e := 5) (xs := bv (xs s)) ho ht hm
  · rcases hf g hf' with h1 | h1
    · exact hm g hg h1
    · have := (ho.blk_lt g hg).2; omega
theorem rk_of_chg {S : Nat → Prop} {lo : Nat} {f : Nat → Prop} {W W' : World} (h : Chg S W W') (hf : ∀ k, f k → k < W.heap.size ∧ ¬ S k) (hS : ∀ k o, S k → W.heap[k]? = some o → o.isCells = true) : Rk lo f W W' :=
  ⟨⟨h.os, h.tape, h.output, h.size, fun k hk => by omega⟩, ⟨h.size, fun k o hb ho hc => (h.block k (Array.getElem?_eq_some_iff.1 ho).1 (fun hs => by rw [hS k o hs ho] at hc; cases hc)).trans ho⟩, fun k hk => h.block k (hf k hk).1 (hf k hk).2⟩
theorem BldAt.cells {w : World} {b n c : Nat} {A : Option Addr} {l : List UInt8} (h : BldAt w b A n c l) : ∀ k o, (k = b ∨ blk A = some k) → w.heap[k]? = some o → o.isCells = true := by
  intro k o hk ho
  obtain ⟨p, hp, hb, hown⟩ := h
  rcases hk with rfl | hk
  · unfold Blk at hb; rw [hb] at ho; injection ho with ho; subst ho; rfl
  · obtain ⟨hl, ⟨hv, hn⟩ | ⟨g, cap, cur, hv, h1, h2, h3⟩⟩ := hown.1
    · injection hv with hA; subst hA; cases hk
    · injection hv with hA; subst hA
      have : g = k := by simpa [blk] using hk
      subst this
      rw [h2] at ho; injection ho with ho; subst ho; rfl
theorem flat_snoc (pre : List (Nat × List UInt8)) (x : Nat × List UInt8) : ((pre ++ [x]).map (·.2)).flatten = (pre.map (·.2)).flatten ++ x.2 := by simp
theorem ats_snd (l : List (List UInt8)) : (ats l).map (·.2) = l := by
  apply List.ext_getElem?
  intro i
  by_cases h : i < l.length
  · rw [List.getElem?_map, ats_get h]; simp [h]
  · rw [List.getElem?_eq_none (by rw [List.length_map, ats_length]; omega), List.getElem?_eq_none (by omega)]
theorem flat_le {l : List (List UInt8)} (h : ∀ c ∈ l, c.length ≤ 64) : l.flatten.length ≤ 64 * l.length := by
  induction l with
  | nil => simp
  | cons c l ih =>
    have := ih (fun d hd => h d (by simp [hd]))
    have := h c (by simp)
    simp only [List.flatten_cons, List.length_append, List.length_cons]
    omega

set_option maxRecDepth 100000 in
set_option maxHeartbeats 2000000 in
theorem gtext_any {w : World} {lo g n C most f t : Nat} {A : Option Addr} {p s : List (List UInt8)} (h : GpAt w lo g A n C most f t p s) :
    Calls Tryz.prog 25 #[.pointer (some ⟨g, 0, none⟩)] w fun e w' => e = .returned (.string ⟨((p ++ s).flatten).toArray⟩) ∧ Below w.heap.size w w' := by
  have H := Lib.hid h
  have hown := h.own_lt
  have hl4 : ln p s ≤ 4096 := by have := h.ln_le; have := h.m4; omega
  have h64 : ∀ c ∈ p ++ s, c.length ≤ 64 := fun c hc => isC_len (h.is c hc)
  clear h
  refine (callsIn_wide (n := 9)).1 ?_
  refine callsIn_of_wp_marks Tryz.func25 rfl trivial ?_ rfl
  simp only [Tryz.ntmps25, List.size_toArray, List.length_cons, List.length_nil, Nat.reduceAdd, Nat.reduceSub, Array.replicate_succ, Array.replicate_zero, List.push_toArray, List.append_toArray, List.nil_append, List.cons_append]
  refine wpIn_wide.2 ?_
  go_wp2_with (go_at_call 37; refine (gall_any _ _).mono ?_; rintro e w' ⟨rfl, rfl⟩)
  refine (wpIn_wide (n := 9)).1 ?_
  have hBd : BldAt ((w.alloc (.cells #[.pointer none, .slice none 0 0] 73)).alloc (.cells #[.pointer (some ⟨g, 0, none⟩)] 43)) w.heap.size none 0 0 [] :=
    ⟨_, .inl rfl, (Blk.new w 73 [.pointer none, .slice none 0 0]).alloc _, OB.none_ _ _⟩
  have hS := Boxed.new (w.alloc (.cells #[.pointer none, .slice none 0 0] 73)) 43 (.pointer (some ⟨g, 0, none⟩))
  rw [World.size_alloc] at hS
  have hb0 : Below w.heap.size w ((w.alloc (.cells #[.pointer none, .slice none 0 0] 73)).alloc (.cells #[.pointer (some ⟨g, 0, none⟩)] 43)) := ((Below.refl _ w).alloc (Nat.le_refl _) _).alloc (by simp) _
  have hG := H.out.below hb0
  refine range_priv rfl (by omega) (gf := 64) (lb := #[.pointer (some ⟨w.heap.size + 1, 0, none⟩)]) rfl trivial (enters_of Tryz.func64 (by kernel_rfl) rfl)
    (gall_stops hG (w.heap.size + 1) hS.cell (lent w.heap.size (w.heap.size + 1)) (.inr rfl) (fun k hk => .inl (hown k hk).2))
    (Nat.le_refl _) (fun k hk => ⟨by rcases hk with hk | hk <;> simp <;> omega, rfl⟩) (fun _ => rfl)
    (fun pre f W => HoldS w.heap.size ((pre.map (·.2)).flatten) f W ∧ Below w.heap.size w W ∧ ((pre.map (·.2)).flatten).length ≤ 64 * pre.length)
    (fun _ _ _ _ => False)
    (AbP.and (AbP.holdS (fun (pre : List (Nat × List UInt8)) => (pre.map (·.2)).flatten) (by simp <;> omega)) (AbP.and (AbP.below (by simp <;> omega) (Nat.le_refl _)) (AbP.pure _)))
    (fun _ => AbP.none _)
    ⟨⟨none, 0, 0, hBd, fun g hg => by cases hg⟩, hb0, by simp⟩
    (fun x => { tmps := #[.pointer (some ⟨g, 0, none⟩), undef, .string ⟨#[]⟩, .pointer (some ⟨w.heap.size, 0, none⟩), undef, .string ⟨x.2.toArray⟩, .pointer (some ⟨g, 0, none⟩), .func (.func 64) #[] #[.pointer (some ⟨w.heap.size + 1, 0, none⟩)], .int .i64 x.1, .string ⟨x.2.toArray⟩, undef, undef, undef], defers := [] }) ?assign ?body ?done ?stop
  case assign =>
    intro l x W K hK
    simp only [encG]
    rw [put_two]
    gi_wp2
    exact hK
  case body =>
    rintro l pre x f W hf hz ⟨⟨A1, n1, c1, hbd, hm⟩, hbW, hfl⟩ hlen hel
    have hx64 : x.2.length ≤ 64 := h64 _ (List.mem_of_getElem? hel)
    have hxs : (⟨x.2.toArray⟩ : ByteArray).size = x.2.length := size_of x.2
    have hnf := not_lent (b := w.heap.size) hf (Nat.le_refl _) (by omega) (by simp <;> omega)
    have hn1 : n1 ≤ 300000 := by have := hbd.len; omega
    have hfs : ∀ k, f k → k < W.heap.size := fun k hk => by
      rcases hf k hk with h | h
      · rcases h with h | h
        · have := hbW.size; omega
        · simp at hz; omega
      · exact h.2
    have hcall := wstr2 hbd ⟨x.2.toArray⟩ (by rw [hxs]; omega)
    have fin : ∀ (W' : World) (A' : Option Addr) (c' m : Nat), BldAt W' w.heap.size A' m c' ((pre.map (·.2)).flatten ++ x.2) → Chg (fun k => k = w.heap.size ∨ blk A1 = some k) W W' → (∀ g, blk A' = some g → blk A1 = some g ∨ W.heap.size ≤ g) →
        Rk ((w.alloc (.cells #[.pointer none, .slice none 0 0] 73)).alloc (.cells #[.pointer (some ⟨g, 0, none⟩)] 43)).heap.size f W W' ∧ HoldS w.heap.size (((pre ++ [x]).map (·.2)).flatten) f W' ∧ Below w.heap.size w W' ∧ (((pre ++ [x]).map (·.2)).flatten).length ≤ 64 * (pre ++ [x]).length := fun W' A' c' m hb' hc' hA' =>
      ⟨rk_of_chg hc' (fun k hk => ⟨hfs k hk, fun e => by
          rcases e with e | e
          · subst e; exact hnf hk
          · exact hm k e hk⟩) hbd.cells, ⟨A', m, c', by rw [flat_snoc]; exact hb', fun g hg hfg => by
          rcases hA' g hg with h1 | h1
          · exact hm g h1 hfg
          · have := hfs g hfg; omega⟩, hbW.trans (hc'.below hbW.size (fun k hk => by
          rcases hk with rfl | hk
          · exact Nat.le_refl _
          · obtain ⟨_, _, _, ho⟩ := hbd; exact (ho.blk_lt k hk).1)), by rw [flat_snoc]; simp only [List.length_append, List.length_singleton]; omega⟩
    have FIN := Lib.hid fin
    have HCALL := Lib.hid hcall
    clear fin hcall hbd hm hfl hf hfs hnf hxs hx64 hel hbW hBd hS hb0 hG h64 hown
    gi_wp2
    refine ⟨trivial, ?_⟩
    gi_wp2_with (gi_at_call 38; refine (CallsIn.inRound l (callsIn_wide.2 HCALL.out)).mono ?_; rintro e W' ⟨A', c', rfl, hb', hc', hA'⟩)
    exact FIN.out _ _ _ _ hb' hc' hA'
  case done =>
    rintro D ys f W hD rfl ⟨⟨A1, n1, c1, hbd, hm⟩, hbW, hfl⟩ hK
    rw [ats_snd] at hbd
    have hcall := gstring_any hbd
    have hDne : ∀ W', Chg (fun k => blk A1 = some k) W W' → W'.heap[D]? = some (.deferred (some [])) := fun W' hc => hc.heap hK (fun e => by
      have := hbd.cells D _ (.inr e) hK
      cases this)
    have HD := Lib.hid hDne
    have HCALL := Lib.hid hcall
    have HBW := Lib.hid hbW
    have hA1 : ∀ k, blk A1 = some k → w.heap.size ≤ k := fun k hk => by obtain ⟨_, _, _, ho⟩ := hbd; exact (ho.blk_lt k hk).1
    have HA1 := Lib.hid hA1
    clear hcall hbd hm hfl hBd hS hb0 hG h64 hown hbW hDne hA1
    go_wp2_with (go_at_call 39; refine HCALL.out.mono ?_; rintro e W' ⟨rfl, hc'⟩)
    refine ⟨by simp, .inl ⟨_, _, rfl, run_takeDeferred (HD.out _ hc'), ?_⟩⟩
    exact ⟨_, results_tmp rfl _ _ _, by rw [List.flatten_append]; rfl, (HBW.out.trans (hc'.below HBW.out.size HA1.out)).trans (belowK_b (w := w) (Nat.le_refl _) W' D _ _ (by simp at hD; omega) (HD.out _ hc') rfl rfl)⟩
  case stop =>
    rintro D c pre f W _ _ h _
    exact h.elim
end Go.Proofs.YtfhfhjcdeeepbaaGreatDoor
