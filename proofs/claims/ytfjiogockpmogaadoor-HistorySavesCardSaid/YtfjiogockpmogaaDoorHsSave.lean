/-
  Walks: Save of a history; Save, Fork, Find of one that nobody made.
-/
import Derived.Test.YtfjiogockpmogaaDoorHsStr
import Derived.Test.YtfjiogockpmogaaDoorHsNewer
namespace Go.Proofs.YtfjiogockpmogaaDoor
open Go.RowKit Go.Shelf
attribute [local go_sem] Oper.semAt_some
set_option linter.unusedVariables false
set_option linter.unusedSimpArgs false

/-- the text of lines that are handed out one after another -/
def saveP (l : List (Nat × List UInt8)) : List UInt8 := (l.map (fun x => x.2 ++ [10])).flatten
theorem saveP_snoc (l : List (Nat × List UInt8)) (x : Nat × List UInt8) : saveP (l ++ [x]) = saveP l ++ x.2 ++ [10] := by simp [saveP]
/-- what Save comes to -/
def saveB (L : List (List UInt8)) : List UInt8 := (L.reverse.map (· ++ [10])).flatten
theorem saveP_hats (L : List (List UInt8)) : saveP (hats L).reverse = saveB L := by
  unfold saveP saveB
  rw [← List.map_reverse.symm, ← List.map_reverse.symm]
  congr 2
  have h := txh_hats L
  unfold txh at h
  conv => rhs; rw [← h]
  rw [List.map_map]
  rfl

set_option maxHeartbeats 1000000 in
theorem hsave_not {w : World} {p : Option Addr} (h : HsNo w p) :
    Calls Tryd.prog 21 #[.pointer p] w fun e w' => e = .returned (.string ⟨#[]⟩) ∧ w = w' := by
  have H := Lib.hid h
  clear h
  go_enter Tryd.func21, Tryd.ntmps21
  go_wp2_with (go_at_call 35; refine (hmade_not H.out).mono ?_; rintro e w' ⟨rfl, rfl⟩)
  go_ret
  exact ⟨rfl, rfl⟩
set_option maxHeartbeats 1000000 in
theorem hfork_not {w : World} {p : Option Addr} (h : HsNo w p) :
    Calls Tryd.prog 26 #[.pointer p] w fun e w' => e = .returned (.pointer none) ∧ w = w' := by
  have H := Lib.hid h
  clear h
  go_enter Tryd.func26, Tryd.ntmps26
  go_wp2_with (go_at_call 35; refine (hmade_not H.out).mono ?_; rintro e w' ⟨rfl, rfl⟩)
  go_ret
  exact ⟨rfl, rfl⟩

set_option maxRecDepth 100000 in
set_option maxHeartbeats 4000000 in
theorem hsave_any {w : World} {lo h c most : Nat} {A : Option Addr} {L : List (List UInt8)} {K : Option HW} (q : HsAt w lo h A c most L K) :
    Calls Tryd.prog 21 #[.pointer (some ⟨h, 0, none⟩)] w fun e w' => e = .returned (.string ⟨(saveB L).toArray⟩) ∧ Below w.heap.size w w' := by
  have c0 := q.c0
  have h2 := q.c2
  have hl4 := q.len4
  have hok : ∀ l ∈ L, l.length ≤ 3000 := fun l hl => (q.ok l hl).2
  have HROW := Lib.hid q.row
  have HRN : Hid (∀ k, blk A = some k → k < w.heap.size) := Lib.hid (fun k hk => (q.rne k hk).2.2)
  have hlt := q.head.lt
  clear q
  refine (callsIn_wide (n := 9)).1 ?_
  refine callsIn_of_wp_marks Tryd.func21 rfl trivial ?_ rfl
  simp only [Tryd.ntmps21, List.size_toArray, List.length_cons, List.length_nil, Nat.reduceAdd, Nat.reduceSub, Array.replicate_succ, Array.replicate_zero, List.push_toArray, List.append_toArray, List.nil_append, List.cons_append]
  refine wpIn_wide.2 ?_
  go_wp2_with (first
    | (go_at_call 35; refine (hmade_yes h _ c0).mono ?_; rintro e w' ⟨rfl, rfl⟩)
    | (go_at_call 45; refine (hsback_any _ _ _ _).mono ?_; rintro e w' ⟨rfl, rfl⟩))
  have hBd : BldAt ((w.alloc (.cells #[.pointer none, .slice none 0 0] 85)).alloc (.cells #[.slice A L.length c] 27)) w.heap.size none 0 0 [] :=
    ⟨_, .inl rfl, (Blk.new w 85 [.pointer none, .slice none 0 0]).alloc _, OB.none_ _ _⟩
  have hS := Boxed.new (w.alloc (.cells #[.pointer none, .slice none 0 0] 85)) 27 (.slice A L.length c)
  rw [World.size_alloc] at hS
  have hb0 : Below w.heap.size w ((w.alloc (.cells #[.pointer none, .slice none 0 0] 85)).alloc (.cells #[.slice A L.length c] 27)) := ((Below.refl _ w).alloc (Nat.le_refl _) _).alloc (by simp) _
  have hsz : ((w.alloc (.cells #[.pointer none, .slice none 0 0] 85)).alloc (.cells #[.slice A L.length c] 27)).heap.size = w.heap.size + 2 := by simp
  generalize (w.alloc (.cells #[.pointer none, .slice none 0 0] 85)).alloc (.cells #[.slice A L.length c] 27) = X1 at *
  have hrow1 := (HROW.out.below hb0).more hb0.size
  have hxs : w.heap.size + 2 ≤ X1.heap.size := by omega
  have HSZ := Lib.hid hsz
  clear hsz
  refine (wpIn_wide (n := 9)).1 ?_
  refine range_priv rfl (by omega) (gf := 59) (lb := #[.pointer (some ⟨w.heap.size + 1, 0, none⟩)]) rfl trivial (enters_of Tryd.func59 (by kernel_rfl) rfl)
    (hback_stops L L.length c A 6 (w.heap.size + 1) X1 rfl (by omega) hrow1 hS (fun k => k = w.heap.size + 1 ∨ blk A = some k) (.inl rfl) (fun k hk => .inr hk))
    (Nat.le_refl _) (fun k hk => ⟨by
      rcases hk with hk | hk
      · omega
      · have := HRN.out k hk; omega, rfl⟩) (fun _ => rfl)
    (fun pre f W => HoldS w.heap.size (saveP pre) f W ∧ Below w.heap.size w W ∧ (saveP pre).length ≤ 3001 * pre.length)
    (fun _ _ _ _ => False)
    (AbP.and (AbP.holdS (fun (pre : List (Nat × List UInt8)) => saveP pre) (by omega)) (AbP.and (AbP.below (by omega) (Nat.le_refl _)) (AbP.pure _)))
    (fun _ => AbP.none _)
    ⟨⟨none, 0, 0, hBd, fun g hg => by cases hg⟩, hb0, by simp [saveP]⟩
    ?a1 ?assign ?body ?done ?stop
  case assign =>
    intro l x W K hK
    simp only [encH]
    rw [put_two]
    gi_wp2
    exact hK
  case body =>
    rintro l' pre x f W hf hz ⟨⟨A1, n1, c1, hbd, hm⟩, hbW, hfl⟩ hlen hel
    have hx64 : x.2.length ≤ 3000 := hok _ (List.mem_of_getElem? hel)
    have hxs2 : (⟨x.2.toArray⟩ : ByteArray).size = x.2.length := size_of x.2
    have hfs : ∀ k, f k → k < W.heap.size := fun k hk => by
      rcases hf k hk with h | h
      · rcases h with h | h
        · omega
        · have := HRN.out k h; have := hbW.size; omega
      · exact h.2
    have hnf : ¬ f w.heap.size := fun hk => by
      rcases hf _ hk with h | h
      · rcases h with h | h
        · omega
        · have := HRN.out _ h; omega
      · omega
    have hn1 : n1 ≤ 800000 := by have := hbd.len; omega
    have hcall := wstr2 hbd ⟨x.2.toArray⟩ (by rw [hxs2]; omega)
    have cA : ∀ (W' : World) (A' : Option Addr) (c' m : Nat) (t t' : List UInt8), BldAt W w.heap.size A1 n1 c1 t → True := fun _ _ _ _ _ _ _ => trivial
    have step : ∀ (V W' : World) (A0 A' : Option Addr) (n0 c0 m c' : Nat) (t t' : List UInt8), W.heap.size ≤ V.heap.size → Rk X1.heap.size f W V → Below w.heap.size w V → BldAt V w.heap.size A0 n0 c0 t → (∀ g, blk A0 = some g → ¬ f g) → BldAt W' w.heap.size A' m c' t' → Chg (fun k => k = w.heap.size ∨ blk A0 = some k) V W' → (∀ g, blk A' = some g → blk A0 = some g ∨ V.heap.size ≤ g) →
        Rk X1.heap.size f W W' ∧ Below w.heap.size w W' ∧ (∀ g, blk A' = some g → ¬ f g) := fun V W' A0 A' n0 c0 m c' t t' hVz hRk hBl hb0 hm0 hb' hc' hA' =>
      ⟨hRk.trans (rk_of_chg hc' (fun k hk => ⟨Nat.lt_of_lt_of_le (hfs k hk) hVz, fun e => by
          rcases e with e | e
          · subst e; exact hnf hk
          · exact hm0 k e hk⟩) hb0.cells), hBl.trans (hc'.below hBl.size (fun k hk => by
          rcases hk with rfl | hk
          · exact Nat.le_refl _
          · obtain ⟨_, _, _, ho⟩ := hb0; exact (ho.blk_lt k hk).1)), fun g hg hfg => by
          rcases hA' g hg with h1 | h1
          · exact hm0 g h1 hfg
          · have := hfs g hfg; omega⟩
    have STEP := Lib.hid step
    have HCALL := Lib.hid hcall
    have HBD := Lib.hid hbd
    have HM := Lib.hid hm
    have HBW := Lib.hid hbW
    have hfl2 : (saveP (pre ++ [x])).length ≤ 3001 * (pre ++ [x]).length := by rw [saveP_snoc]; simp only [List.length_append, List.length_singleton]; omega
    have HFL := Lib.hid hfl2
    have HL1 := Lib.hid hbd.len
    clear step hcall hbd hm hfl hf hfs hnf hxs2 hel hbW hBd hS hb0 cA hfl2
    gi_wp2
    refine ⟨trivial, ?_⟩
    gi_wp2_with (gi_at_call 46; refine (CallsIn.inRound l' (callsIn_wide.2 HCALL.out)).mono ?_; rintro e V ⟨A', c', rfl, hb', hc', hA'⟩)
    have s1 := STEP.out W V A1 A' n1 c1 _ c' _ _ (Nat.le_refl _) (Rk.refl _ _ _) HBW.out HBD.out HM.out hb' hc' hA'
    have hxs3 : (⟨x.2.toArray⟩ : ByteArray).size = x.2.length := size_of x.2
    have hcall2 := wbyte2 hb' 10 (by rw [hxs3]; omega)
    have HCALL2 := Lib.hid hcall2
    have HB' := Lib.hid hb'
    have HS1 := Lib.hid s1
    have HVZ := Lib.hid hc'.size
    clear hcall2 hb' hc' hA' s1 hxs3
    gi_wp2
    refine ⟨trivial, ?_⟩
    gi_wp2_with (gi_at_call 47; refine (CallsIn.inRound l' (callsIn_wide.2 HCALL2.out)).mono ?_; rintro e V2 ⟨A2, c2, rfl, hb2, hc2, hA2⟩)
    have s2 := STEP.out V V2 A' A2 _ c' _ c2 _ _ HVZ.out HS1.out.1 HS1.out.2.1 HB'.out HS1.out.2.2 hb2 hc2 hA2
    exact ⟨s2.1, ⟨A2, _, c2, by rw [saveP_snoc]; exact hb2, s2.2.2⟩, s2.2.1, HFL.out⟩
  case done =>
    rintro D ys f W hD rfl ⟨⟨A1, n1, c1, hbd, hm⟩, hbW, hfl⟩ hK
    rw [saveP_hats] at hbd
    have hcall := gstring_any hbd
    have hDne : ∀ W', Chg (fun k => blk A1 = some k) W W' → W'.heap[D]? = some (.deferred (some [])) := fun W' hc => hc.heap hK (fun e => by
      have := hbd.cells D _ (.inr e) hK
      cases this)
    have HD := Lib.hid hDne
    have HCALL := Lib.hid hcall
    have HBW := Lib.hid hbW
    have hA1 : ∀ k, blk A1 = some k → w.heap.size ≤ k := fun k hk => by obtain ⟨_, _, _, ho⟩ := hbd; exact (ho.blk_lt k hk).1
    have HA1 := Lib.hid hA1
    clear hcall hbd hm hfl hBd hS hb0 hbW hDne hA1
    go_wp2_with (go_at_call 48; refine HCALL.out.mono ?_; rintro e W' ⟨rfl, hc'⟩)
    refine ⟨by simp, .inl ⟨_, _, rfl, run_takeDeferred (HD.out _ hc'), ?_⟩⟩
    exact ⟨_, results_tmp rfl _ _ _, rfl, (HBW.out.trans (hc'.below HBW.out.size HA1.out)).trans (belowK_b (w := w) (Nat.le_refl _) W' D _ _ (by omega) (HD.out _ hc') rfl rfl)⟩
  case stop =>
    rintro D c pre f W _ _ h _
    exact h.elim
end Go.Proofs.YtfjiogockpmogaaDoor
