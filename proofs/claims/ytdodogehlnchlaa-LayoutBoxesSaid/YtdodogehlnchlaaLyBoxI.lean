/-
  Walk: the iterator over boxes: a range within a round of another range, with the call of yield.
-/
import Derived.Test.YtdodogehlnchlaaLyBox
namespace Go.Proofs.Ytdodogehlnchlaa
open Go.RowKit Go.Shelf Go.Sort
attribute [local go_sem] Oper.semAt_some
set_option linter.unusedVariables false
set_option linter.unusedSimpArgs false

set_option maxRecDepth 100000 in
set_option maxHeartbeats 16000000 in
theorem boxes_stops (σ τ : Sts) (n m : Nat) (A1 A2 : Option Addr) (B1 B2 D C : Nat) (w : World) (hn : n ≤ 64) (hm : m ≤ 64) (hA1 : 0 < n → A1 = some ⟨B1, 0, none⟩) (hA2 : 0 < m → A2 = some ⟨B2, 0, none⟩)
    (hS1 : 0 < n → Blk w B1 62 (slB σ n)) (hS2 : 0 < m → Blk w B2 62 (slB τ m)) (hD : Boxed w D 56 (.slice A1 n n)) (hC : Boxed w C 56 (.slice A2 m m))
    (f0 : Nat → Prop) (fD : f0 D) (fC : f0 C) (fB1 : 0 < n → f0 B1) (fB2 : 0 < m → f0 B2) (hfs : ∀ k, f0 k → k < w.heap.size) :
    SeqP Fence.wide 8 Try.prog 45 #[.pointer (some ⟨D, 0, none⟩), .pointer (some ⟨C, 0, none⟩)] encB f0 (fun _ => True) (fun ys => ys = lnB (boxL σ n τ m)) (fun pre => pre <+: lnB (boxL σ n τ m)) (n * m) w := by
  intro l J Jx W hsz hf0 hJ hJx hY h0
  have hfW : ∀ k, f0 k → k < W.heap.size := fun k hk => Nat.lt_of_lt_of_le (hfs k hk) hsz
  have hbs : BxS B1 B2 D C W.heap.size l A1 A2 n m σ τ (W.alloc (.cells #[.func (.yield l) #[] #[]] 83)) := by
    have tr : ∀ k o, f0 k → w.heap[k]? = some o → (W.alloc (.cells #[.func (.yield l) #[] #[]] 83)).heap[k]? = some o := fun k o hk ho => by
      rw [Below.heap_alloc _ _ _ (hfW k hk), hf0 k hk]; exact ho
    exact ⟨fun h => tr _ _ (fB1 h) (hS1 h), fun h => tr _ _ (fB2 h) (hS2 h), tr _ _ fD hD, tr _ _ fC hC, Boxed.new W _ _⟩
  have hb3 : Below W.heap.size W (((W.alloc (.cells #[.func (.yield l) #[] #[]] 83)).alloc (.cells #[.int .i64 0] 3)).alloc (.cells #[.slice A1 n n] 56)) := (((Below.refl _ W).alloc (Nat.le_refl _) _).alloc (by simp) _).alloc (by simp; omega) _
  have hcd : (((W.alloc (.cells #[.func (.yield l) #[] #[]] 83)).alloc (.cells #[.int .i64 0] 3))).cell? ⟨D, 0, none⟩ = some (.slice A1 n n) := ((hbs.d).alloc (.cells #[.int .i64 0] 3)).cell
  have hbs3 : BxS B1 B2 D C W.heap.size l A1 A2 n m σ τ (((W.alloc (.cells #[.func (.yield l) #[] #[]] 83)).alloc (.cells #[.int .i64 0] 3)).alloc (.cells #[.slice A1 n n] 56)) :=
    (hbs.below ((Below.refl _ _).alloc (Nat.le_refl _) _)).below ((Below.refl _ _).alloc (Nat.le_refl _) _)
  have hnb : Boxed (((W.alloc (.cells #[.func (.yield l) #[] #[]] 83)).alloc (.cells #[.int .i64 0] 3)).alloc (.cells #[.slice A1 n n] 56)) (W.heap.size + 1) 3 (.int .i64 0) := by
    have := (Boxed.new (W.alloc (.cells #[.func (.yield l) #[] #[]] 83)) 3 (.int .i64 0)).alloc (.cells #[.slice A1 n n] 56)
    rwa [World.size_alloc] at this
  have hkd : Boxed (((W.alloc (.cells #[.func (.yield l) #[] #[]] 83)).alloc (.cells #[.int .i64 0] 3)).alloc (.cells #[.slice A1 n n] 56)) (W.heap.size + 2) 56 (.slice A1 n n) := by
    have := Boxed.new ((W.alloc (.cells #[.func (.yield l) #[] #[]] 83)).alloc (.cells #[.int .i64 0] 3)) 56 (.slice A1 n n)
    rwa [World.size_alloc, World.size_alloc] at this
  have hs3 : (((W.alloc (.cells #[.func (.yield l) #[] #[]] 83)).alloc (.cells #[.int .i64 0] 3)).alloc (.cells #[.slice A1 n n] 56)).heap.size = W.heap.size + 3 := by simp
  have HBS3 := Lib.hid hbs3
  have HNB := Lib.hid hnb
  have HKD := Lib.hid hkd
  have HB3 := Lib.hid hb3
  have H0 := Lib.hid h0
  have HJ := Lib.hid hJ
  have HJX := Lib.hid hJx
  have HY := Lib.hid hY
  have HFW := Lib.hid hfW
  have HA1 := Lib.hid hA1
  have HA2 := Lib.hid hA2
  have HLT : Hid (D < W.heap.size ∧ C < W.heap.size ∧ (0 < n → B1 < W.heap.size) ∧ (0 < m → B2 < W.heap.size)) := ⟨hfW _ fD, hfW _ fC, fun h => hfW _ (fB1 h), fun h => hfW _ (fB2 h)⟩
  have HFI : Hid (f0 D ∧ f0 C ∧ (0 < n → f0 B1) ∧ (0 < m → f0 B2)) := ⟨fD, fC, fB1, fB2⟩
  clear hbs hbs3 hnb hkd hb3 h0 hJ hJx hY hfW hA1 hA2 hS1 hS2 hD hC fD fC fB1 fB2 hfs hf0 hsz
  refine callsIn_of_wp_marks Try.func45 rfl trivial ?_ rfl
  simp only [Try.ntmps45, List.size_toArray, List.length_cons, List.length_nil, Nat.reduceAdd, Nat.reduceSub, Array.replicate_succ, Array.replicate_zero, List.push_toArray, List.append_toArray, List.nil_append, List.cons_append]
  refine wpIn_wide.2 ?_
  go_wp2_with (go_at_call 39; refine (kept_any _ _ _ _).mono ?_; rintro e w' ⟨rfl, rfl⟩)
  obtain ⟨X1, hX1⟩ : ∃ X1, X1 = (((W.alloc (.cells #[.func (.yield l) #[] #[]] 83)).alloc (.cells #[.int .i64 0] 3)).alloc (.cells #[.slice A1 n n] 56)) := ⟨_, rfl⟩
  rw [← hX1] at HBS3 HNB HKD HB3 hs3 ⊢
  clear hX1 hcd
  refine (wpIn_wide (n := 8)).1 ?_
  have hJ1 : J [] (fun k => k = W.heap.size + 2 ∨ f0 k ∨ k = W.heap.size ∨ k = W.heap.size + 1) X1 := HJ.out [] f0 _ W X1 H0.out (Turn.of_below HB3.out) (fun k hk => by
    rcases hk with hk | hk | hk | hk
    · exact .inr ⟨by omega, by omega⟩
    · exact .inl hk
    · exact .inr ⟨by omega, by omega⟩
    · exact .inr ⟨by omega, by omega⟩)
  refine range_qA rfl (by omega) (gf := 46) (lb := #[.pointer (some ⟨W.heap.size + 2, 0, none⟩)]) rfl trivial (enters_of Try.func46 (by kernel_rfl) rfl)
    (kept_stopsA A1 B1 n (kpO σ) 5 (W.heap.size + 2) X1 hn HA1.out HKD.out (fun k => k = W.heap.size + 2) rfl)
    (Nat.le_refl _) (fun k hk => ⟨by omega, rfl⟩) (fun _ => rfl)
    (fun pre f V => J (lnB (flL σ τ (ki (kpO τ) m) pre)) (fun k => f k ∨ f0 k ∨ k = W.heap.size ∨ k = W.heap.size + 1) V ∧ BxS B1 B2 D C W.heap.size l A1 A2 n m σ τ V ∧ Boxed V (W.heap.size + 1) 3 (.int .i64 ((flL σ τ (ki (kpO τ) m) pre).length : Nat)))
    (fun c pre' f V => c = .ret ∧ ∃ p x q, pre' = p ++ [x] ∧ q <+: ki (kpO τ) m ∧ Jx (lnB (flL σ τ (ki (kpO τ) m) p ++ rowB σ τ x q)) (fun k => f k ∨ f0 k ∨ k = W.heap.size ∨ k = W.heap.size + 1) V)
    (fun pre f V h => h.2.1.rd1)
    ?abI ?abX
    ⟨hJ1, HBS3.out, HNB.out⟩
    (fun pre f x a' V => ∃ rb, a' = { tmps := #[.func (.yield l) #[] #[], .pointer (some ⟨D, 0, none⟩), .pointer (some ⟨C, 0, none⟩), .pointer (some ⟨W.heap.size, 0, none⟩), .pointer (some ⟨W.heap.size + 1, 0, none⟩), .pointer (some ⟨rb, 0, none⟩), undef, .slice A1 n n, .func (.func 46) #[] #[.pointer (some ⟨W.heap.size + 2, 0, none⟩)], .pointer (some ⟨B1, x * 7, none⟩), undef, undef, undef, undef, undef, undef, undef, undef, undef, undef, undef, undef, undef, undef, undef, undef, undef, undef, undef, undef, undef, undef, undef, undef, undef, undef], defers := [] } ∧
      Boxed V rb 78 (.pointer (some ⟨B1, x * 7, none⟩)) ∧ X1.heap.size + 2 ≤ rb ∧ J (lnB (flL σ τ (ki (kpO τ) m) pre)) (fun k => f k ∨ f0 k ∨ k = W.heap.size ∨ k = W.heap.size + 1 ∨ k = rb) V)
    ?hAx ?assign ?body ?done ?stop
  case abI =>
    refine fun pre f f' A B h ht hf => ⟨HJ.out _ _ _ A B h.1 ((ht.mono (by omega)).moreF (fun _ h => .inl h)) (fun k hk => ?_), h.2.1.keep (fun k o ho hk => ht.block k o ho (.inl ?_)), ht.block _ _ h.2.2 (.inl (by omega))⟩
    · rcases hk with hk | hk
      · exact (hf k hk).imp .inl id
      · exact .inl (.inr hk)
    · have := HLT.out
      rcases hk with ⟨rfl, h1⟩ | ⟨rfl, h1⟩ | rfl | rfl | rfl
      · have := this.2.2.1 h1; omega
      · have := this.2.2.2 h1; omega
      · omega
      · omega
      · omega
  case abX =>
    rintro c pre' f f' A B ⟨hc, p, x, q, e1, e2, hj⟩ ht hf
    refine ⟨hc, p, x, q, e1, e2, HJX.out _ _ _ A B hj ((ht.mono (by omega)).moreF (fun _ h => .inl h)) (fun k hk => ?_)⟩
    rcases hk with hk | hk
    · exact (hf k hk).imp .inl id
    · exact .inl (.inr hk)
  case hAx =>
    rintro pre f x a' V lo o o' hlo ho hc ⟨rb, e, hb, hr, hj⟩
    refine ⟨rb, e, (World.putObj_heap_other (fun e => ?_)).trans hb, hr, HJ.out.put o' hj (by omega) ho hc⟩
    subst e
    have hb' : V.heap[rb]? = _ := hb
    rw [ho] at hb'
    cases hb'
    cases hc
  case assign =>
    intro lo pre x f V K hff hz ⟨hj, hbx, hnb⟩ hlen hel hK
    have HK := Lib.hid hK
    have hjn := HJ.out _ _ (fun k => f k ∨ f0 k ∨ k = W.heap.size ∨ k = W.heap.size + 1 ∨ k = V.heap.size) V (V.alloc (.cells #[.pointer (some ⟨B1, x * 7, none⟩)] 78)) hj (Turn.of_below ((Below.refl _ _).alloc (Nat.le_refl _) _)) (fun k hk => by
      rcases hk with hk | hk | hk | hk | hk
      · exact .inl (.inl hk)
      · exact .inl (.inr (.inl hk))
      · exact .inl (.inr (.inr (.inl hk)))
      · exact .inl (.inr (.inr (.inr hk)))
      · exact .inr ⟨by omega, by simp; omega⟩)
    have hjs := HJ.out _ _ (fun k => f k ∨ f0 k ∨ k = W.heap.size ∨ k = W.heap.size + 1) V (V.alloc (.cells #[.pointer (some ⟨B1, x * 7, none⟩)] 78)) hj (Turn.of_below ((Below.refl _ _).alloc (Nat.le_refl _) _)) (fun k hk => .inl hk)
    have hfin := HK.out { tmps := #[.func (.yield l) #[] #[], .pointer (some ⟨D, 0, none⟩), .pointer (some ⟨C, 0, none⟩), .pointer (some ⟨W.heap.size, 0, none⟩), .pointer (some ⟨W.heap.size + 1, 0, none⟩), .pointer (some ⟨V.heap.size, 0, none⟩), undef, .slice A1 n n, .func (.func 46) #[] #[.pointer (some ⟨W.heap.size + 2, 0, none⟩)], .pointer (some ⟨B1, x * 7, none⟩), undef, undef, undef, undef, undef, undef, undef, undef, undef, undef, undef, undef, undef, undef, undef, undef, undef, undef, undef, undef, undef, undef, undef, undef, undef, undef], defers := [] } (V.alloc (.cells #[.pointer (some ⟨B1, x * 7, none⟩)] 78))
      (Rk.of_below ((Below.refl _ _).alloc (Nat.le_refl _) _) (fun k hk => by rcases hff k hk with h | h <;> omega)) ⟨hjs, hbx.below ((Below.refl _ _).alloc (Nat.le_refl _) _), hnb.alloc _⟩ ⟨V.heap.size, rfl, Boxed.new V _ _, by omega, hjn⟩
    have HFN := Lib.hid hfin
    simp only [encK]
    rw [put_one1]
    clear hK hj hbx hnb hjn hjs hfin
    gi_wp2
    exact HFN.out
  case body =>
    rintro lo pre x a' f V hff hz hlo hrec ⟨hj0, hbx, hnb⟩ ⟨rb, rfl, hrb, hrl, hj⟩ hlen hel
    clear hj0
    obtain ⟨r0, hrec⟩ := hrec
    have hrbl := Boxed.lt hrb
    have hcc : V.cell? ⟨C, 0, none⟩ = some (.slice A2 m m) := hbx.c.cell
    have hkc := Boxed.new V 56 (.slice A2 m m)
    have hbx2 := hbx.below ((Below.refl _ _).alloc (Nat.le_refl _) (.cells #[.slice A2 m m] 56))
    have hnb2 := hnb.alloc (.cells #[.slice A2 m m] 56)
    have hrb2 := hrb.alloc (.cells #[.slice A2 m m] 56)
    have hrec2 : (V.alloc (.cells #[.slice A2 m m] 56)).heap[lo]? = some (.loop r0) := by
      rw [Below.heap_alloc _ _ _ (Array.getElem?_eq_some_iff.1 hrec).1]; exact hrec
    have hsv : (V.alloc (.cells #[.slice A2 m m] 56)).heap.size = V.heap.size + 1 := by simp
    have hfV : ∀ k, f k → k < V.heap.size := fun k hk => by rcases hff k hk with h | h <;> omega
    have hrk2 : Rk X1.heap.size f V (V.alloc (.cells #[.slice A2 m m] 56)) := Rk.of_below ((Below.refl _ _).alloc (Nat.le_refl _) _) hfV
    have hj2 := HJ.out _ _ (fun k => k = V.heap.size ∨ f k ∨ f0 k ∨ k = W.heap.size ∨ k = W.heap.size + 1 ∨ k = rb) V (V.alloc (.cells #[.slice A2 m m] 56)) hj (Turn.of_below ((Below.refl _ _).alloc (Nat.le_refl _) _)) (fun k hk => by
      rcases hk with hk | hk
      · exact .inr ⟨by omega, by omega⟩
      · exact .inl hk)
    have hnf : ¬ f (W.heap.size + 1) := fun h => by rcases hff _ h with h | h <;> omega
    have HBX2 := Lib.hid hbx2
    have HNB2 := Lib.hid hnb2
    have HRB2 := Lib.hid hrb2
    have HRK2 := Lib.hid hrk2
    have HJ2 := Lib.hid hj2
    have HKC := Lib.hid hkc
    have HREC2 := Lib.hid hrec2
    have HFV := Lib.hid hfV
    have HNF := Lib.hid hnf
    have HFF := Lib.hid hff
    have HLEN := Lib.hid hlen
    have HEL : Hid (x < n ∧ kpO σ x = true) := hel
    clear hbx hnb hrb hj hbx2 hnb2 hrb2 hrk2 hj2 hkc hrec2 hfV hnf hff hlen hel hrec hJ1
    gi_wp2_with (fail)
    refine ⟨trivial, ?_⟩
    refine (CallsIn.inRound lo (callsIn_wide.2 (kept_any A2 m m V))).mono ?_
    rintro e w' ⟨rfl, rfl⟩
    gi_wp2_with (fail)
    obtain ⟨V2, hV2⟩ : ∃ V2, V2 = V.alloc (.cells #[.slice A2 m m] 56) := ⟨_, rfl⟩
    rw [← hV2] at HBX2 HNB2 HRB2 HRK2 HJ2 HKC HREC2 hsv ⊢
    clear hV2 hcc
    refine range_qN (F := Fence.wide.inRound lo) (l₀ := lo) (r₀ := r0) rfl HREC2.out (by omega) (gf := 46) (lb := #[.pointer (some ⟨V.heap.size, 0, none⟩)]) rfl trivial (enters_of Try.func46 (by kernel_rfl) rfl)
      (kept_stopsA A2 B2 m (kpO τ) 3 V.heap.size V2 hm HA2.out HKC.out (fun k => k = V.heap.size) rfl)
      (Nat.le_refl _) (fun k hk => ⟨by omega, rfl⟩) (fun _ => rfl)
      (fun q f1 U => J (lnB (flL σ τ (ki (kpO τ) m) pre ++ rowB σ τ x q)) (fun k => f1 k ∨ f k ∨ f0 k ∨ k = W.heap.size ∨ k = W.heap.size + 1 ∨ k = rb) U ∧ BxS B1 B2 D C W.heap.size l A1 A2 n m σ τ U ∧ Boxed U (W.heap.size + 1) 3 (.int .i64 ((flL σ τ (ki (kpO τ) m) pre ++ rowB σ τ x q).length : Nat)) ∧ Boxed U rb 78 (.pointer (some ⟨B1, x * 7, none⟩)) ∧ Rk X1.heap.size f V U)
      (fun c q f1 U => c = .ret ∧ Jx (lnB (flL σ τ (ki (kpO τ) m) pre ++ rowB σ τ x q)) (fun k => f1 k ∨ f k ∨ f0 k ∨ k = W.heap.size ∨ k = W.heap.size + 1 ∨ k = rb) U ∧ KeepsFrom X1.heap.size V U)
      (fun q f1 U h => h.2.1.rd2)
      ?abI2 ?abX2
      ⟨by rw [show rowB σ τ x [] = [] from rfl, List.append_nil]; exact HJ2.out, HBX2.out, by rw [show rowB σ τ x [] = [] from rfl, List.append_nil]; exact HNB2.out, HRB2.out, HRK2.out⟩
      ?a2 ?assign2 ?body2 ?done2 ?stop2
    case abI2 =>
      refine fun q f1 f1' A B h ht hf => ⟨HJ.out _ _ _ A B h.1 ((ht.mono (by omega)).moreF (fun _ h => .inl h)) (fun k hk => ?_), h.2.1.keep (fun k o ho hk => ht.block k o ho (.inl ?_)), ht.block _ _ h.2.2.1 (.inl (by omega)), ht.block _ _ h.2.2.2.1 (.inl (by omega)), AbP.rk (β := Unit) (by omega) HFV.out () f1 f1' A B h.2.2.2.2 ht hf⟩
      · rcases hk with hk | hk
        · exact (hf k hk).imp .inl id
        · exact .inl (.inr hk)
      · have := HLT.out
        rcases hk with ⟨rfl, h1⟩ | ⟨rfl, h1⟩ | rfl | rfl | rfl
        · have := this.2.2.1 h1; omega
        · have := this.2.2.2 h1; omega
        · omega
        · omega
        · omega
    case abX2 =>
      rintro c q f1 f1' A B ⟨hc, hjx, hk⟩ ht hf
      refine ⟨hc, HJX.out _ _ _ A B hjx ((ht.mono (by omega)).moreF (fun _ h => .inl h)) (fun k hk => ?_), AbP.keeps (β := Unit) (by omega) () f1 f1' A B hk ht hf⟩
      rcases hk with hk | hk
      · exact (hf k hk).imp .inl id
      · exact .inl (.inr hk)
    case assign2 =>
      intro l' j U K hK
      simp only [encK]
      rw [put_one1]
      gi_wp2
      exact hK
    case body2 =>
      rintro l' q j f1 U hff1 hz1 ⟨hj, hbx, hnb, hrb, hrk⟩ hlen1 hel1
      have hs1 := hbx.s1 (by have := HEL.out.1; omega)
      have hs2 := hbx.s2 (by have := hel1.1; omega)
      have c1 : U.cell? ⟨B1, x * 7 + 5, none⟩ = some (.int .i64 (σ x).a) := by rw [hs1.cell, slB_get HEL.out.1 (by omega)]; rfl
      have c2 : U.cell? ⟨B1, x * 7 + 6, none⟩ = some (.int .i64 (σ x).sz) := by rw [hs1.cell, slB_get HEL.out.1 (by omega)]; rfl
      have c3 : U.cell? ⟨B2, j * 7 + 5, none⟩ = some (.int .i64 (τ j).a) := by rw [hs2.cell, slB_get hel1.1 (by omega)]; rfl
      have c4 : U.cell? ⟨B2, j * 7 + 6, none⟩ = some (.int .i64 (τ j).sz) := by rw [hs2.cell, slB_get hel1.1 (by omega)]; rfl
      have k0 := cell_regrown hbx.y.cell
      have k1 := cell_regrown hnb.cell
      have k2 := cell_regrown hrb.cell
      have k3 := cell_regrown c1
      have k4 := cell_regrown c2
      have k5 := cell_regrown c3
      have k6 := cell_regrown c4
      have HQ : Hid (flL σ τ (ki (kpO τ) m) pre ++ rowB σ τ x (q ++ [j]) = (flL σ τ (ki (kpO τ) m) pre ++ rowB σ τ x q) ++ [bxOf (σ x) (τ j)]) := by show _ = _; rw [rowB_snoc, List.append_assoc]
      have HTL : Hid ((lnB (flL σ τ (ki (kpO τ) m) pre ++ rowB σ τ x q)).length < n * m) := by show _ < _; rw [lnB_length]; exact told_lt HLEN.out hlen1
      have HT4 : Hid ((flL σ τ (ki (kpO τ) m) pre ++ rowB σ τ x q).length < 4096) := by
        have h1 := HTL.out
        rw [lnB_length] at h1
        have h2 : n * m ≤ 64 * 64 := Nat.mul_le_mul hn hm
        show _ < _
        omega
      obtain ⟨T, hT⟩ : ∃ T, flL σ τ (ki (kpO τ) m) pre ++ rowB σ τ x q = T := ⟨_, rfl⟩
      rw [hT] at hj hnb k1 HQ HTL HT4
      have hnf1 : ¬ f1 (W.heap.size + 1) := fun h => by rcases hff1 _ h with h | h <;> omega
      have hf1U : ∀ k, f1 k → k < U.heap.size := fun k hk => by rcases hff1 k hk with h | h <;> omega
      have HJU := Lib.hid hj
      have HBXU := Lib.hid hbx
      have HNBU := Lib.hid hnb
      have HRBU := Lib.hid hrb
      have HRKU := Lib.hid hrk
      have HNF1 := Lib.hid hnf1
      have HF1U := Lib.hid hf1U
      have hTn : (T.length : Int) < 4096 := by have := HT4.out; omega
      have HBXE : Hid (bxOf (σ x) (τ j) = ⟨(σ x).a, (τ j).a, (σ x).sz, (τ j).sz⟩) := rfl
      clear hj hbx hnb hrb hrk hs1 hs2 c1 c2 c3 c4 hnf1 hf1U hff1 hlen1 hel1 hT
      generalize (σ x).a = ra at *
      generalize (σ x).sz = rz at *
      generalize (τ j).a = ca at *
      generalize (τ j).sz = cz at *
      generalize hbe : bxOf (σ x) (τ j) = be at *
      have hbe' := HBXE.out
      subst hbe'
      clear hbe HBXE
      gi_wp2_with (fail)
      refine wpIn_region_below_tail 19 (by kernel_rfl) (by kernel_rfl) (by kernel_rfl) ?_
      simp only [List.take_succ_cons, List.take_zero, List.drop_succ_cons, List.drop_zero]
      repeat (first
        | gi_big_quiet_step (fail)
        | quiet_step_in (fail))
      refine wpQuietIn_nil ?_
      intro _ hw'
      obtain ⟨⟨dq, osq⟩, hw''⟩ := hw'
      subst hw''
      have hb2 := below_regrown U dq osq
      have hju := HJ.out _ _ _ U (grow (redrawn U dq) osq) HJU.out (Turn.of_below hb2) (fun k hk => .inl hk)
      have hbxu := HBXU.out.below hb2
      have hnbu : Boxed (grow (redrawn U dq) osq) (W.heap.size + 1) 3 (.int .i64 (T.length : Nat)) := (hb2.block _ (Boxed.lt HNBU.out)).trans HNBU.out
      have hrbu : Boxed (grow (redrawn U dq) osq) rb 78 (.pointer (some ⟨B1, x * 7, none⟩)) := (hb2.block _ (Boxed.lt HRBU.out)).trans HRBU.out
      have hrkf : Rk X1.heap.size f U (grow (redrawn U dq) osq) := Rk.of_below hb2 (fun k hk => Nat.lt_of_lt_of_le (HFV.out k hk) HRKU.out.below.size)
      have hrk1 : Rk V2.heap.size f1 U (grow (redrawn U dq) osq) := Rk.of_below hb2 HF1U.out
      clear k0 k1 k2 k3 k4 k5 k6 hb2
      generalize grow (redrawn U dq) osq = U2 at *
      have hyy := HY.out (lnB T) (T.length, ⟨ra, ca, rz, cz⟩) _ U2 hju HTL.out trivial
      obtain ⟨fn, tmps, assign, bodyc, hy, hR⟩ := hyy
      have hR' := RoundIn.inR l' (RoundIn.inR lo (RoundIn.lev (m' := 3) hR))
      simp only [encB] at hy
      have HBXU2 := Lib.hid hbxu
      have HNBU2 := Lib.hid hnbu
      have HRBU2 := Lib.hid hrbu
      have HRKF := Lib.hid hrkf
      have HRK1 := Lib.hid hrk1
      clear hju hbxu hnbu hrbu hrkf hrk1 hR
      gi_wp2
      refine hR'.mono ?_
      rintro e U3 (⟨rfl, hJ3, hk3⟩ | ⟨rfl, hJ3, hk3⟩)
      · rw [← lnB_snoc, ← HQ.out] at hJ3
        have hnb3 : Boxed U3 (W.heap.size + 1) 3 (.int .i64 (T.length : Nat)) := (hk3.mine _ (.inr (.inr (.inr (.inr (.inl rfl)))))).trans HNBU2.out
        have hrb3 : Boxed U3 rb 78 (.pointer (some ⟨B1, x * 7, none⟩)) := (hk3.mine _ (.inr (.inr (.inr (.inr (.inr rfl)))))).trans HRBU2.out
        have hbx3 : BxS B1 B2 D C W.heap.size l A1 A2 n m σ τ U3 := HBXU2.out.keep (fun k o ho hk => by
          have hfi := HFI.out
          have hkf : f1 k ∨ f k ∨ f0 k ∨ k = W.heap.size ∨ k = W.heap.size + 1 ∨ k = rb := by
            rcases hk with ⟨rfl, h1⟩ | ⟨rfl, h1⟩ | rfl | rfl | rfl
            · exact .inr (.inr (.inl (hfi.2.2.1 h1)))
            · exact .inr (.inr (.inl (hfi.2.2.2 h1)))
            · exact .inr (.inr (.inl hfi.1))
            · exact .inr (.inr (.inl hfi.2.1))
            · exact .inr (.inr (.inr (.inl rfl)))
          exact (hk3.mine k hkf).trans ho)
        have c9 := hnb3.cell
        have f9 := hnb3.frozen
        have HJ3 := Lib.hid hJ3
        have HBX3 := Lib.hid hbx3
        have HNB3 := Lib.hid hnb3
        have HRB3 := Lib.hid hrb3
        have HK3 := Lib.hid hk3
        clear hJ3 hbx3 hnb3 hrb3 hk3
        gi_wp2
        have hj4 := HJ.out _ _ _ U3 (U3.setCell ⟨W.heap.size + 1, 0, none⟩ (.int .i64 ((T.length : Int) + 1))) HJ3.out ((Turn.refl W.heap.size _ U3).setCell (by omega) (.inl (.inr (.inr (.inr (.inr (.inl rfl)))))) (.int .i64 ((T.length : Int) + 1))) (fun k hk => .inl hk)
        refine ⟨(HRK1.out.trans (HK3.out.weak (by omega) (fun k hk => .inl hk))).setCell HNF1.out _, hj4, ?_, ?_, ?_, ?_⟩
        · exact HBX3.out.keep (fun k o ho hk => by
            have := HLT.out
            refine (Below.heap_setCell _ _ _ _ (fun e => ?_)).trans ho
            have e' : k = W.heap.size + 1 := e
            clear e
            rcases hk with ⟨rfl, h1⟩ | ⟨rfl, h1⟩ | rfl | rfl | rfl
            · have := this.2.2.1 h1; omega
            · have := this.2.2.2 h1; omega
            · omega
            · omega
            · omega)
        · rw [HQ.out, List.length_append, List.length_singleton]
          have := Boxed.set (.int .i64 ((T.length : Int) + 1)) HNB3.out
          rwa [show ((T.length + 1 : Nat) : Int) = (T.length : Int) + 1 by omega]
        · exact Boxed.other HRB3.out (B' := W.heap.size + 1) (by omega) _
        · exact ((HRKU.out.trans (HRKF.out)).trans (HK3.out.weak (by omega) (fun k hk => .inr (.inl hk)))).setCell HNF.out _
      · rw [← lnB_snoc, ← HQ.out] at hJ3
        have HJ3 := Lib.hid hJ3
        have HK3 := Lib.hid hk3
        clear hJ3 hk3
        gi_wp2
        refine ⟨HRK1.out.keeps.trans ⟨HK3.out.size, fun k o hk ho hc => HK3.out.same k o (by omega) ho hc⟩, rfl, HJ3.out, (HRKU.out.keeps.trans HRKF.out.keeps).trans ⟨HK3.out.size, fun k o hk ho hc => HK3.out.same k o (by omega) ho hc⟩⟩
    case done2 =>
      rintro q f1 U rfl ⟨hj, hbx, hnb, hrb, hrk⟩
      rw [← flL_snoc] at hj hnb
      refine ⟨hrk, HJ.out _ _ _ U U hj (Turn.refl _ _ _) (fun k hk => ?_), hbx, hnb⟩
      rcases hk with hk | hk | hk | hk
      · exact .inl (.inr (.inl hk))
      · exact .inl (.inr (.inr (.inl hk)))
      · exact .inl (.inr (.inr (.inr (.inl hk))))
      · exact .inl (.inr (.inr (.inr (.inr (.inl hk)))))
    case stop2 =>
      rintro c q f1 U hsp ⟨rfl, hjx, hkf⟩
      have hfin := HJX.out _ _ (fun k => f k ∨ f0 k ∨ k = W.heap.size ∨ k = W.heap.size + 1) U U hjx (Turn.refl _ _ _) (fun k hk => by
        rcases hk with hk | hk | hk | hk
        · exact .inl (.inr (.inl hk))
        · exact .inl (.inr (.inr (.inl hk)))
        · exact .inl (.inr (.inr (.inr (.inl hk))))
        · exact .inl (.inr (.inr (.inr (.inr (.inl hk))))))
      have HFN := Lib.hid hfin
      have HSP := Lib.hid hsp
      have HKF := Lib.hid hkf
      clear hfin hsp hjx hkf
      gi_wp2
      exact ⟨HKF.out, rfl, pre, x, q, rfl, HSP.out, HFN.out⟩
  case done =>
    rintro Dd ys f V hD rfl ⟨hj, hbx, hnb⟩ hK
    have hfin := HJ.out.put (.deferred none) hj (by omega) hK rfl
    have HFN := Lib.hid hfin
    clear hfin hj hbx hnb hJ1
    gi_wp2
    refine ⟨by simp, .inl ⟨_, _, rfl, run_takeDeferred hK, ?_⟩⟩
    exact ⟨_, results_none rfl _ _ _, ⟨_, rfl⟩, .inl ⟨_, _, rfl, HFN.out⟩⟩
  case stop =>
    rintro Dd c pre f V hD hsp ⟨rfl, p, x, q, e1, e2, hjx⟩ hK
    have hfin := HJX.out.put (.deferred none) hjx (by omega) hK rfl
    have HFN := Lib.hid hfin
    have hpf : lnB (flL σ τ (ki (kpO τ) m) p ++ rowB σ τ x q) <+: lnB (boxL σ n τ m) := lnB_prefix (fl_prefix (by rw [← e1]; exact hsp) e2)
    have HPF := Lib.hid hpf
    clear hfin hjx hJ1 hpf
    gi_wp2
    refine ⟨by simp, .inl ⟨_, _, rfl, run_takeDeferred hK, ?_⟩⟩
    exact ⟨_, results_none rfl _ _ _, ⟨_, rfl⟩, .inr ⟨_, _, HPF.out, HFN.out⟩⟩
end Go.Proofs.Ytdodogehlnchlaa
