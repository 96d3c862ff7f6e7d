/-
  Walks: first.
-/
import Derived.Test.YteolafeeggjblaaDoorKnBr
namespace Go.Proofs.YteolafeeggjblaaDoor
open Go.RowKit Go.Sort
set_option linter.unusedVariables false
set_option linter.unusedSimpArgs false

set_option maxRecDepth 100000 in
set_option maxHeartbeats 4000000 in
theorem top_wait (s : List UInt8) (hs : s = [] ∨ s = [27]) (w : World) :
    Calls Tryd.prog 40 #[.string ⟨s.toArray⟩] w fun e w' => e = fEnd (Kv.no, 0) ∧ Below w.heap.size w w' := by
  rcases hs with rfl | rfl
  all_goals
    go_enter Tryd.func40, Tryd.ntmps40
    go_wp2_with (fail)
    refine bodyPost_ret (v := .tuple #[Kv.no.agg, .int .i64 0]) ?_ rfl ⟨rfl, kbel _ _⟩
    simp [results, Tryd.results40, go_sem]; rfl
set_option maxRecDepth 100000 in
set_option maxHeartbeats 4000000 in
theorem top_plain (c : UInt8) (t : List UInt8) (hc : c ≠ 27) (hl : t.length ≤ 100000) (K : Kv) (n : Nat) (HQ : Hid (∀ w, Calls Tryd.prog 50 #[.string ⟨(c :: t).toArray⟩] w fun e w' => e = fEnd (K, n) ∧ Below w.heap.size w w')) (w : World) :
    Calls Tryd.prog 40 #[.string ⟨(c :: t).toArray⟩] w fun e w' => e = fEnd (K, n) ∧ Below w.heap.size w w' := by
  obtain ⟨b, hb⟩ : ∃ b : ByteArray, b = ⟨(c :: t).toArray⟩ := ⟨_, rfl⟩
  have hsz : b.size = t.length + 1 := by rw [hb]; simp [ByteArray.size]
  have hg : b[0]'(by omega) = c := by subst hb; rfl
  have hlt' : (0 : Int) < (b.size : Int) := by omega
  have hE1 : b.toList.isEmpty = false := by rw [hb, Lib.toList_data]; rfl
  have hE3 : (b.toList == [27]) = false := by
    rw [hb, Lib.toList_data, beq_eq_false_iff_ne]
    intro e
    injection e with e _
    exact hc e
  rw [← hb] at HQ ⊢
  clear hb
  have hci : ((c.toNat : Int) == 27) = false := by
    simp
    exact fun e => hc ((u8_of c 27 (by omega)).1 (by omega))
  clear hc
  obtain ⟨W0, HW0, HB0, HZ⟩ := kzero w
  go_enter Tryd.func40, Tryd.ntmps40
  go_upto_region 1 with fail
  rw [← HW0.out]
  clear HW0
  go_wp2_with (first
    | (go_at_call 50; refine (HQ.out _).mono ?_; rintro e w1 ⟨rfl, hb1⟩; have HB1 := Lib.hid (kstep HB0.out hb1); have HZ1 := Lib.hid (HZ.out.below hb1 HZ.out.lt); clear hb1)
    | ((with_reducible refine at_store 2 ?_); refine wpList_store_blk rfl _ _ _ rfl rfl w.heap.size 0 _ Kv.no.cells K.cells rfl rfl HZ1.out (by simp [Kv.len]) kv_size (Kv.one _) ?_; intro w9 hn9 hg9))
  exact bodyPost_ret (kresults_ct rfl rfl rfl (kwhole hn9) Tryd.underlying40 rfl kv_size) rfl ⟨rfl, kfin HB1.out hg9⟩
set_option maxRecDepth 100000 in
set_option maxHeartbeats 4000000 in
theorem top_esc (t : List UInt8) (hl : t.length ≤ 100000) (w : World) :
    Calls Tryd.prog 40 #[.string ⟨(27 :: 27 :: t).toArray⟩] w fun e w' => e = fEnd (kc 5, 1) ∧ Below w.heap.size w w' := by
  obtain ⟨b, hb⟩ : ∃ b : ByteArray, b = ⟨(27 :: 27 :: t).toArray⟩ := ⟨_, rfl⟩
  have hsz : b.size = t.length + 2 := by rw [hb]; simp [ByteArray.size]
  have hg : b[0]'(by omega) = 27 := by subst hb; rfl
  have hg1 : b[1]'(by omega) = 27 := by subst hb; rfl
  have hlt' : (0 : Int) < (b.size : Int) := by omega
  have hlt1 : (1 : Int) < (b.size : Int) := by omega
  have hk91 : (⟨#[27, 91]⟩ : ByteArray)[1]'(by decide) = 91 := rfl
  have hk79 : (⟨#[27, 79]⟩ : ByteArray)[1]'(by decide) = 79 := rfl
  have hE1 : b.toList.isEmpty = false := by rw [hb, Lib.toList_data]; rfl
  have hE3 : (b.toList == [27]) = false := by
    rw [hb, Lib.toList_data, beq_eq_false_iff_ne]
    intro e
    injection e with _ e
    cases e
  rw [← hb]
  clear hb
  go_enter Tryd.func40, Tryd.ntmps40
  go_wp2_with (fail)
  refine bodyPost_ret (v := .tuple #[(kc 5).agg, .int .i64 1]) ?_ rfl ⟨rfl, kbel _ _⟩
  simp [results, Tryd.results40, go_sem]; rfl
set_option maxRecDepth 100000 in
set_option maxHeartbeats 4000000 in
theorem top_br (t : List UInt8) (hl : t.length ≤ 100000) (K : Kv) (n : Nat) (HQ : Hid (∀ w, Calls Tryd.prog 51 #[.string ⟨(27 :: 91 :: t).toArray⟩] w fun e w' => e = fEnd (K, n) ∧ Below w.heap.size w w')) (w : World) :
    Calls Tryd.prog 40 #[.string ⟨(27 :: 91 :: t).toArray⟩] w fun e w' => e = fEnd (K, n) ∧ Below w.heap.size w w' := by
  obtain ⟨b, hb⟩ : ∃ b : ByteArray, b = ⟨(27 :: 91 :: t).toArray⟩ := ⟨_, rfl⟩
  have hsz : b.size = t.length + 2 := by rw [hb]; simp [ByteArray.size]
  have hg : b[0]'(by omega) = 27 := by subst hb; rfl
  have hg1 : b[1]'(by omega) = 91 := by subst hb; rfl
  have hlt' : (0 : Int) < (b.size : Int) := by omega
  have hlt1 : (1 : Int) < (b.size : Int) := by omega
  have hk91 : (⟨#[27, 91]⟩ : ByteArray)[1]'(by decide) = 91 := rfl
  have hk79 : (⟨#[27, 79]⟩ : ByteArray)[1]'(by decide) = 79 := rfl
  have hE1 : b.toList.isEmpty = false := by rw [hb, Lib.toList_data]; rfl
  have hE3 : (b.toList == [27]) = false := by
    rw [hb, Lib.toList_data, beq_eq_false_iff_ne]
    intro e
    injection e with _ e
    cases e
  rw [← hb] at HQ ⊢
  clear hb
  obtain ⟨W0, HW0, HB0, HZ⟩ := kzero w
  go_enter Tryd.func40, Tryd.ntmps40
  go_upto_region 1 with fail
  rw [← HW0.out]
  clear HW0
  go_upto_region 7 with fail
  go_quiet (fail)
  go_wp2_with (first
    | (go_at_call 51; refine (HQ.out _).mono ?_; rintro e w1 ⟨rfl, hb1⟩; have HB1 := Lib.hid (kstep (below_drewN HB0.out _) hb1); have HZ1 := Lib.hid ((HZ.out.drewN _).below hb1 (HZ.out.drewN _).lt); clear hb1)
    | ((with_reducible refine at_store 2 ?_); refine wpList_store_blk rfl _ _ _ rfl rfl w.heap.size 0 _ Kv.no.cells K.cells rfl rfl HZ1.out (by simp [Kv.len]) kv_size (Kv.one _) ?_; intro w9 hn9 hg9))
  exact bodyPost_ret (kresults_ct rfl rfl rfl (kwhole hn9) Tryd.underlying40 rfl kv_size) rfl ⟨rfl, kfin HB1.out hg9⟩
set_option maxRecDepth 100000 in
set_option maxHeartbeats 4000000 in
theorem top_le (t : List UInt8) (hl : t.length ≤ 100000) (K : Kv) (n : Nat) (HQ : Hid (∀ w, Calls Tryd.prog 52 #[.string ⟨(27 :: 79 :: t).toArray⟩] w fun e w' => e = fEnd (K, n) ∧ Below w.heap.size w w')) (w : World) :
    Calls Tryd.prog 40 #[.string ⟨(27 :: 79 :: t).toArray⟩] w fun e w' => e = fEnd (K, n) ∧ Below w.heap.size w w' := by
  obtain ⟨b, hb⟩ : ∃ b : ByteArray, b = ⟨(27 :: 79 :: t).toArray⟩ := ⟨_, rfl⟩
  have hsz : b.size = t.length + 2 := by rw [hb]; simp [ByteArray.size]
  have hg : b[0]'(by omega) = 27 := by subst hb; rfl
  have hg1 : b[1]'(by omega) = 79 := by subst hb; rfl
  have hlt' : (0 : Int) < (b.size : Int) := by omega
  have hlt1 : (1 : Int) < (b.size : Int) := by omega
  have hk91 : (⟨#[27, 91]⟩ : ByteArray)[1]'(by decide) = 91 := rfl
  have hk79 : (⟨#[27, 79]⟩ : ByteArray)[1]'(by decide) = 79 := rfl
  have hE1 : b.toList.isEmpty = false := by rw [hb, Lib.toList_data]; rfl
  have hE3 : (b.toList == [27]) = false := by
    rw [hb, Lib.toList_data, beq_eq_false_iff_ne]
    intro e
    injection e with _ e
    cases e
  rw [← hb] at HQ ⊢
  clear hb
  obtain ⟨W0, HW0, HB0, HZ⟩ := kzero w
  go_enter Tryd.func40, Tryd.ntmps40
  go_upto_region 1 with fail
  rw [← HW0.out]
  clear HW0
  go_upto_region 7 with fail
  go_quiet (fail)
  go_upto_region 9 with fail
  go_quiet (fail)
  go_wp2_with (first
    | (go_at_call 52; refine (HQ.out _).mono ?_; rintro e w1 ⟨rfl, hb1⟩; have HB1 := Lib.hid (kstep (below_drewN HB0.out _) hb1); have HZ1 := Lib.hid ((HZ.out.drewN _).below hb1 (HZ.out.drewN _).lt); clear hb1)
    | ((with_reducible refine at_store 2 ?_); refine wpList_store_blk rfl _ _ _ rfl rfl w.heap.size 0 _ Kv.no.cells K.cells rfl rfl HZ1.out (by simp [Kv.len]) kv_size (Kv.one _) ?_; intro w9 hn9 hg9))
  exact bodyPost_ret (kresults_ct rfl rfl rfl (kwhole hn9) Tryd.underlying40 rfl kv_size) rfl ⟨rfl, kfin HB1.out hg9⟩
set_option maxRecDepth 100000 in
set_option maxHeartbeats 4000000 in
theorem top_alt0 (d : UInt8) (t : List UInt8) (h1 : d ≠ 27) (h2 : d ≠ 91) (h3 : d ≠ 79) (hl : t.length ≤ 100000) (K : Kv) (n : Nat) (HQ : Hid (∀ w, Calls Tryd.prog 50 #[.string ⟨(d :: t).toArray⟩] w fun e w' => e = fEnd (K, 0) ∧ Below w.heap.size w w')) (w : World) :
    Calls Tryd.prog 40 #[.string ⟨(27 :: d :: t).toArray⟩] w fun e w' => e = fEnd (Kv.no, 0) ∧ Below w.heap.size w w' := by
  obtain ⟨b, hb⟩ : ∃ b : ByteArray, b = ⟨(27 :: d :: t).toArray⟩ := ⟨_, rfl⟩
  have hsz : b.size = t.length + 2 := by rw [hb]; simp [ByteArray.size]
  have hg : b[0]'(by omega) = 27 := by subst hb; rfl
  have hg1 : b[1]'(by omega) = d := by subst hb; rfl
  have hlt' : (0 : Int) < (b.size : Int) := by omega
  have hlt1 : (1 : Int) < (b.size : Int) := by omega
  have hk91 : (⟨#[27, 91]⟩ : ByteArray)[1]'(by decide) = 91 := rfl
  have hk79 : (⟨#[27, 79]⟩ : ByteArray)[1]'(by decide) = 79 := rfl
  have hE1 : b.toList.isEmpty = false := by rw [hb, Lib.toList_data]; rfl
  have hE3 : (b.toList == [27]) = false := by
    rw [hb, Lib.toList_data, beq_eq_false_iff_ne]
    intro e
    injection e with _ e
    cases e
  have HX := Lib.hid (show b.extract 1 (t.length + 2) = ⟨(d :: t).toArray⟩ by rw [hb]; apply ByteArray.ext; simp [ByteArray.data_extract])
  rw [← HX.out] at HQ
  rw [← hb]
  clear hb HX
  have hci : ((d.toNat : Int) == 27) = false := by simp; exact fun e => h1 ((u8_of d 27 (by omega)).1 (by omega))
  have hcj : ((d.toNat : Int) == 91) = false := by simp; exact fun e => h2 ((u8_of d 91 (by omega)).1 (by omega))
  have hck : ((d.toNat : Int) == 79) = false := by simp; exact fun e => h3 ((u8_of d 79 (by omega)).1 (by omega))
  have hl1 : (1 : Int) ≤ (b.size : Int) := by omega
  clear h1
  obtain ⟨W0, HW0, HB0, HZ⟩ := kzero w
  go_enter Tryd.func40, Tryd.ntmps40
  go_upto_region 1 with fail
  rw [← HW0.out]
  clear HW0
  go_upto_region 7 with fail
  go_quiet (fail)
  go_upto_region 9 with fail
  go_quiet (fail)
  go_upto_region 13 with (first
    | (go_at_call 50; refine (HQ.out _).mono ?_; rintro e w1 ⟨rfl, hb1⟩; have HB1 := Lib.hid (kstep (below_drewN HB0.out _) hb1); have HZ1 := Lib.hid ((HZ.out.drewN _).below hb1 (HZ.out.drewN _).lt); clear hb1)
    | ((with_reducible refine at_store 2 ?_); refine wpList_store_blk rfl _ _ _ rfl rfl w.heap.size 0 _ Kv.no.cells K.cells rfl rfl HZ1.out (by simp [Kv.len]) kv_size (Kv.one _) ?_; intro w5 hn5 hg5; have hn5' : Blk w5 w.heap.size 40 K.cells := hn5; have HZ5 := Lib.hid hn5'; have HB5 := Lib.hid (kfin HB1.out hg5); clear hn5 hn5' hg5))
  go_wp2_with ((with_reducible refine at_store 2 ?_); refine wpList_store_blk rfl _ _ _ rfl rfl w.heap.size 0 _ K.cells Kv.no.cells rfl rfl HZ5.out (by simp [Kv.len]) kv_size (Kv.one _) ?_; intro w9 hn9 hg9)
  exact bodyPost_ret (kresults_ct rfl rfl rfl (kwhole hn9) Tryd.underlying40 rfl kv_size) rfl ⟨rfl, kfin HB5.out hg9⟩
set_option maxRecDepth 100000 in
set_option maxHeartbeats 4000000 in
theorem top_alt1 (d : UInt8) (t : List UInt8) (h1 : d ≠ 27) (h2 : d ≠ 91) (h3 : d ≠ 79) (hl : t.length ≤ 100000) (K : Kv) (n : Nat) (hn : 1 ≤ n) (hn5 : n ≤ 5) (HQ : Hid (∀ w, Calls Tryd.prog 50 #[.string ⟨(d :: t).toArray⟩] w fun e w' => e = fEnd (K, n) ∧ Below w.heap.size w w')) (w : World) :
    Calls Tryd.prog 40 #[.string ⟨(27 :: d :: t).toArray⟩] w fun e w' => e = fEnd ({ K with a := true }, 1 + n) ∧ Below w.heap.size w w' := by
  obtain ⟨b, hb⟩ : ∃ b : ByteArray, b = ⟨(27 :: d :: t).toArray⟩ := ⟨_, rfl⟩
  have hsz : b.size = t.length + 2 := by rw [hb]; simp [ByteArray.size]
  have hg : b[0]'(by omega) = 27 := by subst hb; rfl
  have hg1 : b[1]'(by omega) = d := by subst hb; rfl
  have hlt' : (0 : Int) < (b.size : Int) := by omega
  have hlt1 : (1 : Int) < (b.size : Int) := by omega
  have hk91 : (⟨#[27, 91]⟩ : ByteArray)[1]'(by decide) = 91 := rfl
  have hk79 : (⟨#[27, 79]⟩ : ByteArray)[1]'(by decide) = 79 := rfl
  have hE1 : b.toList.isEmpty = false := by rw [hb, Lib.toList_data]; rfl
  have hE3 : (b.toList == [27]) = false := by
    rw [hb, Lib.toList_data, beq_eq_false_iff_ne]
    intro e
    injection e with _ e
    cases e
  have HX := Lib.hid (show b.extract 1 (t.length + 2) = ⟨(d :: t).toArray⟩ by rw [hb]; apply ByteArray.ext; simp [ByteArray.data_extract])
  rw [← HX.out] at HQ
  rw [← hb]
  clear hb HX
  have hci : ((d.toNat : Int) == 27) = false := by simp; exact fun e => h1 ((u8_of d 27 (by omega)).1 (by omega))
  have hcj : ((d.toNat : Int) == 91) = false := by simp; exact fun e => h2 ((u8_of d 91 (by omega)).1 (by omega))
  have hck : ((d.toNat : Int) == 79) = false := by simp; exact fun e => h3 ((u8_of d 79 (by omega)).1 (by omega))
  have hl1 : (1 : Int) ≤ (b.size : Int) := by omega
  clear h1
  obtain ⟨W0, HW0, HB0, HZ⟩ := kzero w
  go_enter Tryd.func40, Tryd.ntmps40
  go_upto_region 1 with fail
  rw [← HW0.out]
  clear HW0
  go_upto_region 7 with fail
  go_quiet (fail)
  go_upto_region 9 with fail
  go_quiet (fail)
  go_upto_region 14 with (first
    | (go_at_call 50; refine (HQ.out _).mono ?_; rintro e w1 ⟨rfl, hb1⟩; have HB1 := Lib.hid (kstep (below_drewN HB0.out _) hb1); have HZ1 := Lib.hid ((HZ.out.drewN _).below hb1 (HZ.out.drewN _).lt); clear hb1)
    | ((with_reducible refine at_store 2 ?_); refine wpList_store_blk rfl _ _ _ rfl rfl w.heap.size 0 _ Kv.no.cells K.cells rfl rfl HZ1.out (by simp [Kv.len]) kv_size (Kv.one _) ?_; intro w5 hn5 hg5; have hn5' : Blk w5 w.heap.size 40 K.cells := hn5; have HZ5 := Lib.hid hn5'; have HB5 := Lib.hid (kfin HB1.out hg5); clear hn5 hn5' hg5))
  have x3 : w5.cell? ⟨w.heap.size, 3, none⟩ = some (.bool K.a) := HZ5.out.cell 3
  have f3 := HZ5.out.frozen 3
  have HZ6 : Hid (Blk (w5.setCell ⟨w.heap.size, 3, none⟩ (.bool true)) w.heap.size 40 (Kv.cells { K with a := true })) := Lib.hid (HZ5.out.set_ 3 (.bool true))
  have HB6 : Hid (Below w.heap.size w (w5.setCell ⟨w.heap.size, 3, none⟩ (.bool true))) := Lib.hid (HB5.out.setCell (p := ⟨w.heap.size, 3, none⟩) (Nat.le_refl _) _)
  go_upto_region 15 with fail
  clear x3 f3
  generalize w5.setCell ⟨w.heap.size, 3, none⟩ (.bool true) = w6 at HZ6 HB6 ⊢
  obtain ⟨K', hK'⟩ : ∃ K' : Kv, K' = { K with a := true } := ⟨_, rfl⟩
  rw [← hK'] at HZ6
  have HK := Lib.hid hK'
  clear hK'
  go_wp2_with (first
    | ((with_reducible refine at_dst 53 ?_); refine wpList_load_mid rfl _ _ rfl w.heap.size 0 rfl K'.cells _ (kwhole HZ6.out) Tryd.underlying40 rfl kv_size ?_)
    | ((with_reducible refine at_store 2 ?_); refine wpList_store_blk rfl _ _ _ rfl rfl w.heap.size 0 _ K'.cells K'.cells rfl rfl HZ6.out (by simp [Kv.len]) kv_size (Kv.one _) ?_; intro w9 hn9 hg9))
  refine bodyPost_ret (v := .tuple #[K'.agg, .int .i64 (1 + (n : Int))]) (kresults_ct rfl rfl rfl (kwhole hn9) Tryd.underlying40 rfl kv_size) rfl ⟨?_, kfin HB6.out hg9⟩
  rw [show (1 + (n : Int)) = ((1 + n : Nat) : Int) by omega, HK.out]
theorem first_any (s : List UInt8) (hl : s.length ≤ 100000) (w : World) :
    Calls Tryd.prog 40 #[.string ⟨s.toArray⟩] w fun e w' => e = fEnd (firstK s) ∧ Below w.heap.size w w' := by
  cases s with
  | nil => exact top_wait [] (.inl rfl) w
  | cons c t =>
    have hlt : t.length ≤ 100000 := by simp at hl; omega
    by_cases hc : c = 27
    · subst hc
      cases t with
      | nil => exact top_wait [27] (.inr rfl) w
      | cons d u =>
        have hlu : u.length ≤ 100000 := by simp at hlt; omega
        by_cases h1 : d = 27
        · subst h1; exact top_esc u hlu w
        by_cases h2 : d = 91
        · subst h2
          have e : firstK (27 :: 91 :: u) = brK (27 :: 91 :: u) := rfl
          rw [e]
          exact top_br u hlu _ _ (Lib.hid (fun w => bracket_any (27 :: 91 :: u) (by simp) hl w)) w
        by_cases h3 : d = 79
        · subst h3
          have e : firstK (27 :: 79 :: u) = leK (27 :: 79 :: u) := rfl
          rw [e]
          exact top_le u hlu _ _ (Lib.hid (fun w => lettered_any (27 :: 79 :: u) (by simp) (by omega) w)) w
        have e : firstK (27 :: d :: u) = if (plainK (d :: u)).2 = 0 then (Kv.no, 0) else ({ (plainK (d :: u)).1 with a := true }, 1 + (plainK (d :: u)).2) := by
          unfold firstK
          simp only
          rw [if_neg (by simp), if_neg h1, if_neg h2, if_neg h3]
        rw [e]
        have hp5 : (plainK (d :: u)).2 ≤ 5 := by
          by_cases hd : d < 32 ∨ d = 127
          · rw [plain_ctl hd]; show 1 ≤ 5; omega
          · cases hm : (nx (d :: u)).2.2 with
            | true => rw [plain_more hd hm]; show 0 ≤ 5; omega
            | false =>
              rw [plain_text hd hm]
              have := nx_n (d :: u) hm
              have h3 : (nx (d :: u)).2.1.toNat ≤ 5 := by have := this.2; omega
              dsimp only
              exact h3
        have HP := Lib.hid (fun w => plain_any d u hlu w)
        generalize plainK (d :: u) = r at HP hp5 ⊢
        obtain ⟨K, n⟩ := r
        by_cases h0 : n = 0
        · subst h0
          rw [if_pos rfl]
          exact top_alt0 d u h1 h2 h3 hlu K 0 HP w
        · rw [if_neg h0]
          exact top_alt1 d u h1 h2 h3 hlu K n (by omega) hp5 HP w
    · have e : firstK (c :: t) = plainK (c :: t) := by
        unfold firstK
        simp only
        rw [if_pos hc]
      rw [e]
      exact top_plain c t hc hlt _ _ (Lib.hid (fun w => plain_any c t hlt w)) w
end Go.Proofs.YteolafeeggjblaaDoor
